/-
  Chapter 4's own Read, by contract.
-/
import Derived.Test.YtchkadifjbmmpaaDoorWRecGet
namespace Go.Proofs.YtchkadifjbmmpaaDoor.R
open Go.RowKit Go.Lib
set_option maxRecDepth 100000

end Go.Proofs.YtchkadifjbmmpaaDoor.R
