/-
  Chapter 4's own Read, by contract.
-/
import Derived.Test.YthamhbbgmibmoaaDoorWRecGet
namespace Go.Proofs.YthamhbbgmibmoaaDoor.R
open Go.RowKit Go.Lib
set_option maxRecDepth 100000

end Go.Proofs.YthamhbbgmibmoaaDoor.R
