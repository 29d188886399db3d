/-
  Chapter 4's own Read, by contract.
-/
import Derived.Test.YtkmcieiglhdjeaaDoorVRecGet
namespace Go.Proofs.YtkmcieiglhdjeaaDoor
open Go.RowKit Go.Lib

end Go.Proofs.YtkmcieiglhdjeaaDoor
