/-
  Before, Less, compare of records, of the program and of chapter 4's own answer, and the law's one, by contract.
-/
import Derived.Test.YthamhbbgmibmoaaDoorWRecMay
namespace Go.Proofs.YthamhbbgmibmoaaDoor.R
open Go.RowKit Go.Lib
def cmpR (a b : Rc) : Int := if lessR a b then -1 else if lessR b a then 1 else 0
end Go.Proofs.YthamhbbgmibmoaaDoor.R
