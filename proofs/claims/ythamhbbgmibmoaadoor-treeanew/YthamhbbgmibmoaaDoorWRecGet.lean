/-
  Chapter 4's own Get, by contract.
-/
import Derived.Test.YthamhbbgmibmoaaDoorWRecReadAll
namespace Go.Proofs.YthamhbbgmibmoaaDoor.R
open Go.RowKit Go.Lib
set_option maxRecDepth 100000

def getT (n : Int) (b : Bool) (w : World) (e : Ending) (w' : World) : Prop := e = .returned (.tuple #[.int .i64 n, .bool b]) ∧ Below w.heap.size w w'
end Go.Proofs.YthamhbbgmibmoaaDoor.R
