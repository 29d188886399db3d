/-
  Chapter 4's own Get, by contract.
-/
import Derived.Test.YtkmcieiglhdjeaaDoorVRecReadAll
namespace Go.Proofs.YtkmcieiglhdjeaaDoor
open Go.RowKit Go.Lib

def getT (n : Int) (b : Bool) (w : World) (e : Ending) (w' : World) : Prop := e = .returned (.tuple #[.int .i64 n, .bool b]) ∧ Below w.heap.size w w'
end Go.Proofs.YtkmcieiglhdjeaaDoor
