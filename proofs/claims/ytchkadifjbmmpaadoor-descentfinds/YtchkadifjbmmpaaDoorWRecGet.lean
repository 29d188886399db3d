/-
  Chapter 4's own Get, by contract.
-/
import Derived.Test.YtchkadifjbmmpaaDoorWRecReadAll
namespace Go.Proofs.YtchkadifjbmmpaaDoor.R
open Go.RowKit Go.Lib
set_option maxRecDepth 100000

def getT (n : Int) (b : Bool) (w : World) (e : Ending) (w' : World) : Prop := e = .returned (.tuple #[.int .i64 n, .bool b]) ∧ Below w.heap.size w w'
end Go.Proofs.YtchkadifjbmmpaaDoor.R
