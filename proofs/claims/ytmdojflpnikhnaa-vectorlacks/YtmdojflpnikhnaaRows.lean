/-
  No cell of these rows narrows 'for every input' (looked for: loops, veiled, ifaces, maps, wideKeys, modest, calm, conditions, laid).
  DERIVED. THE GIVEN ROWS OF THIS SEAT. 5 by the template 'for every input the law returns true; each argument reads behind the call as it read before'; 0 by the template 'total and deterministic' (their statements: YtmdojflpnikhnaaTotals.lean).
  GIVEN WITH THE SEED: the statements are not yours to turn. If you find one false, say at which input.
  Laid BY PROGRAM, IN A SANDBOX (cutbox-rows.mjs): the forced cells as the released guide's own fill.sh prints them over the translation caef413306f7ce28… (all of the seat's roots in one cut). By AI agents, Wed Nov 11 2026. No macro, syntax, notation, axiom, sorry.
-/
import Derived.Test.YtmdojflpnikhnaaChecked
import GoSem.Claim
import GoSem.ClaimJoined
import GoSem.ClaimMapViews
import Derived.JoinedTies
import Derived.KernelRfl
namespace Go.Proofs.Ytmdojflpnikhnaa
/- THE CELL 'sum', in the pinned program and in every row, IS THE sha256 OF THE DUMP (.gsa) THAT YtmdojflpnikhnaaProg.lean LOADS. Nothing in Lean hashes anything: it is a label: what it is worth is what the hold of that sum in a sandbox is worth. -/
noncomputable def Try.pinned : Pinned := { name := "ytmdojflpnikhnaa", sum := "caef413306f7ce28d87308df7da4a8e2aae1163b82738ec5cbf7f62e3c39d645", checked := Try.checked }
namespace Rows
def none {H : Type} : Left H := { results := [], args := [] }

/-- 'grapevinelaw3.VectorTells': WHATEVER THE INPUT: true; the input reads as it did. -/
def vectorTellsSpec : ChangeSpec := { name := "vectorTells", fn := fun _ => fun
  | [d1, d2, d3, d4, d5] => { results := [.lit (.bool true)], args := [d1, d2, d3, d4, d5] }
  | _ => none }
def vectorTellsRow : OpenClaim := { program := "ytmdojflpnikhnaa", sum := "caef413306f7ce28d87308df7da4a8e2aae1163b82738ec5cbf7f62e3c39d645", func := "grapevine/grapevinelaw3.VectorTells", spec := "vectorTells", unfollowed := true, recurses := true, apart := false }
def VectorTellsSaid : Prop := vectorTellsRow.holds Try.pinned (OpenSpec.ofChange vectorTellsSpec)

/-- ITS FALSE NEIGHBOUR: 'it returns false'. Refute it at one input. -/
def vectorTellsWrong : ChangeSpec := { name := "vectorTells", fn := fun _ => fun
  | [d1, d2, d3, d4, d5] => { results := [.lit (.bool false)], args := [d1, d2, d3, d4, d5] }
  | _ => none }
def VectorTellsWrongFalsely : Prop := vectorTellsRow.holds Try.pinned (OpenSpec.ofChange vectorTellsWrong)

/-- 'grapevinelaw3.VectorLattice': WHATEVER THE INPUT: true; the input reads as it did. -/
def vectorLatticeSpec : ChangeSpec := { name := "vectorLattice", fn := fun _ => fun
  | [d1, d2, d3, d4] => { results := [.lit (.bool true)], args := [d1, d2, d3, d4] }
  | _ => none }
def vectorLatticeRow : OpenClaim := { program := "ytmdojflpnikhnaa", sum := "caef413306f7ce28d87308df7da4a8e2aae1163b82738ec5cbf7f62e3c39d645", func := "grapevine/grapevinelaw3.VectorLattice", spec := "vectorLattice", unfollowed := true, recurses := true, apart := false }
def VectorLatticeSaid : Prop := vectorLatticeRow.holds Try.pinned (OpenSpec.ofChange vectorLatticeSpec)

/-- ITS FALSE NEIGHBOUR: 'it returns false'. Refute it at one input. -/
def vectorLatticeWrong : ChangeSpec := { name := "vectorLattice", fn := fun _ => fun
  | [d1, d2, d3, d4] => { results := [.lit (.bool false)], args := [d1, d2, d3, d4] }
  | _ => none }
def VectorLatticeWrongFalsely : Prop := vectorLatticeRow.holds Try.pinned (OpenSpec.ofChange vectorLatticeWrong)

/-- 'grapevinelaw3.VectorLacks': WHATEVER THE INPUT: true; the input reads as it did. -/
def vectorLacksSpec : ChangeSpec := { name := "vectorLacks", fn := fun _ => fun
  | [d1, d2, d3, d4] => { results := [.lit (.bool true)], args := [d1, d2, d3, d4] }
  | _ => none }
def vectorLacksRow : OpenClaim := { program := "ytmdojflpnikhnaa", sum := "caef413306f7ce28d87308df7da4a8e2aae1163b82738ec5cbf7f62e3c39d645", func := "grapevine/grapevinelaw3.VectorLacks", spec := "vectorLacks", unfollowed := true, recurses := true, apart := false }
def VectorLacksSaid : Prop := vectorLacksRow.holds Try.pinned (OpenSpec.ofChange vectorLacksSpec)

/-- ITS FALSE NEIGHBOUR: 'it returns false'. Refute it at one input. -/
def vectorLacksWrong : ChangeSpec := { name := "vectorLacks", fn := fun _ => fun
  | [d1, d2, d3, d4] => { results := [.lit (.bool false)], args := [d1, d2, d3, d4] }
  | _ => none }
def VectorLacksWrongFalsely : Prop := vectorLacksRow.holds Try.pinned (OpenSpec.ofChange vectorLacksWrong)

/-- 'grapevinelaw3.VectorZeros': WHATEVER THE INPUT: true; the input reads as it did. -/
def vectorZerosSpec : ChangeSpec := { name := "vectorZeros", fn := fun _ => fun
  | [d1, d2, d3] => { results := [.lit (.bool true)], args := [d1, d2, d3] }
  | _ => none }
def vectorZerosRow : OpenClaim := { program := "ytmdojflpnikhnaa", sum := "caef413306f7ce28d87308df7da4a8e2aae1163b82738ec5cbf7f62e3c39d645", func := "grapevine/grapevinelaw3.VectorZeros", spec := "vectorZeros", unfollowed := true, recurses := true, apart := false }
def VectorZerosSaid : Prop := vectorZerosRow.holds Try.pinned (OpenSpec.ofChange vectorZerosSpec)

/-- ITS FALSE NEIGHBOUR: 'it returns false'. Refute it at one input. -/
def vectorZerosWrong : ChangeSpec := { name := "vectorZeros", fn := fun _ => fun
  | [d1, d2, d3] => { results := [.lit (.bool false)], args := [d1, d2, d3] }
  | _ => none }
def VectorZerosWrongFalsely : Prop := vectorZerosRow.holds Try.pinned (OpenSpec.ofChange vectorZerosWrong)

/-- 'grapevinelaw3.VectorSpans': WHATEVER THE INPUT: true; the input reads as it did. -/
def vectorSpansSpec : ChangeSpec := { name := "vectorSpans", fn := fun _ => fun
  | [d1, d2, d3] => { results := [.lit (.bool true)], args := [d1, d2, d3] }
  | _ => none }
def vectorSpansRow : OpenClaim := { program := "ytmdojflpnikhnaa", sum := "caef413306f7ce28d87308df7da4a8e2aae1163b82738ec5cbf7f62e3c39d645", func := "grapevine/grapevinelaw3.VectorSpans", spec := "vectorSpans", unfollowed := true, recurses := true, apart := false }
def VectorSpansSaid : Prop := vectorSpansRow.holds Try.pinned (OpenSpec.ofChange vectorSpansSpec)

/-- ITS FALSE NEIGHBOUR: 'it returns false'. Refute it at one input. -/
def vectorSpansWrong : ChangeSpec := { name := "vectorSpans", fn := fun _ => fun
  | [d1, d2, d3] => { results := [.lit (.bool false)], args := [d1, d2, d3] }
  | _ => none }
def VectorSpansWrongFalsely : Prop := vectorSpansRow.holds Try.pinned (OpenSpec.ofChange vectorSpansWrong)

/- THE SECOND FORM. 'bulk': how many values and letters a reading holds, each counted each time it is reached (what is shared counts as often as it is met; a slice's spare places count too). A statement '..UptoSaid' is the law's where the arguments, and the package variables that the reading takes, are together of bulk at most 1048576: NARROWER than '..Said'. Prove '..Said' where nothing that the law and all that it calls make is longer than what came in: it says more and counts as full. Else prove '..UptoSaid'. A law counts once. -/
mutual
def uptoBulk {H : Type} : DataW H → Nat
  | .lit (.string bytes) => bytes.length + 1
  | .lit _ => 1
  | .nil => 1
  | .ptr d => uptoBulk d + 1
  | .slice elems spare => uptoBulkAll elems + uptoBulkAll spare + 1
  | .agg parts => uptoBulkAll parts + 1
  | .iface _ d => uptoBulk d + 1
  | .map entries => uptoBulkEntries entries + 1
  | .held _ => 1
def uptoBulkAll {H : Type} : List (DataW H) → Nat
  | [] => 0
  | d :: r => uptoBulk d + uptoBulkAll r
def uptoBulkEntries {H : Type} : List (Lit × DataW H) → Nat
  | [] => 0
  | x :: r => uptoBulkEntry x + uptoBulkEntries r
def uptoBulkEntry {H : Type} : Lit × DataW H → Nat
  | (.string bytes, d) => bytes.length + uptoBulk d + 1
  | (_, d) => uptoBulk d + 1
 end
def uptoSmall : (H : Type) → List (DataW H) → Bool := fun _ ds => decide (uptoBulkAll ds ≤ 1048576)
def OpenSpec.upto (s : _root_.Go.ChangeSpec) : _root_.Go.OpenSpec := { _root_.Go.OpenSpec.ofChange s with cond := some uptoSmall }

/-- 'grapevinelaw3.VectorTells', WHERE WHAT IT READS IS OF BULK AT MOST 1048576: true; the input reads as it did. -/
def vectorTellsUptoRow : OpenClaim := { program := "ytmdojflpnikhnaa", sum := "caef413306f7ce28d87308df7da4a8e2aae1163b82738ec5cbf7f62e3c39d645", func := "grapevine/grapevinelaw3.VectorTells", spec := "vectorTells", unfollowed := true, recurses := true, apart := false, narrowed := true }
def VectorTellsUptoSaid : Prop := vectorTellsUptoRow.holds Try.pinned (OpenSpec.upto vectorTellsSpec)

/-- 'grapevinelaw3.VectorLattice', WHERE WHAT IT READS IS OF BULK AT MOST 1048576: true; the input reads as it did. -/
def vectorLatticeUptoRow : OpenClaim := { program := "ytmdojflpnikhnaa", sum := "caef413306f7ce28d87308df7da4a8e2aae1163b82738ec5cbf7f62e3c39d645", func := "grapevine/grapevinelaw3.VectorLattice", spec := "vectorLattice", unfollowed := true, recurses := true, apart := false, narrowed := true }
def VectorLatticeUptoSaid : Prop := vectorLatticeUptoRow.holds Try.pinned (OpenSpec.upto vectorLatticeSpec)

/-- 'grapevinelaw3.VectorLacks', WHERE WHAT IT READS IS OF BULK AT MOST 1048576: true; the input reads as it did. -/
def vectorLacksUptoRow : OpenClaim := { program := "ytmdojflpnikhnaa", sum := "caef413306f7ce28d87308df7da4a8e2aae1163b82738ec5cbf7f62e3c39d645", func := "grapevine/grapevinelaw3.VectorLacks", spec := "vectorLacks", unfollowed := true, recurses := true, apart := false, narrowed := true }
def VectorLacksUptoSaid : Prop := vectorLacksUptoRow.holds Try.pinned (OpenSpec.upto vectorLacksSpec)

/-- 'grapevinelaw3.VectorZeros', WHERE WHAT IT READS IS OF BULK AT MOST 1048576: true; the input reads as it did. -/
def vectorZerosUptoRow : OpenClaim := { program := "ytmdojflpnikhnaa", sum := "caef413306f7ce28d87308df7da4a8e2aae1163b82738ec5cbf7f62e3c39d645", func := "grapevine/grapevinelaw3.VectorZeros", spec := "vectorZeros", unfollowed := true, recurses := true, apart := false, narrowed := true }
def VectorZerosUptoSaid : Prop := vectorZerosUptoRow.holds Try.pinned (OpenSpec.upto vectorZerosSpec)

/-- 'grapevinelaw3.VectorSpans', WHERE WHAT IT READS IS OF BULK AT MOST 1048576: true; the input reads as it did. -/
def vectorSpansUptoRow : OpenClaim := { program := "ytmdojflpnikhnaa", sum := "caef413306f7ce28d87308df7da4a8e2aae1163b82738ec5cbf7f62e3c39d645", func := "grapevine/grapevinelaw3.VectorSpans", spec := "vectorSpans", unfollowed := true, recurses := true, apart := false, narrowed := true }
def VectorSpansUptoSaid : Prop := vectorSpansUptoRow.holds Try.pinned (OpenSpec.upto vectorSpansSpec)

end Rows
end Go.Proofs.Ytmdojflpnikhnaa
