/-
  No cell of these rows narrows 'for every input' (looked for: loops, veiled, ifaces, maps, wideKeys, modest, calm, conditions, laid).
  DERIVED. THE GIVEN ROWS OF THIS SEAT. 7 by the template 'for every input the law returns true; each argument reads behind the call as it read before'; 0 by the template 'total and deterministic' (their statements: YtmhonaelkcllhaaTotals.lean).
  GIVEN WITH THE SEED: the statements are not yours to turn. If you find one false, say at which input.
  Laid BY PROGRAM, IN A SANDBOX (cutbox-rows.mjs): the forced cells as the released guide's own fill.sh prints them over the translation f043014e73077c5d… (all of the seat's roots in one cut). By AI agents, Wed Nov 11 2026. No macro, syntax, notation, axiom, sorry.
-/
import Derived.Test.YtmhonaelkcllhaaChecked
import GoSem.Claim
import GoSem.ClaimJoined
import GoSem.ClaimMapViews
import Derived.JoinedTies
import Derived.KernelRfl
namespace Go.Proofs.Ytmhonaelkcllhaa
/- THE CELL 'sum', in the pinned program and in every row, IS THE sha256 OF THE DUMP (.gsa) THAT YtmhonaelkcllhaaProg.lean LOADS. Nothing in Lean hashes anything: it is a label: what it is worth is what the hold of that sum in a sandbox is worth. -/
noncomputable def Try.pinned : Pinned := { name := "ytmhonaelkcllhaa", sum := "f043014e73077c5da0c49308b5c631e9280b4302195addb6a0c81c1ebfaa0d23", checked := Try.checked }
namespace Rows
def none {H : Type} : Left H := { results := [], args := [] }

/-- 'grapevinelaw2.StampTells': WHATEVER THE INPUT: true; the input reads as it did. -/
def stampTellsSpec : ChangeSpec := { name := "stampTells", fn := fun _ => fun
  | [d1, d2, d3] => { results := [.lit (.bool true)], args := [d1, d2, d3] }
  | _ => none }
def stampTellsRow : OpenClaim := { program := "ytmhonaelkcllhaa", sum := "f043014e73077c5da0c49308b5c631e9280b4302195addb6a0c81c1ebfaa0d23", func := "grapevine/grapevinelaw2.StampTells", spec := "stampTells", apart := false }
def StampTellsSaid : Prop := stampTellsRow.holds Try.pinned (OpenSpec.ofChange stampTellsSpec)

/-- ITS FALSE NEIGHBOUR: 'it returns false'. Refute it at one input. -/
def stampTellsWrong : ChangeSpec := { name := "stampTells", fn := fun _ => fun
  | [d1, d2, d3] => { results := [.lit (.bool false)], args := [d1, d2, d3] }
  | _ => none }
def StampTellsWrongFalsely : Prop := stampTellsRow.holds Try.pinned (OpenSpec.ofChange stampTellsWrong)

/-- 'grapevinelaw2.StampScript': WHATEVER THE INPUT: true; the input reads as it did. -/
def stampScriptSpec : ChangeSpec := { name := "stampScript", fn := fun _ => fun
  | [d1, d2] => { results := [.lit (.bool true)], args := [d1, d2] }
  | _ => none }
def stampScriptRow : OpenClaim := { program := "ytmhonaelkcllhaa", sum := "f043014e73077c5da0c49308b5c631e9280b4302195addb6a0c81c1ebfaa0d23", func := "grapevine/grapevinelaw2.StampScript", spec := "stampScript", apart := false }
def StampScriptSaid : Prop := stampScriptRow.holds Try.pinned (OpenSpec.ofChange stampScriptSpec)

/-- ITS FALSE NEIGHBOUR: 'it returns false'. Refute it at one input. -/
def stampScriptWrong : ChangeSpec := { name := "stampScript", fn := fun _ => fun
  | [d1, d2] => { results := [.lit (.bool false)], args := [d1, d2] }
  | _ => none }
def StampScriptWrongFalsely : Prop := stampScriptRow.holds Try.pinned (OpenSpec.ofChange stampScriptWrong)

/-- 'grapevinelaw2.StampRises': WHATEVER THE INPUT: true; the input reads as it did. -/
def stampRisesSpec : ChangeSpec := { name := "stampRises", fn := fun _ => fun
  | [d1, d2] => { results := [.lit (.bool true)], args := [d1, d2] }
  | _ => none }
def stampRisesRow : OpenClaim := { program := "ytmhonaelkcllhaa", sum := "f043014e73077c5da0c49308b5c631e9280b4302195addb6a0c81c1ebfaa0d23", func := "grapevine/grapevinelaw2.StampRises", spec := "stampRises", apart := false }
def StampRisesSaid : Prop := stampRisesRow.holds Try.pinned (OpenSpec.ofChange stampRisesSpec)

/-- ITS FALSE NEIGHBOUR: 'it returns false'. Refute it at one input. -/
def stampRisesWrong : ChangeSpec := { name := "stampRises", fn := fun _ => fun
  | [d1, d2] => { results := [.lit (.bool false)], args := [d1, d2] }
  | _ => none }
def StampRisesWrongFalsely : Prop := stampRisesRow.holds Try.pinned (OpenSpec.ofChange stampRisesWrong)

/-- 'grapevinelaw2.StampNone': WHATEVER THE INPUT: true; the input reads as it did. -/
def stampNoneSpec : ChangeSpec := { name := "stampNone", fn := fun _ => fun
  | [d] => { results := [.lit (.bool true)], args := [d] }
  | _ => none }
def stampNoneRow : OpenClaim := { program := "ytmhonaelkcllhaa", sum := "f043014e73077c5da0c49308b5c631e9280b4302195addb6a0c81c1ebfaa0d23", func := "grapevine/grapevinelaw2.StampNone", spec := "stampNone", apart := false }
def StampNoneSaid : Prop := stampNoneRow.holds Try.pinned (OpenSpec.ofChange stampNoneSpec)

/-- ITS FALSE NEIGHBOUR: 'it returns false'. Refute it at one input. -/
def stampNoneWrong : ChangeSpec := { name := "stampNone", fn := fun _ => fun
  | [d] => { results := [.lit (.bool false)], args := [d] }
  | _ => none }
def StampNoneWrongFalsely : Prop := stampNoneRow.holds Try.pinned (OpenSpec.ofChange stampNoneWrong)

/-- 'grapevinelaw2.StampMost': WHATEVER THE INPUT: true; the input reads as it did. -/
def stampMostSpec : ChangeSpec := { name := "stampMost", fn := fun _ => fun
  | [d1, d2] => { results := [.lit (.bool true)], args := [d1, d2] }
  | _ => none }
def stampMostRow : OpenClaim := { program := "ytmhonaelkcllhaa", sum := "f043014e73077c5da0c49308b5c631e9280b4302195addb6a0c81c1ebfaa0d23", func := "grapevine/grapevinelaw2.StampMost", spec := "stampMost", apart := false }
def StampMostSaid : Prop := stampMostRow.holds Try.pinned (OpenSpec.ofChange stampMostSpec)

/-- ITS FALSE NEIGHBOUR: 'it returns false'. Refute it at one input. -/
def stampMostWrong : ChangeSpec := { name := "stampMost", fn := fun _ => fun
  | [d1, d2] => { results := [.lit (.bool false)], args := [d1, d2] }
  | _ => none }
def StampMostWrongFalsely : Prop := stampMostRow.holds Try.pinned (OpenSpec.ofChange stampMostWrong)

/-- 'grapevinelaw2.StampTwo': WHATEVER THE INPUT: true; the input reads as it did. -/
def stampTwoSpec : ChangeSpec := { name := "stampTwo", fn := fun _ => fun
  | [d1, d2] => { results := [.lit (.bool true)], args := [d1, d2] }
  | _ => none }
def stampTwoRow : OpenClaim := { program := "ytmhonaelkcllhaa", sum := "f043014e73077c5da0c49308b5c631e9280b4302195addb6a0c81c1ebfaa0d23", func := "grapevine/grapevinelaw2.StampTwo", spec := "stampTwo", apart := false }
def StampTwoSaid : Prop := stampTwoRow.holds Try.pinned (OpenSpec.ofChange stampTwoSpec)

/-- ITS FALSE NEIGHBOUR: 'it returns false'. Refute it at one input. -/
def stampTwoWrong : ChangeSpec := { name := "stampTwo", fn := fun _ => fun
  | [d1, d2] => { results := [.lit (.bool false)], args := [d1, d2] }
  | _ => none }
def StampTwoWrongFalsely : Prop := stampTwoRow.holds Try.pinned (OpenSpec.ofChange stampTwoWrong)

/-- 'grapevinelaw2.StampOld': WHATEVER THE INPUT: true; the input reads as it did. -/
def stampOldSpec : ChangeSpec := { name := "stampOld", fn := fun _ => fun
  | [d1, d2, d3] => { results := [.lit (.bool true)], args := [d1, d2, d3] }
  | _ => none }
def stampOldRow : OpenClaim := { program := "ytmhonaelkcllhaa", sum := "f043014e73077c5da0c49308b5c631e9280b4302195addb6a0c81c1ebfaa0d23", func := "grapevine/grapevinelaw2.StampOld", spec := "stampOld", apart := false }
def StampOldSaid : Prop := stampOldRow.holds Try.pinned (OpenSpec.ofChange stampOldSpec)

/-- ITS FALSE NEIGHBOUR: 'it returns false'. Refute it at one input. -/
def stampOldWrong : ChangeSpec := { name := "stampOld", fn := fun _ => fun
  | [d1, d2, d3] => { results := [.lit (.bool false)], args := [d1, d2, d3] }
  | _ => none }
def StampOldWrongFalsely : Prop := stampOldRow.holds Try.pinned (OpenSpec.ofChange stampOldWrong)

/- THE SECOND FORM. 'bulk': how many values and letters a reading holds, each counted each time it is reached (what is shared counts as often as it is met; a slice's spare places count too). A statement '..UptoSaid' is the law's where the arguments, and the package variables that the reading takes, are together of bulk at most 1048576: NARROWER than '..Said'. Prove '..Said' where nothing that the law and all that it calls make is longer than what came in: it says more and counts as full. Else prove '..UptoSaid'. A law counts once. -/
mutual
def uptoBulk {H : Type} : DataW H → Nat
  | .lit (.string bytes) => bytes.length + 1
  | .lit _ => 1
  | .nil => 1
  | .ptr d => uptoBulk d + 1
  | .slice elems spare => uptoBulkAll elems + uptoBulkAll spare + 1
  | .agg parts => uptoBulkAll parts + 1
  | .iface _ d => uptoBulk d + 1
  | .map entries => uptoBulkEntries entries + 1
  | .held _ => 1
def uptoBulkAll {H : Type} : List (DataW H) → Nat
  | [] => 0
  | d :: r => uptoBulk d + uptoBulkAll r
def uptoBulkEntries {H : Type} : List (Lit × DataW H) → Nat
  | [] => 0
  | x :: r => uptoBulkEntry x + uptoBulkEntries r
def uptoBulkEntry {H : Type} : Lit × DataW H → Nat
  | (.string bytes, d) => bytes.length + uptoBulk d + 1
  | (_, d) => uptoBulk d + 1
 end
def uptoSmall : (H : Type) → List (DataW H) → Bool := fun _ ds => decide (uptoBulkAll ds ≤ 1048576)
def OpenSpec.upto (s : _root_.Go.ChangeSpec) : _root_.Go.OpenSpec := { _root_.Go.OpenSpec.ofChange s with cond := some uptoSmall }

/-- 'grapevinelaw2.StampTells', WHERE WHAT IT READS IS OF BULK AT MOST 1048576: true; the input reads as it did. -/
def stampTellsUptoRow : OpenClaim := { program := "ytmhonaelkcllhaa", sum := "f043014e73077c5da0c49308b5c631e9280b4302195addb6a0c81c1ebfaa0d23", func := "grapevine/grapevinelaw2.StampTells", spec := "stampTells", apart := false, narrowed := true }
def StampTellsUptoSaid : Prop := stampTellsUptoRow.holds Try.pinned (OpenSpec.upto stampTellsSpec)

/-- 'grapevinelaw2.StampScript', WHERE WHAT IT READS IS OF BULK AT MOST 1048576: true; the input reads as it did. -/
def stampScriptUptoRow : OpenClaim := { program := "ytmhonaelkcllhaa", sum := "f043014e73077c5da0c49308b5c631e9280b4302195addb6a0c81c1ebfaa0d23", func := "grapevine/grapevinelaw2.StampScript", spec := "stampScript", apart := false, narrowed := true }
def StampScriptUptoSaid : Prop := stampScriptUptoRow.holds Try.pinned (OpenSpec.upto stampScriptSpec)

/-- 'grapevinelaw2.StampRises', WHERE WHAT IT READS IS OF BULK AT MOST 1048576: true; the input reads as it did. -/
def stampRisesUptoRow : OpenClaim := { program := "ytmhonaelkcllhaa", sum := "f043014e73077c5da0c49308b5c631e9280b4302195addb6a0c81c1ebfaa0d23", func := "grapevine/grapevinelaw2.StampRises", spec := "stampRises", apart := false, narrowed := true }
def StampRisesUptoSaid : Prop := stampRisesUptoRow.holds Try.pinned (OpenSpec.upto stampRisesSpec)

/-- 'grapevinelaw2.StampNone', WHERE WHAT IT READS IS OF BULK AT MOST 1048576: true; the input reads as it did. -/
def stampNoneUptoRow : OpenClaim := { program := "ytmhonaelkcllhaa", sum := "f043014e73077c5da0c49308b5c631e9280b4302195addb6a0c81c1ebfaa0d23", func := "grapevine/grapevinelaw2.StampNone", spec := "stampNone", apart := false, narrowed := true }
def StampNoneUptoSaid : Prop := stampNoneUptoRow.holds Try.pinned (OpenSpec.upto stampNoneSpec)

/-- 'grapevinelaw2.StampMost', WHERE WHAT IT READS IS OF BULK AT MOST 1048576: true; the input reads as it did. -/
def stampMostUptoRow : OpenClaim := { program := "ytmhonaelkcllhaa", sum := "f043014e73077c5da0c49308b5c631e9280b4302195addb6a0c81c1ebfaa0d23", func := "grapevine/grapevinelaw2.StampMost", spec := "stampMost", apart := false, narrowed := true }
def StampMostUptoSaid : Prop := stampMostUptoRow.holds Try.pinned (OpenSpec.upto stampMostSpec)

/-- 'grapevinelaw2.StampTwo', WHERE WHAT IT READS IS OF BULK AT MOST 1048576: true; the input reads as it did. -/
def stampTwoUptoRow : OpenClaim := { program := "ytmhonaelkcllhaa", sum := "f043014e73077c5da0c49308b5c631e9280b4302195addb6a0c81c1ebfaa0d23", func := "grapevine/grapevinelaw2.StampTwo", spec := "stampTwo", apart := false, narrowed := true }
def StampTwoUptoSaid : Prop := stampTwoUptoRow.holds Try.pinned (OpenSpec.upto stampTwoSpec)

/-- 'grapevinelaw2.StampOld', WHERE WHAT IT READS IS OF BULK AT MOST 1048576: true; the input reads as it did. -/
def stampOldUptoRow : OpenClaim := { program := "ytmhonaelkcllhaa", sum := "f043014e73077c5da0c49308b5c631e9280b4302195addb6a0c81c1ebfaa0d23", func := "grapevine/grapevinelaw2.StampOld", spec := "stampOld", apart := false, narrowed := true }
def StampOldUptoSaid : Prop := stampOldUptoRow.holds Try.pinned (OpenSpec.upto stampOldSpec)

end Rows
end Go.Proofs.Ytmhonaelkcllhaa
