/-
  Two trees and the chapter's own, side by side.
-/
import Derived.Test.YthamhbbgmibmoaaDoorTrOne
namespace Go.Proofs.YthamhbbgmibmoaaDoor
open Go.RowKit Go.Lib Go.Maps
set_option maxRecDepth 100000
set_option linter.unusedSimpArgs false

structure A3 (w wr : World) (p u q : Nat) (ot ou : Nat → Prop) (S V : Sb) (L : List R.Rc) : Prop where
  t : Tr wr p S ot
  v : Tr wr u V ou
  r : RT wr q L (fun g => ¬ (ot g ∨ ou g))
  nq : ¬ (ot q ∨ ou q)
  d : ∀ j, ot j → ou j → False
  b : Below w.heap.size w wr
  lt : ∀ j, ot j → w.heap.size ≤ j
  lu : ∀ j, ou j → w.heap.size ≤ j
  lq : w.heap.size ≤ q
theorem A3.below {w wr w' : World} {p u q : Nat} {ot ou : Nat → Prop} {S V : Sb} {L : List R.Rc} (h : A3 w wr p u q ot ou S V L) (hb : Below wr.heap.size wr w') : A3 w w' p u q ot ou S V L := by
  obtain ⟨x, h1, h2, h3⟩ := h.r
  exact ⟨h.t.below hb, h.v.below hb, ⟨x, h1.below hb, h2.below hb, h3⟩, h.nq, h.d, bn h.b hb, h.lt, h.lu, h.lq⟩
theorem A3.turnT {w wr w' : World} {p u q : Nat} {ot ou ot' : Nat → Prop} {S S' V : Sb} {L : List R.Rc} (h : A3 w wr p u q ot ou S V L) (ht : Tr w' p S' ot') (t4 : Turn ot wr w') (o4 : ∀ j, ot' j → ot j ∨ wr.heap.size ≤ j) : A3 w w' p u q ot' ou S' V L := by
  obtain ⟨x, h1, h2, h3⟩ := h.r
  refine ⟨ht, h.v.keep t4.size (fun i hi => t4.block i (h.v.up i hi) (fun ho => h.d i ho hi)), ⟨x, (t4.block q h1.lt (fun ho => h.nq (.inl ho))).trans h1, ownsRow_of_block h2 (fun g hg => t4.block g (World.ownsRow.lt h2 g hg).2 (fun ho => h3 g hg (.inl ho))), fun g hg hh => ?_⟩, fun hh => ?_, fun j h5 h6 => ?_, h.b.trans (t4.below h.b.size h.lt), fun j hj => (o4 j hj).elim (h.lt j) (fun h5 => Nat.le_trans h.b.size h5), h.lu, h.lq⟩
  · have hl := (World.ownsRow.lt h2 g hg).2
    rcases hh with hh | hh
    · rcases o4 g hh with h5 | h5
      · exact h3 g hg (.inl h5)
      · omega
    · exact h3 g hg (.inr hh)
  · have hl := h1.lt
    rcases hh with hh | hh
    · rcases o4 q hh with h5 | h5
      · exact h.nq (.inl h5)
      · omega
    · exact h.nq (.inr hh)
  · rcases o4 j h5 with h7 | h7
    · exact h.d j h7 h6
    · have := h.v.up j h6
      omega
theorem A3.turnU {w wr w' : World} {p u q : Nat} {ot ou ou' : Nat → Prop} {S V V' : Sb} {L : List R.Rc} (h : A3 w wr p u q ot ou S V L) (ht : Tr w' u V' ou') (t4 : Turn ou wr w') (o4 : ∀ j, ou' j → ou j ∨ wr.heap.size ≤ j) : A3 w w' p u q ot ou' S V' L := by
  obtain ⟨x, h1, h2, h3⟩ := h.r
  refine ⟨h.t.keep t4.size (fun i hi => t4.block i (h.t.up i hi) (fun ho => h.d i hi ho)), ht, ⟨x, (t4.block q h1.lt (fun ho => h.nq (.inr ho))).trans h1, ownsRow_of_block h2 (fun g hg => t4.block g (World.ownsRow.lt h2 g hg).2 (fun ho => h3 g hg (.inr ho))), fun g hg hh => ?_⟩, fun hh => ?_, fun j h5 h6 => ?_, h.b.trans (t4.below h.b.size h.lu), h.lt, fun j hj => (o4 j hj).elim (h.lu j) (fun h5 => Nat.le_trans h.b.size h5), h.lq⟩
  · have hl := (World.ownsRow.lt h2 g hg).2
    rcases hh with hh | hh
    · exact h3 g hg (.inl hh)
    · rcases o4 g hh with h5 | h5
      · exact h3 g hg (.inr h5)
      · omega
  · have hl := h1.lt
    rcases hh with hh | hh
    · exact h.nq (.inl hh)
    · rcases o4 q hh with h5 | h5
      · exact h.nq (.inr h5)
      · omega
  · rcases o4 j h6 with h7 | h7
    · exact h.d j h5 h7
    · have := h.t.up j h5
      omega
theorem A3.turnR {w wr w' : World} {p u q : Nat} {ot ou : Nat → Prop} {S V : Sb} {L L' : List R.Rc} (h : A3 w wr p u q ot ou S V L) (hr : RT w' q L' (fun g => ¬ (ot g ∨ ou g))) (g4 : wr.grownBy w' (some q)) : A3 w w' p u q ot ou S V L' :=
  ⟨h.t.keep g4.size (fun i hi => g4.block i (h.t.up i hi) (fun e => h.nq (.inl (Option.some.inj e ▸ hi)))), h.v.keep g4.size (fun i hi => g4.block i (h.v.up i hi) (fun e => h.nq (.inr (Option.some.inj e ▸ hi)))), hr, h.nq, h.d, h.b.trans (D.below_of_grown g4 h.b.size (fun _ e => Option.some.inj e ▸ h.lq)), h.lt, h.lu, h.lq⟩
/-- New blocks are nobody's. -/
theorem A3.fresh {w wr : World} {p u q : Nat} {ot ou : Nat → Prop} {S V : Sb} {L : List R.Rc} (h : A3 w wr p u q ot ou S V L) : ∀ i, wr.heap.size ≤ i → ¬ (ot i ∨ ou i) := fun i hi hh => hh.elim (fun h1 => by have := h.t.up i h1; omega) (fun h1 => by have := h.v.up i h1; omega)
end Go.Proofs.YthamhbbgmibmoaaDoor
