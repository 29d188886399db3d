/-
  Names of a drive, by contract.
-/
import Derived.Test.YtmhmdnlkkpjdjaaDrvRead
import Derived.Test.YtmhmdnlkkpjdjaaIter
namespace Go.Proofs.Ytmhmdnlkkpjdjaa
open Go.RowKit Go.Lib

/-- From offset o of block b on the texts ss lie. -/
def Strs (w : World) (b o : Nat) (ss : List (List UInt8)) : Prop := ∀ k (hk : k < ss.length), w.cell? ⟨b, o + k, none⟩ = some (encStr ss[k])
/-- The slice v holds the texts ss, in blocks that are not of the drive. -/
def Sl (w : World) (own : Nat → Prop) (v : Value) (ss : List (List UInt8)) : Prop :=
  ∃ ad cap, v = .slice ad ss.length cap ∧ (0 < ss.length → ∃ b o, ad = some ⟨b, o, none⟩ ∧ Strs w b o ss ∧ ¬ own b)
theorem Sl.turn {w w' : World} {own : Nat → Prop} {v : Value} {ss : List (List UInt8)} (h : Sl w own v ss) (ht : Turn own w w') : Sl w' own v ss := by
  obtain ⟨ad, cap, h1, h2⟩ := h
  refine ⟨ad, cap, h1, fun h0 => ?_⟩
  obtain ⟨b, o, e, hs, hn⟩ := h2 h0
  exact ⟨b, o, e, fun k hk => (World.cell?_of_block (ht.block b (World.block_lt_of_cell? w _ (hs k hk)) hn)).trans (hs k hk), hn⟩
theorem Sl.ofRow {w : World} {own : Nat → Prop} {B : Nat} {v : Value} {ss : List (List UInt8)} (h : w.ownsRow B 9 1 v ss.length (ss.map encStr)) (hn : ∀ g, B ≤ g → ¬ own g) : Sl w own v ss := by
  rcases h.2 with ⟨rfl, h0⟩ | ⟨g, cap, cur, rfl, hg, _⟩
  · exact ⟨none, 0, by rw [h0], fun h => by omega⟩
  · refine ⟨_, cap, rfl, fun _ => ⟨g, 0, rfl, fun k hk => ?_, hn g hg⟩⟩
    rw [Nat.zero_add]
    exact (World.ownsRow.cellAt h k (by omega)).trans (by rw [List.getElem?_map, List.getElem?_eq_getElem hk]; rfl)

def namesT (L : List Fl) (w : World) (e : Ending) (w' : World) : Prop := ∃ v, e = .returned v ∧ w'.ownsRow w.heap.size 9 1 v (L.map (·.n)).length ((L.map (·.n)).map encStr) ∧ Below w.heap.size w w'
set_option maxHeartbeats 2000000 in
theorem names_c (p bm : Nat) (L : List Fl) (m ex : Nat) (own : Nat → Prop) (w : World) (h : DrvAt w p bm L m ex own) (hL : L.length ≤ 1000000) :
    Calls Try.prog 20 #[.pointer (some ⟨p, 0, none⟩)] w (namesT L w) := by
  have c0 := h.cell0
  have hlt := h.hd.lt
  have hown := h.mp
  have hmax : Maps.size (Dof L) ≤ maxLen := by rw [Dof_size]; unfold maxLen; omega
  have hbytes : Maps.size (Dof L) * 16 ≤ 140737488355328 := by rw [Dof_size]; omega
  have HS := Lib.hid h.so
  have HM := Lib.hid (Try.slices_Sorted_keys_28_29 bm L.length (Dof L) ptrElem w hown hmax hbytes)
  clear h hown hmax hbytes hL
  refine (callsIn_wide (n := 6)).1 ?_
  have hfK : Fence.wide.fn 29 := trivial
  have hfS : Fence.wide.fn 28 := trivial
  refine callsIn_of_wp Try.func20 rfl trivial ?_ rfl
  simp only [Try.ntmps20, List.size_toArray, List.length_cons, List.length_nil, Nat.reduceAdd, Nat.reduceSub, Array.replicate_succ, Array.replicate_zero, List.push_toArray, List.append_toArray, List.nil_append, List.cons_append]
  gi_wp2_with (first
    | (gi_at_call 29; refine (Try.maps_Keys_29 _ _).mono ?_; rintro e w' ⟨rfl, rfl⟩)
    | (gi_at_call 28; refine HM.out.mono ?_; rintro e w' ⟨v, ss, rfl, hS, hrow, hnil, hb⟩))
  go_ret
  rw [Dof_keys] at hS
  refine ⟨v, rfl, ?_, ((Below.refl _ w).alloc (Nat.le_refl _) _).trans (hb.mono (by simp))⟩
  have e2 := names_sorted HS.out hS
  have e3 : ss.length = (L.map (·.n)).length := hS.length_eq
  have hr2 := own_mono hrow (base' := w.heap.size) (by simp)
  rw [e3] at hr2
  rw [← e2]
  rw [e2] at hr2 ⊢
  exact hr2
end Go.Proofs.Ytmhmdnlkkpjdjaa
