/-
  Rows of numbers: made, stored into, written over (OverInts by contract).
-/
import Derived.Lib.SliceRun
import Derived.Deep.DeepAppendRoom
import Derived.Maps.AppendAt
import Derived.BigRegion
import Derived.Test.YtcnpckdchjjeoaaDoorMVecLeaf
namespace Go.Proofs.YtcnpckdchjjeoaaDoor
open Go.RowKit Go.Lib
set_option maxRecDepth 100000

/-- What is answered: a row of one's own. -/
def rowT (l : List Int) (w : World) (e : Ending) (w' : World) : Prop := ∃ v, e = .returned v ∧ Row w' w.heap.size v l ∧ Below w.heap.size w w'
theorem Nl.news {w : World} {ad : Addr} {l : List Int} (h : 0 < l.length → ∃ b o, ad = ⟨b, o, none⟩ ∧ Nums w b o l) : ∀ i u, (ints l)[i]? = some u → w.cell? (ad.add i) = some u := by
  intro i u hu
  have hi : i < l.length := by have := (List.getElem?_eq_some_iff.1 hu).1; rwa [ints_len] at this
  obtain ⟨b, o, rfl, hs⟩ := h (by omega)
  exact hs.news i u hu
theorem row_made (w : World) (n : Nat) (hn : n ≤ 1000000) : Row (w.alloc (.cells (madeCells #[.int .i64 0] n) 3)) w.heap.size (.slice (some ⟨w.heap.size, 0, none⟩) n n) (List.replicate n 0) := by
  have e : ints (List.replicate n 0) = List.replicate n (.int .i64 0) := by simp [ints]
  unfold Row
  rw [e, List.length_replicate]
  refine ⟨by simp, .inr ⟨w.heap.size, n, _, rfl, Nat.le_refl _, heap_alloc_new w _, Nat.le_refl _, by unfold maxLen; omega, by rw [size_madeCells, Nat.mul_one], ?_⟩⟩
  rw [toList_madeCells_one, Nat.mul_one, List.take_of_length_le (by simp)]
theorem Row.at {w : World} {B g cap : Nat} {l : List Int} (h : Row w B (.slice (some ⟨g, 0, none⟩) l.length cap) l) (k : Nat) (hk : k < l.length) : w.cell? ⟨g, k, none⟩ = some (.int .i64 l[k]) :=
  (World.ownsRow.cellAt h k (by omega)).trans (ints_at l k hk)
theorem Row.soft {w : World} {B g cap : Nat} {l : List Int} (h : Row w B (.slice (some ⟨g, 0, none⟩) l.length cap) l) (k : Nat) : w.frozen? ⟨g, k, none⟩ = false := World.ownsRow.frozenAt h k
theorem ints_set (l : List Int) (k : Nat) (x : Int) : (ints l).set k (.int .i64 x) = ints (l.set k x) := by simp [ints, List.map_set]
theorem Row.set {w : World} {B g cap : Nat} {l : List Int} (h : Row w B (.slice (some ⟨g, 0, none⟩) l.length cap) l) (k : Nat) (x : Int) : Row (w.setCell ⟨g, k, none⟩ (.int .i64 x)) B (.slice (some ⟨g, 0, none⟩) (l.set k x).length cap) (l.set k x) := by
  have h1 := (World.ownsRow.stored h k (.int .i64 x)).1
  rw [ints_set] at h1
  unfold Row
  rw [List.length_set]
  exact h1
theorem Row.form {w : World} {B : Nat} {v : Value} {l : List Int} (h : Row w B v l) (hn : 0 < l.length) : ∃ g cap, v = .slice (some ⟨g, 0, none⟩) l.length cap ∧ B ≤ g ∧ g < w.heap.size := by
  obtain ⟨g, cap, e, h1, h2⟩ := World.ownsRow.form h hn
  exact ⟨g, cap, e, h1, h2⟩
theorem Row.at2 {w : World} {B g cap n : Nat} {l : List Int} (h : Row w B (.slice (some ⟨g, 0, none⟩) n cap) l) (hn : l.length = n) (k : Nat) (x : Int) (hk : l[k]? = some x) : w.cell? ⟨g, k, none⟩ = some (.int .i64 x) := by
  subst hn
  obtain ⟨hk', rfl⟩ := List.getElem?_eq_some_iff.1 hk
  exact h.at k hk'
theorem Row.soft2 {w : World} {B g cap n : Nat} {l : List Int} (h : Row w B (.slice (some ⟨g, 0, none⟩) n cap) l) (hn : l.length = n) (k : Nat) : w.frozen? ⟨g, k, none⟩ = false := by
  subst hn
  exact h.soft k
theorem Row.set2 {w : World} {B g cap n : Nat} {l : List Int} (h : Row w B (.slice (some ⟨g, 0, none⟩) n cap) l) (hn : l.length = n) (k : Nat) (x : Int) : Row (w.setCell ⟨g, k, none⟩ (.int .i64 x)) B (.slice (some ⟨g, 0, none⟩) n cap) (l.set k x) := by
  subst hn
  have h1 := h.set k x
  rw [List.length_set] at h1
  exact h1
set_option maxHeartbeats 4000000 in
theorem over_c (l : List Int) (v : Value) (w : World) (B : Nat) (h : Row w B v l) (hn : l.length ≤ 1000000) (hB : B ≤ w.heap.size) :
    Calls Tryd.prog 47 #[v] w fun e w' => e = .returned (.tuple #[]) ∧ w.grownBy w' v.ownBlock := by
  obtain ⟨i0, hi, hz0, hz1, hz2⟩ := info_parts intInfo
  have HI := Lib.hid hi
  have HZ0 := Lib.hid hz0
  have HZ1 := Lib.hid hz1
  have HZ2 := Lib.hid hz2
  clear hi hz0 hz1 hz2
  obtain ⟨ad, cap, rfl, _⟩ := h.nl.form
  have H := Lib.hid h
  clear h
  go_enter Tryd.func47, Tryd.ntmps47
  go_wp2
  go_loopw [2] (fun v2 wr => ∃ (k : Nat) (m : List Int), k ≤ l.length ∧ v2 = .int .i64 (k : Int) ∧ m.length = l.length ∧ Hid (Row wr B (.slice ad l.length cap) m) ∧ Hid (w.grownBy wr (Value.slice ad l.length cap).ownBlock)) (fun v2 _ => l.length - (intOf v2).toNat)
  case atStart => exact ⟨0, l, by omega, rfl, rfl, H, Lib.hid (grown_refl _ _)⟩
  case round =>
    obtain ⟨k, m, hk, rfl, hm, HM, HG⟩ := hrel
    have HML := Lib.hid hm
    have hsz := HG.out.size
    clear hm H
    by_cases hp : k < l.length
    · obtain ⟨g, cap2, he, hg, hlt⟩ := HM.out.form (by have := HML.out; omega)
      simp only [Value.slice.injEq] at he
      obtain ⟨rfl, e4, e5⟩ := he
      clear e4 e5
      have hc := HM.out.at2 HML.out k _ (List.getElem?_eq_getElem (by have := HML.out; omega))
      have hf := HM.out.soft2 HML.out k
      have HM2 := Lib.hid (HM.out.set2 HML.out k (-999))
      have HG2 : Hid (w.grownBy (wr.setCell ⟨g, k, none⟩ (.int .i64 (-999))) (Value.slice (some ⟨g, 0, none⟩) l.length cap).ownBlock) := Lib.hid (grown_trans HG.out (by
        have h1 : Row wr B (.slice (some ⟨g, 0, none⟩) m.length cap) m := by rw [HML.out]; exact HM.out
        exact (World.ownsRow.stored h1 k _).2))
      generalize m[k]'(by have := HML.out; omega) = y at hc
      go_wp2
      go_roundw
      case rel => exact ⟨k + 1, m.set k (-999), hp, by go_num, by rw [List.length_set]; exact HML.out, HM2, HG2⟩
      case measure => simp [intOf]; omega
    · have HO : Hid (wr.ownsRow B 3 1 (.slice ad l.length cap) l.length (ints m)) := Lib.hid (by have h1 := HM.out; unfold Row at h1; rw [HML.out] at h1; exact h1)
      go_wp2_with (at_builtin; refine wpList_append_own _ rfl _ _ 22 rfl B 3 i0 (.int .i64 0) 1 8 Tryd.underlying22 HI.out HZ0.out HZ1.out HZ2.out rfl (by decide) _ _ _ rfl (World.ownsRow.alloc HO.out _) ⟨wr.heap.size, 0, none⟩ 1 1 [.int .i64 (-999)] rfl rfl (cell_one_new _ _ _) (fun x hx => by simp at hx; subst hx; rfl) (by unfold maxLen; omega) (by omega) (by simp; omega) ?_; intro v' w3 hown3 hgrow3 hnil3)
      go_end0
      exact ⟨rfl, grown_trans HG.out (grown_trans (World.grownBy_alloc _ _ _) hgrow3)⟩
end Go.Proofs.YtcnpckdchjjeoaaDoor
