/-
  Count, by contract.
-/
import Derived.Test.YtkgenjiccidfgaaFrmNext
namespace Go.Proofs.Ytkgenjiccidfgaa
open Go.RowKit Go.Lib

/-- How many frames stand in front, and how many bytes they have. -/
def cnt (l : List Int) : Nat × Nat :=
  match h : fsT l with
  | none => (0, 0)
  | some (_, n) => ((cnt (l.drop (n + 12))).1 + 1, (cnt (l.drop (n + 12))).2 + (n + 12))
termination_by l.length
decreasing_by all_goals (have := (fsT_len h).1; rw [List.length_drop]; omega)
theorem cnt_no {l : List Int} (h : fsT l = none) : cnt l = (0, 0) := by
  rw [cnt]
  split
  · rfl
  · rename_i h2; rw [h] at h2; cases h2
theorem cnt_yes {l : List Int} {k : Int} {n : Nat} (h : fsT l = some (k, n)) : cnt l = ((cnt (l.drop (n + 12))).1 + 1, (cnt (l.drop (n + 12))).2 + (n + 12)) := by
  rw [cnt]
  split
  · rename_i h2; rw [h] at h2; cases h2
  · rename_i h2
    rw [h] at h2
    simp only [Option.some.injEq, Prod.mk.injEq] at h2
    obtain ⟨_, rfl⟩ := h2
    rfl
/-- So far. -/
def Cn (l : List Int) (k e : Nat) : Prop := k + (cnt (l.drop e)).1 = (cnt l).1 ∧ e + (cnt (l.drop e)).2 = (cnt l).2
theorem Cn.start (l : List Int) : Cn l 0 0 := ⟨by rw [List.drop_zero, Nat.zero_add], by rw [List.drop_zero, Nat.zero_add]⟩
theorem Cn.stop {l : List Int} {k e : Nat} (h : Cn l k e) (hn : fsT (l.drop e) = none) : (cnt l).1 = k ∧ (cnt l).2 = e := by
  obtain ⟨h1, h2⟩ := h
  rw [cnt_no hn] at h1 h2
  exact ⟨h1.symm, h2.symm⟩
theorem Cn.next {l : List Int} {k e : Nat} (h : Cn l k e) {q : Int} {n : Nat} (hn : fsT (l.drop e) = some (q, n)) : Cn l (k + 1) (e + (n + 12)) := by
  obtain ⟨h1, h2⟩ := h
  rw [cnt_yes hn, List.drop_drop] at h1 h2
  exact ⟨by simp only at h1; omega, by simp only at h2; omega⟩
def countT (l : List Int) (w : World) (e : Ending) (w' : World) : Prop := e = .returned (.tuple #[.int .i64 ((cnt l).1 : Int), .int .i64 ((cnt l).2 : Int)]) ∧ Below w.heap.size w w'
theorem countT_of {l : List Int} {k e : Nat} {w w' : World} (h : (cnt l).1 = k ∧ (cnt l).2 = e) (hb : Below w.heap.size w w') : countT l w (.returned (.tuple #[.int .i64 (k : Int), .int .i64 (e : Int)])) w' := by
  unfold countT
  rw [h.1, h.2]
  exact ⟨rfl, hb⟩

set_option maxHeartbeats 8000000 in
theorem count_c (l : List Int) (v : Value) (w : World) (h : Bc w v l) (ho : OkB l) (hl : l.length ≤ 1000000) :
    Calls Try.prog 16 #[v] w (countT l w) := by
  obtain ⟨ad, cap, rfl, hcap⟩ := h.2
  have H := Lib.hid h
  have HO := Lib.hid ho
  clear h ho
  go_enter Try.func16, Try.ntmps16
  go_wp2
  go_loopw [4, 5] (fun v4 v5 wr => ∃ (k e : Nat), k ≤ e ∧ e ≤ l.length ∧ v4 = .int .i64 (k : Int) ∧ v5 = .int .i64 (e : Int) ∧ Hid (Cn l k e) ∧ Hid (Below w.heap.size w wr)) (fun _ v5 _ => l.length - (RowKit.intOf v5).toNat)
  case atStart => exact ⟨0, 0, by omega, by omega, rfl, rfl, Lib.hid (Cn.start l), Lib.hid (Below.refl _ _)⟩
  case round =>
    obtain ⟨k, e, hke, hel, rfl, rfl, HCn, HB⟩ := hrel
    obtain ⟨A1, C1, ep, p1⟩ := H.out.piece e l.length hel (Nat.le_refl _)
    have q1 : Bc wr (.slice A1 (l.length - e) C1) (l.drop e) := by
      have := p1 wr (H.out.below HB.out)
      rwa [List.take_of_length_le (by rw [List.length_drop]; omega)] at this
    have r1 : ∀ W, (Instr.sliceAt 22 (.slice ad l.length cap) (some (.int .i64 (e : Int))) none none).run Try.prog W = .ok (.slice A1 (l.length - e) C1) W := fun W => by
      rw [← ep]
      exact slice_any_run ad _ cap _ _ _ _ W (by simp [Instr.sliceBounds, run_sliceBound_if, hel])
    obtain ⟨N1, hN1⟩ : ∃ N1, l.length - e = N1 := ⟨_, rfl⟩
    rw [hN1] at q1 r1
    have R1 := Lib.hid r1
    have HC := Lib.hid (first_c (l.drop e) _ wr q1 (HO.out.drop e) (by rw [List.length_drop]; omega))
    clear ep p1 q1 r1 hN1
    cases hf : fsT (l.drop e) with
    | none =>
      have HS := Lib.hid (HCn.out.stop hf)
      have HF := Lib.hid hf
      clear hf
      go_wp2_with (refine wpList_slice_run rfl 22 _ _ _ rfl _ (R1.out _) ?_)
      refine HC.out.mono ?_
      rintro e w1 hT
      unfold firstT at hT
      rw [HF.out] at hT
      obtain ⟨rfl, b1⟩ := hT
      go_wp2
      go_ret2
      exact countT_of HS.out (bn HB.out b1)
    | some p =>
      obtain ⟨q, n⟩ := p
      have HS := Lib.hid (HCn.out.next hf)
      have hnl := (fsT_len hf).1
      rw [List.length_drop] at hnl
      have HF := Lib.hid hf
      clear hf
      go_wp2_with (refine wpList_slice_run rfl 22 _ _ _ rfl _ (R1.out _) ?_)
      refine HC.out.mono ?_
      rintro e1 w1 hT
      unfold firstT at hT
      rw [HF.out] at hT
      obtain ⟨⟨A2, C2, rfl, q2⟩, b1⟩ := hT
      have HB1 : Hid (Below w.heap.size w w1) := Lib.hid (bn HB.out b1)
      clear q2 b1 HC R1 HB
      go_wp2_with fail
      refine (length_c A2 n C2 w1 (by omega)).mono ?_
      rintro e2 w3 ⟨rfl, rfl⟩
      go_wp2
      go_roundw
      case rel => exact ⟨k + 1, e + (n + 12), by omega, by omega, by go_num, by go_num, HS, HB1⟩
      case measure => simp [RowKit.intOf]; omega
end Go.Proofs.Ytkgenjiccidfgaa
