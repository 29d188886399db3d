/-
  Chapter 6's own Count, by contract.
-/
import Derived.Test.YtkgenjiccidfgaaFrmRefNext
namespace Go.Proofs.Ytkgenjiccidfgaa
open Go.RowKit Go.Lib

theorem nxT_at {l : List Int} {e : Nat} (h : e ≤ l.length) : nxT l (e : Int) = fsT (l.drop e) := by unfold nxT; rw [if_pos (by omega), Int.toNat_natCast]

set_option maxHeartbeats 8000000 in
theorem rcount_c (l : List Int) (v : Value) (w : World) (h : Bc w v l) (ho : OkB l) (hl : l.length ≤ 1000000) :
    Calls Try.prog 17 #[v] w (countT l w) := by
  obtain ⟨ad, cap, rfl, hcap⟩ := h.2
  have H := Lib.hid h
  have HO := Lib.hid ho
  clear h ho
  go_enter Try.func17, Try.ntmps17
  go_wp2
  go_loopw [4, 5] (fun v4 v5 wr => ∃ (k e : Nat), k ≤ e ∧ e ≤ l.length ∧ v4 = .int .i64 (k : Int) ∧ v5 = .int .i64 (e : Int) ∧ Hid (Cn l k e) ∧ Hid (Below w.heap.size w wr)) (fun _ v5 _ => l.length - (RowKit.intOf v5).toNat)
  case atStart => exact ⟨0, 0, by omega, by omega, rfl, rfl, Lib.hid (Cn.start l), Lib.hid (Below.refl _ _)⟩
  case round =>
    obtain ⟨k, e, hke, hel, rfl, rfl, HCn, HB⟩ := hrel
    by_cases hlt : e < l.length
    · have e1 : decide ((e : Int) < (l.length : Int)) = true := by simp; omega
      have e2 : decide (e < l.length) = true := by simp; omega
      have HC := Lib.hid (rnext_c l _ (e : Int) wr (H.out.below HB.out) HO.out hl)
      have HX := Lib.hid (nxT_at hel)
      cases hf : fsT (l.drop e) with
      | none =>
        have HS := Lib.hid (HCn.out.stop hf)
        have HF := Lib.hid hf
        clear hf
        go_wp2_with fail
        refine HC.out.mono ?_
        rintro e w1 hT
        unfold nextT at hT
        rw [HX.out, HF.out] at hT
        obtain ⟨v1, rfl, hv1, b1⟩ := hT
        clear hv1
        go_wp2
        go_ret2
        exact countT_of HS.out (bn HB.out b1)
      | some p =>
        obtain ⟨q, n⟩ := p
        have HS := Lib.hid (HCn.out.next hf)
        have hnl := (fsT_len hf).1
        rw [List.length_drop] at hnl
        have HF := Lib.hid hf
        clear hf
        go_wp2_with fail
        refine HC.out.mono ?_
        rintro e1 w1 hT
        unfold nextT at hT
        rw [HX.out, HF.out] at hT
        obtain ⟨v1, rfl, hv1, b1⟩ := hT
        have HB1 : Hid (Below w.heap.size w w1) := Lib.hid (bn HB.out b1)
        clear hv1 b1 HC HB
        go_wp2
        go_roundw
        case rel => exact ⟨k + 1, e + (n + 12), by omega, by omega, by go_num, by first | rfl | go_num, HS, HB1⟩
        case measure => simp [RowKit.intOf, nxE]; omega
    · have e1 : decide ((e : Int) < (l.length : Int)) = false := by simp; omega
      have e2 : decide (e < l.length) = false := by simp; omega
      have HS := Lib.hid (HCn.out.stop (fsT_short (by rw [List.length_drop]; omega)))
      go_wp2
      go_ret2
      exact countT_of HS.out HB.out
end Go.Proofs.Ytkgenjiccidfgaa
