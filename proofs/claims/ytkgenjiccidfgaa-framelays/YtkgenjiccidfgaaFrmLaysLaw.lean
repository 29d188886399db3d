/-
  FrameLays: the walk.
-/
import Derived.Test.YtkgenjiccidfgaaFrmAwake
namespace Go.Proofs.Ytkgenjiccidfgaa
open Go.RowKit Go.Lib

theorem num_c (e : Int) (w : World) : Calls Try.prog 12 #[.int .i64 e] w fun r w' => r = .returned (.int .i64 e) ∧ w = w' := by
  go_enter Try.func12, Try.ntmps12
  go_wp2
  go_ret
  exact ⟨rfl, rfl⟩

set_option maxHeartbeats 8000000 in
theorem lays_c (k : Int) (b : List Int) (u : Value) (w : World) (hu : Bl w u b) (hl : b.length ≤ maxLen) :
    Calls Try.prog 3 #[.int .i64 k, u] w fun e w' => e = .returned (.bool true) ∧ Below w.heap.size w w' := by
  have HU := Lib.hid hu
  obtain ⟨ad, cap, rfl, _⟩ := hu.form
  have HL := Lib.hid hl
  unfold maxLen at hl
  clear hu
  by_cases h7 : b.length ≤ 70000
  · have e1 : decide ((70000 : Int) < (b.length : Int)) = false := by simp; omega
    have e2 : decide (70000 < b.length) = false := by simp; omega
    have hlen : Hid ((if okF k b then layF k b else []).length ≤ 1000000) := Lib.hid (by split; · rw [layF_len]; omega
                                                                                         · simp)
    obtain ⟨E, hE⟩ : ∃ E : Int, (if okF k b = true then (0 : Int) else 2) = E := ⟨_, rfl⟩
    have HE := Lib.hid hE
    clear hE
    go_enter Try.func3, Try.ntmps3
    go_wp2_with fail
    refine (lay_c k b _ w HU.out HL.out).mono ?_
    rintro e w1 hT
    unfold layT at hT
    rw [HE.out] at hT
    obtain ⟨A1, N1, C1, rfl, h1, b1⟩ := hT
    have H1 := Lib.hid h1
    have HB1 := Lib.hid b1
    clear h1 b1
    go_wp2_with fail
    refine (reflay_c k b _ w1 (HU.out.below HB1.out) HL.out).mono ?_
    rintro e w2 hT
    unfold layT at hT
    rw [HE.out] at hT
    obtain ⟨A2, N2, C2, rfl, h2, b2⟩ := hT
    have H12 := Lib.hid (H1.out.below b2)
    have H2 := Lib.hid h2
    have HB2 : Hid (Below w.heap.size w w2) := Lib.hid (bn HB1.out b2)
    clear h2 b2 HB1 H1
    have HSM := Lib.hid (bsame_c _ _ _ _ w2 H12.out.nl H2.out.nl hlen.out)
    rw [sameB_self] at HSM
    go_wp2_with fail
    refine HSM.out.mono ?_
    rintro e w3 ⟨rfl, b3⟩
    have HB3 : Hid (Below w.heap.size w w3) := Lib.hid (bn HB2.out b3)
    clear b3 HB2 HSM H12 H2 hlen
    go_wp2_with fail
    refine (num_c E w3).mono ?_
    rintro e w4 ⟨rfl, rfl⟩
    go_wp2_with fail
    refine (awake_c w3).mono ?_
    rintro e w5 ⟨rfl, b5⟩
    go_wp2
    go_ret
    exact ⟨rfl, bn HB3.out b5⟩
  · have e1 : decide ((70000 : Int) < (b.length : Int)) = true := by simp; omega
    have e2 : decide (70000 < b.length) = true := by simp; omega
    go_enter Try.func3, Try.ntmps3
    go_wp2_with fail
    refine (awake_c w).mono ?_
    rintro e w5 ⟨rfl, b5⟩
    go_wp2
    go_ret
    exact ⟨rfl, b5⟩
end Go.Proofs.Ytkgenjiccidfgaa
