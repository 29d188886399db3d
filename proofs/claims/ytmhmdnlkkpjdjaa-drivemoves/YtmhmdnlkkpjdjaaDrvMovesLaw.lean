/-
  The law on renamed files, walked.
-/
import Derived.Test.YtmhmdnlkkpjdjaaDrvTexts
namespace Go.Proofs.Ytmhmdnlkkpjdjaa
open Go.RowKit Go.Lib

set_option maxHeartbeats 16000000 in
set_option maxRecDepth 4000 in
theorem moves_main (a b c : List Int) (stay : Int) (hst : stay ≤ 9223372036854775807) (A1 A2 A3 : Option Addr) (C1 C2 C3 : Nat) (w : World) (ha : Bl w (.slice A1 a.length C1) a) (hb : Bl w (.slice A2 b.length C2) b) (hc : Bl w (.slice A3 c.length C3) c) (h1 : a.length ≤ 100) (h2 : b.length ≤ 100) (h3 : c.length ≤ 100) :
    Calls Try.prog 6 #[.slice A1 a.length C1, .slice A2 b.length C2, .slice A3 c.length C3, .int .i64 stay] w fun e w' => e = .returned (.bool true) ∧ Below w.heap.size w w' := by
  have HAW := Lib.hid (awake_c)
  have e1 : decide ((100 : Int) < (a.length : Int)) = false := by simp; omega
  have e2 : decide ((100 : Int) < (b.length : Int)) = false := by simp; omega
  have e3 : decide ((100 : Int) < (c.length : Int)) = false := by simp; omega
  have HA := Lib.hid ha
  have HB := Lib.hid hb
  have HC := Lib.hid hc
  clear ha hb hc
  go_enter Try.func6, Try.ntmps6
  go_wp2_with fail
  refine (sNew w w 1000 (by decide) (Below.refl _ _)).mono ?_
  rintro e w1 ⟨p, rfl, h1⟩
  have S1 := Lib.hid (sAppend h1 ⟨#[120]⟩ (by decide) (by decide) _ a (HA.out.below h1.bl) (by simp [usedP]; omega) (by decide))
  clear h1
  go_wp2_with fail
  refine S1.out.mono ?_
  rintro e w2 ⟨rfl, h2⟩
  have h2' := ses_cast h2 (P' := [([120], a, 0)]) rfl
  have S2 := Lib.hid (sSync (h2'.text ⟨#[120]⟩ 9) [[120]] _ (List.mem_cons_self ..) (by decide) (by decide) (by intro s hs; simp at hs; subst hs; rfl))
  clear h2 h2' S1
  go_wp2_with fail
  refine S2.out.mono ?_
  rintro e w3 ⟨rfl, h3⟩
  have h3' := ses_cast h3 (P' := [([120], a, a.length)]) rfl
  have S3 := Lib.hid (sAppend h3' ⟨#[120]⟩ (by decide) (by decide) _ b (HB.out.below h3'.bl) (by simp [usedP]; omega) (by simp [maxLen]))
  clear h3 h3' S2
  go_wp2_with fail
  refine S3.out.mono ?_
  rintro e w4 ⟨rfl, h4⟩
  have h4' := ses_cast h4 (P' := [([120], a ++ b, a.length)]) rfl
  have S4 := Lib.hid (sAppend h4' ⟨#[121]⟩ (by decide) (by decide) _ c (HC.out.below h4'.bl) (by simp [usedP]; omega) (by simp [maxLen]))
  clear h4 h4' S3
  go_wp2_with fail
  refine S4.out.mono ?_
  rintro e w5 ⟨rfl, h5⟩
  have h5' := ses_cast h5 (P' := [([120], a ++ b, a.length), ([121], c, 0)]) rfl
  have S5 := Lib.hid (sRename h5' ⟨#[120]⟩ ⟨#[121]⟩ (by decide) (by decide) (by decide) (by simp [maxLen]) (a ++ b) a.length rfl)
  clear h5 h5' S4
  go_wp2_with fail
  refine S5.out.mono ?_
  rintro e w6 ⟨rfl, h6⟩
  have h6' := ses_cast h6 (P' := [([121], a ++ b, a.length)]) rfl
  have S6 := Lib.hid (sRead h6' ⟨#[121]⟩ (by decide) (a ++ b) a.length rfl)
  rw [List.length_append] at S6
  clear h6 h6' S5
  go_wp2_with fail
  refine S6.out.mono ?_
  rintro e w7 ⟨A7, C7, rfl, h7⟩
  have S7 := Lib.hid (sReadNo h7 ⟨#[120]⟩ (by decide) rfl)
  have S7' := Lib.hid h7
  clear h7 S6
  go_wp2_with fail
  refine S7.out.mono ?_
  rintro e w8 ⟨rfl, rfl⟩
  have S8 := Lib.hid (sLoose S7'.out ⟨#[121]⟩ (by decide) (a ++ b) a.length rfl)
  rw [show (a ++ b).length - a.length = b.length by simp] at S8
  clear S7 S7'
  go_wp2_with fail
  refine S8.out.mono ?_
  rintro e w9 ⟨rfl, h9⟩
  obtain ⟨K, hK, hKm⟩ : ∃ K : Nat, min stay.toNat b.length = K ∧ min (max stay 0) (b.length : Int) = (K : Int) := ⟨min stay.toNat b.length, rfl, by omega⟩
  have hKb : K ≤ b.length := by omega
  have S9 := Lib.hid (sCrash h9 stay hst (by simp))
  rw [crash1, hK] at S9
  clear h9 S8 hK
  go_wp2_with fail
  refine S9.out.mono ?_
  rintro e w10 ⟨rfl, h10⟩
  have hxl : (a ++ b.take K).length = a.length + K := by simp; omega
  have S10 := Lib.hid (sRead h10 ⟨#[121]⟩ (by decide) (a ++ b.take K) (a.length + K) rfl)
  rw [hxl] at S10
  have HX := Lib.hid hxl
  clear h10 S9 hxl
  go_wp2_with fail
  refine S10.out.mono ?_
  rintro e w11 ⟨A11, C11, rfl, h11⟩
  obtain ⟨vm, wA, hap1, hrA, hbA⟩ := bcopy_run a (.slice A1 a.length C1) w11 22 (HA.out.below h11.bl) (by omega)
  obtain ⟨A9, N9, C9, wB, hap2, hrB, hbB⟩ := bapp_run a b vm (.slice A2 b.length C2) wA 22 w11.heap.size hrA (HB.out.below (bn h11.bl hbA)) (by omega) hbA.size
  obtain ⟨_, _, e9, hc9⟩ := hrB.bc.2
  simp only [Value.slice.injEq, List.length_append] at e9
  obtain ⟨rfl, rfl, rfl⟩ := e9
  rw [List.length_append] at hc9
  have HAP1 := Lib.hid hap1
  have HAP2 := Lib.hid hap2
  have S11 := Lib.hid (h11.plus (hbA.trans hbB) hrB)
  have S12 := Lib.hid (bsame_c (a ++ b) (a ++ b) (.slice A7 (a.length + b.length) C7) (.slice A9 (a.length + b.length) C9) wB (S11.out.g (by simp)).1 (S11.out.g (by simp)).1 (by simp; omega))
  rw [sameB_self] at S12
  have hsl : (Instr.sliceAt 22 (.slice A9 (a.length + b.length) C9) none (some (.int .i64 ((a.length : Int) + (K : Int)))) none).run Try.prog = fun W => .ok (.slice A9 (a.length + K) C9) W := by
    funext W
    have := slice_to_run A9 (a.length + b.length) C9 (a.length + K) (by omega) hc9 W
    rw [Int.natCast_add] at this
    exact this
  clear hap1 hap2 hrA hbA hrB hbB h11 S10
  go_wp2_with (at_builtin; first | refine wpList_append_run rfl _ _ 22 rfl _ _ HAP1.out ?_ | refine wpList_append_run rfl _ _ 22 rfl _ _ HAP2.out ?_)
  refine S12.out.mono ?_
  rintro e w12 ⟨rfl, b12⟩
  have S13 := Lib.hid (S11.out.below b12)
  clear S12 S11 HAP1 HAP2 b12
  have hsl' : ∀ W, (Instr.sliceAt 22 (.slice A9 (a.length + b.length) C9) none (some (.int .i64 ((a.length : Int) + (K : Int)))) none).run Try.prog W = .ok (.slice A9 (a.length + K) C9) W := fun W => congrFun hsl W
  clear hsl
  go_wp2_with fail
  have hz2 := (S13.out.g (v := .slice A9 (a.length + b.length) C9) (l := a ++ b) (by simp)).upto (a.length + K) (by simp; omega)
  rw [List.take_length_add_append] at hz2
  have S14 := Lib.hid (bsame_c (a ++ b.take K) (a ++ b.take K) (.slice A11 (a.length + K) C11) (.slice A9 (a.length + K) C9) w12 (S13.out.g (by simp)).1 hz2.1 (by rw [HX.out]; omega))
  rw [sameB_self] at S14
  clear hz2 hsl'
  refine S14.out.mono ?_
  rintro e w13 ⟨rfl, b13⟩
  have S15 := Lib.hid (sNames (S13.out.below b13) (by simp))
  clear b13 S14 S13
  go_wp2_with fail
  refine S15.out.mono ?_
  rintro e w14 ⟨vn, rfl, h14⟩
  have h14' := h14.alloc (.cells #[.string ⟨#[121]⟩] 9)
  have htl : Tl (w14.alloc (.cells #[.string ⟨#[121]⟩] 9)) vn [[121]] := h14'.tl (List.mem_cons_self ..)
  have S16 := Lib.hid (tsame_c [[121]] vn (.slice (some ⟨w14.heap.size, 0, none⟩) 1 1) _ htl (tl_one w14 ⟨#[121]⟩ 9) (by decide))
  have S16' := Lib.hid h14'
  obtain ⟨An, Cn, rfl, _⟩ := htl
  clear h14 h14' S15
  go_wp2_with fail
  refine S16.out.mono ?_
  rintro e w15 ⟨rfl, b15⟩
  have h15 := S16'.out.below b15
  have S17 := Lib.hid (sRenNo h15 ⟨#[122]⟩ ⟨#[119]⟩ (by decide) (by decide) (by decide) rfl)
  have S17' := Lib.hid h15.bl
  clear h15 S16 S16' b15
  go_wp2_with fail
  refine S17.out.mono ?_
  rintro e w16 ⟨rfl, rfl⟩
  have S18 := Lib.hid (renName_c p ⟨#[121]⟩ ⟨#[89]⟩ w15 (by decide) (by decide))
  clear S17
  go_wp2_with fail
  refine S18.out.mono ?_
  rintro e w17 ⟨rfl, rfl⟩
  go_wp2_with fail
  refine (HAW.out _).mono ?_
  rintro e w18 ⟨rfl, b18⟩
  go_wp2
  go_ret
  exact ⟨rfl, bn S17'.out b18⟩

set_option maxHeartbeats 4000000 in
theorem moves_c (a b c : List Int) (stay : Int) (hst : stay ≤ 9223372036854775807) (va vb vc : Value) (w : World) (ha : Bl w va a) (hb : Bl w vb b) (hc : Bl w vc c) (hla : a.length ≤ maxLen) (hlb : b.length ≤ maxLen) (hlc : c.length ≤ maxLen) :
    Calls Try.prog 6 #[va, vb, vc, .int .i64 stay] w fun e w' => e = .returned (.bool true) ∧ Below w.heap.size w w' := by
  obtain ⟨A1, C1, rfl, _⟩ := ha.form
  obtain ⟨A2, C2, rfl, _⟩ := hb.form
  obtain ⟨A3, C3, rfl, _⟩ := hc.form
  unfold maxLen at hla hlb hlc
  have HAW := Lib.hid (awake_c)
  by_cases h1 : a.length ≤ 100
  · have e1 : decide ((100 : Int) < (a.length : Int)) = false := by simp; omega
    by_cases h2 : b.length ≤ 100
    · have e2 : decide ((100 : Int) < (b.length : Int)) = false := by simp; omega
      by_cases h3 : c.length ≤ 100
      · exact moves_main a b c stay hst A1 A2 A3 C1 C2 C3 w ha hb hc h1 h2 h3
      · have e3 : decide ((100 : Int) < (c.length : Int)) = true := by simp; omega
        go_enter Try.func6, Try.ntmps6
        go_wp2_with fail
        refine (HAW.out _).mono ?_
        rintro e w1 ⟨rfl, b1⟩
        go_wp2
        go_ret
        exact ⟨rfl, b1⟩
    · have e2 : decide ((100 : Int) < (b.length : Int)) = true := by simp; omega
      go_enter Try.func6, Try.ntmps6
      go_wp2_with fail
      refine (HAW.out _).mono ?_
      rintro e w1 ⟨rfl, b1⟩
      go_wp2
      go_ret
      exact ⟨rfl, b1⟩
  · have e1 : decide ((100 : Int) < (a.length : Int)) = true := by simp; omega
    go_enter Try.func6, Try.ntmps6
    go_wp2_with fail
    refine (HAW.out _).mono ?_
    rintro e w1 ⟨rfl, b1⟩
    go_wp2
    go_ret
    exact ⟨rfl, b1⟩
end Go.Proofs.Ytmhmdnlkkpjdjaa
