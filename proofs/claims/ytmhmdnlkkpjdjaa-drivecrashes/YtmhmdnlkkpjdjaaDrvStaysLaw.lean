/-
  The law on what stays, walked.
-/
import Derived.Test.YtmhmdnlkkpjdjaaDrvAwake
namespace Go.Proofs.Ytmhmdnlkkpjdjaa
open Go.RowKit Go.Lib

theorem crash1 (k : Nat) (s : List UInt8) (a b : List Int) : crashP k [(s, a ++ b, a.length)] = [(s, a ++ b.take (min k b.length), a.length + min k b.length)] := by
  simp [crashP, List.take_append]
  exact List.take_of_length_le (by omega)
theorem slice_to_run (ad : Option Addr) (n cap k : Nat) (hk : k ≤ n) (hn : n ≤ cap) (W : World) : (Instr.sliceAt 22 (.slice ad n cap) none (some (.int .i64 (k : Int))) none).run Try.prog W = .ok (.slice ad k cap) W := by
  rw [slice_any_run ad n cap none (some (.int .i64 (k : Int))) 0 k W (by
    have e1 : ¬ cap < k := by omega
    simp [Instr.sliceBounds, go_sem, e1]), sliced_zero]
theorem Bc.upto {w : World} {ad : Option Addr} {n cap : Nat} {l : List Int} (h : Bc w (.slice ad n cap) l) (k : Nat) (hk : k ≤ l.length) : Bc w (.slice ad k cap) (l.take k) := by
  obtain ⟨A, C, e, hp⟩ := h.piece 0 k (Nat.zero_le _) hk
  have := hp w h
  rw [sliced_zero] at e
  simp only [Nat.sub_zero, List.drop_zero] at e this
  rw [e]
  exact this
theorem crash0 (s : List UInt8) (a : List Int) : crashP 0 [(s, a, a.length)] = [(s, a, a.length)] := by simp [crashP]

set_option maxHeartbeats 16000000 in
set_option maxRecDepth 4000 in
theorem stays_c (a b : List Int) (stay : Int) (hst : stay ≤ 9223372036854775807) (va vb : Value) (w : World) (ha : Bl w va a) (hb : Bl w vb b) (hla : a.length ≤ maxLen) (hlb : b.length ≤ maxLen) :
    Calls Try.prog 3 #[va, vb, .int .i64 stay] w fun e w' => e = .returned (.bool true) ∧ Below w.heap.size w w' := by
  obtain ⟨A1, C1, rfl, _⟩ := ha.form
  obtain ⟨A2, C2, rfl, _⟩ := hb.form
  unfold maxLen at hla hlb
  have HAW := Lib.hid (awake_c)
  by_cases h1 : a.length ≤ 200
  · have e1 : decide ((200 : Int) < (a.length : Int)) = false := by simp; omega
    by_cases h2 : b.length ≤ 200
    · have e2 : decide ((200 : Int) < (b.length : Int)) = false := by simp; omega
      have HA := Lib.hid ha
      have HB := Lib.hid hb
      clear ha hb
      go_enter Try.func3, Try.ntmps3
      go_wp2_with fail
      refine (sNew w w 1000 (by decide) (Below.refl _ _)).mono ?_
      rintro e w1 ⟨p, rfl, h1⟩
      have S1 := Lib.hid (sAppend h1 ⟨#[102]⟩ (by decide) (by decide) _ a (HA.out.below h1.bl) (by simp [usedP]; omega) (by decide))
      clear h1
      go_wp2_with fail
      refine S1.out.mono ?_
      rintro e w2 ⟨rfl, h2⟩
      have h2' := ses_cast h2 (P' := [([102], a, 0)]) rfl
      have S2 := Lib.hid (sSync (h2'.text ⟨#[102]⟩ 9) [[102]] _ (List.mem_cons_self ..) (by decide) (by decide) (by intro s hs; simp at hs; subst hs; rfl))
      clear h2 h2' S1
      go_wp2_with fail
      refine S2.out.mono ?_
      rintro e w3 ⟨rfl, h3⟩
      have h3' := ses_cast h3 (P' := [([102], a, a.length)]) rfl
      have S3 := Lib.hid (sAppend h3' ⟨#[102]⟩ (by decide) (by decide) _ b (HB.out.below h3'.bl) (by simp [usedP]; omega) (by simp [maxLen]))
      clear h3 h3' S2
      go_wp2_with fail
      refine S3.out.mono ?_
      rintro e w4 ⟨rfl, h4⟩
      have h4' := ses_cast h4 (P' := [([102], a ++ b, a.length)]) rfl
      have S4 := Lib.hid (sLoose h4' ⟨#[102]⟩ (by decide) (a ++ b) a.length rfl)
      rw [show (a ++ b).length - a.length = b.length by simp] at S4
      clear h4 h4' S3
      go_wp2_with fail
      refine S4.out.mono ?_
      rintro e w5 ⟨rfl, h5⟩
      obtain ⟨K, hK, hKm⟩ : ∃ K : Nat, min stay.toNat b.length = K ∧ min (max stay 0) (b.length : Int) = (K : Int) := ⟨min stay.toNat b.length, rfl, by omega⟩
      have hKb : K ≤ b.length := by omega
      have S5 := Lib.hid (sCrash h5 stay hst (by simp))
      rw [crash1, hK] at S5
      clear h5 S4 hK
      go_wp2_with fail
      refine S5.out.mono ?_
      rintro e w6 ⟨rfl, h6⟩
      have hxl : (a ++ b.take K).length = a.length + K := by simp; omega
      have S6 := Lib.hid (sRead h6 ⟨#[102]⟩ (by decide) (a ++ b.take K) (a.length + K) rfl)
      rw [hxl] at S6
      clear h6 S5
      go_wp2_with fail
      refine S6.out.mono ?_
      rintro e w7 ⟨A7, C7, rfl, h7⟩
      have S7 := Lib.hid h7
      have S7' : Hid (Calls Try.prog 12 #[.pointer (some ⟨p, 0, none⟩), .string ⟨#[102]⟩] w7 fun e w' => e = .returned (.int .i64 0) ∧ Ses w w' p [([102], a ++ b.take K, a.length + K)] 1000 [(.slice A7 (a.length + K) C7, a ++ b.take K)] [(.slice (some ⟨w2.heap.size, 0, none⟩) 1 1, [[102]])]) := Lib.hid (by
        have hh := sLoose h7 ⟨#[102]⟩ (by decide) (a ++ b.take K) (a.length + K) rfl
        rw [show (a ++ b.take K).length - (a.length + K) = 0 by omega] at hh
        exact hh)
      clear h7 S6 S7
      have HX := Lib.hid hxl
      clear hxl
      go_wp2_with fail
      refine S7'.out.mono ?_
      rintro e w8 ⟨rfl, h8⟩
      have S8 := Lib.hid (sUsed h8)
      rw [show usedP [([102], a ++ b.take K, a.length + K)] = a.length + K by simp only [usedP]; have := HX.out; omega] at S8
      have S8' := Lib.hid h8
      clear h8 S7'
      go_wp2_with fail
      refine S8.out.mono ?_
      rintro e w9 ⟨rfl, rfl⟩
      clear S8 hKm
      obtain ⟨vm, wA, hap1, hrA, hbA⟩ := bcopy_run a (.slice A1 a.length C1) w8 22 (HA.out.below S8'.out.bl) (by omega)
      obtain ⟨A9, N9, C9, wB, hap2, hrB, hbB⟩ := bapp_run a b vm (.slice A2 b.length C2) wA 22 w8.heap.size hrA (HB.out.below (bn S8'.out.bl hbA)) (by omega) hbA.size
      obtain ⟨_, _, e9, hc9⟩ := hrB.bc.2
      simp only [Value.slice.injEq, List.length_append] at e9
      obtain ⟨rfl, rfl, rfl⟩ := e9
      rw [List.length_append] at hc9
      have HAP1 := Lib.hid hap1
      have HAP2 := Lib.hid hap2
      have S9 := Lib.hid (S8'.out.plus (hbA.trans hbB) hrB)
      clear hap1 hap2 hrA hbA hrB hbB S8'
      go_wp2_with (at_builtin; first | refine wpList_append_run rfl _ _ 22 rfl _ _ HAP1.out ?_ | refine wpList_append_run rfl _ _ 22 rfl _ _ HAP2.out ?_)
      have HK0 : Hid (crashP (Int.toNat 0) [([102], a ++ b.take K, a.length + K)] = [([102], a ++ b.take K, a.length + K)]) := Lib.hid (by
        have := HX.out
        rw [← this]
        exact crash0 _ _)
      have S10 := Lib.hid (sCrash S9.out 0 (by decide) (by simp))
      rw [HK0.out] at S10
      clear S9 HAP1 HAP2
      refine S10.out.mono ?_
      rintro e w10 ⟨rfl, h10⟩
      have S11 := Lib.hid (sRead h10 ⟨#[102]⟩ (by decide) (a ++ b.take K) (a.length + K) rfl)
      rw [HX.out] at S11
      clear h10 S10
      go_wp2_with fail
      refine S11.out.mono ?_
      rintro e w11 ⟨A11, C11, rfl, h11⟩
      have hx := h11.g (v := .slice A7 (a.length + K) C7) (l := a ++ b.take K) (by simp)
      have hy := h11.g (v := .slice A11 (a.length + K) C11) (l := a ++ b.take K) (by simp)
      have hz := h11.g (v := .slice A9 (a.length + b.length) C9) (l := a ++ b) (by simp)
      have hz2 := hz.upto (a.length + K) (by simp; omega)
      have e5 : (a ++ b).take (a.length + K) = a ++ b.take K := by rw [List.take_length_add_append]
      rw [e5] at hz2
      have hsl := slice_to_run A9 (a.length + b.length) C9 (a.length + K) (by omega) hc9
      have HSL := Lib.hid hsl
      have S12 := Lib.hid (bsame_c _ _ _ _ w11 hx.1 hz2.1 (by rw [HX.out]; omega))
      rw [sameB_self] at S12
      have S13 : Hid (∀ W, Below w11.heap.size w11 W → Calls Try.prog 16 #[.slice A11 (a.length + K) C11, .slice A7 (a.length + K) C7] W fun e w' => e = .returned (.bool true) ∧ Below W.heap.size W w') := Lib.hid (fun W hW => by
        have hh := bsame_c _ _ _ _ W (hy.1.below hW) (hx.1.below hW) (by rw [HX.out]; omega)
        rw [sameB_self] at hh
        exact hh)
      have S14 := Lib.hid h11.bl
      clear hx hy hz hz2 e5 hsl h11 S11
      go_wp2_with (refine wpList_slice_run rfl 22 _ _ _ rfl _ (HSL.out _) ?_)
      refine S12.out.mono ?_
      rintro e w12 ⟨rfl, b12⟩
      go_wp2_with fail
      refine (S13.out _ b12).mono ?_
      rintro e w13 ⟨rfl, b13⟩
      go_wp2_with fail
      refine (HAW.out _).mono ?_
      rintro e w14 ⟨rfl, b14⟩
      go_wp2
      go_ret
      exact ⟨rfl, bn (bn (bn S14.out b12) b13) b14⟩
    · have e2 : decide ((200 : Int) < (b.length : Int)) = true := by simp; omega
      go_enter Try.func3, Try.ntmps3
      go_wp2_with fail
      refine (HAW.out _).mono ?_
      rintro e w1 ⟨rfl, b1⟩
      go_wp2
      go_ret
      exact ⟨rfl, b1⟩
  · have e1 : decide ((200 : Int) < (a.length : Int)) = true := by simp; omega
    go_enter Try.func3, Try.ntmps3
    go_wp2_with fail
    refine (HAW.out _).mono ?_
    rintro e w1 ⟨rfl, b1⟩
    go_wp2
    go_ret
    exact ⟨rfl, b1⟩
end Go.Proofs.Ytmhmdnlkkpjdjaa
