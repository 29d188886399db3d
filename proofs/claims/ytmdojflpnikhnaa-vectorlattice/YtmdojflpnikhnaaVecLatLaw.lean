/-
  VectorLattice, as a call: it answers true, whatever it is given.
-/
import Derived.Test.YtmdojflpnikhnaaVecLat
namespace Go.Proofs.Ytmdojflpnikhnaa
open Go.RowKit Go.Lib

theorem low_num {r : Int} (h0 : 0 ≤ r) (h1 : r < 8) : ∃ n : Nat, 1 + r = (n : Int) ∧ 1 ≤ n ∧ n ≤ 8 := ⟨(1 + r).toNat, by omega, by omega, by omega⟩

set_option maxHeartbeats 32000000 in
set_option maxRecDepth 100000 in
theorem lattice_c (x y z : List Int) (vx vy vz : Value) (nn : Int) (w : World) (hX : Nl w vx x) (hY : Nl w vy y) (hZ : Nl w vz z) :
    Calls Try.prog 4 #[vx, vy, vz, .int .i64 nn] w fun e w' => e = .returned (.bool true) ∧ Below w.heap.size w w' := by
  have HX := Lib.hid hX
  have HY := Lib.hid hY
  have HZ := Lib.hid hZ
  clear hX hY hZ
  go_enter Try.func4, Try.ntmps4
  go_wp2_with fail
  refine (low_c nn 8 w (by omega) (by omega)).mono ?_
  rintro e w1 ⟨r, rfl, hr0, hr1, rfl⟩
  obtain ⟨n, hn, hn1, hn8⟩ := low_num hr0 hr1
  go_wp2_with fail
  clear hn hr0 hr1
  refine (lowv_c x vx n w HX.out hn1 hn8).mono ?_
  rintro e w1 ⟨va, a, rfl, hal, hao, hra, b1⟩
  obtain ⟨ada, capa, rfl, _⟩ := hra.nl.form
  have HAL := Lib.hid hal
  have HAO := Lib.hid hao
  have HA1 := Lib.hid hra.nl
  clear hal hao hra
  go_wp2_with fail
  refine (lowv_c y vy n w1 (HY.out.below b1) hn1 hn8).mono ?_
  rintro e w2 ⟨vb, b, rfl, hbl, hbo, hrb, c2⟩
  obtain ⟨adb, capb, rfl, _⟩ := hrb.nl.form
  have b2 := Below.next b1 c2
  have HBL := Lib.hid hbl
  have HBO := Lib.hid hbo
  have HA2 := Lib.hid (HA1.out.below c2)
  have HB2 := Lib.hid hrb.nl
  clear hbl hbo hrb c2 b1 HA1
  go_wp2_with fail
  refine (lowv_c z vz n w2 (HZ.out.below b2) hn1 hn8).mono ?_
  rintro e w3 ⟨vc, c, rfl, hcl, hco, hrc, c3⟩
  obtain ⟨adc, capc, rfl, _⟩ := hrc.nl.form
  have b3 := Below.next b2 c3
  have HCL := Lib.hid hcl
  have HCO := Lib.hid hco
  have HA3 := Lib.hid (HA2.out.below c3)
  have HB3 := Lib.hid (HB2.out.below c3)
  have HC3 := Lib.hid hrc.nl
  clear hcl hco hrc c3 b2 HA2 HB2
  obtain ⟨J, M, Jab, Mab, hT⟩ := lat a b c n HAL.out HBL.out HCL.out hn1 hn8 HAO.out HBO.out HCO.out
  have HT := Lib.hid hT
  have HLN : Hid (a.length = n ∧ b.length = n ∧ c.length = n ∧ J.length = n ∧ M.length = n ∧ Jab.length = n ∧ Mab.length = n) := Lib.hid ⟨HAL.out, HBL.out, HCL.out, hT.ln⟩
  clear hT
  go_wp2_with fail
  refine (join_c [a, b, c] _ _ (vl_new3 w3 _ rfl _ _ _ _ _ _ HA3.out HB3.out HC3.out) (by simp) (by simp [HLN.out]; omega)).mono ?_
  rw [HT.out.j]
  rintro e w4 ⟨vj, rfl, hrj, c4⟩
  obtain ⟨adj, capj, rfl, _⟩ := hrj.nl.form
  have c4' : Below w3.heap.size w3 w4 := Below.next (alloc_below w3 _) c4
  have HJ4 := Lib.hid hrj.nl
  clear hrj c4
  go_wp2_with fail
  refine (meet_c [a, b, c] _ _ (vl_new3 w4 _ rfl _ _ _ _ _ _ (HA3.out.below c4') (HB3.out.below c4') (HC3.out.below c4')) (by simp) (by simp [HLN.out]; omega)).mono ?_
  rw [HT.out.m]
  rintro e w5 ⟨vm, rfl, hrm, c5⟩
  obtain ⟨adm, capm, rfl, _⟩ := hrm.nl.form
  have c45 : Below w4.heap.size w4 w5 := Below.next (alloc_below w4 _) c5
  have c5' : Below w3.heap.size w3 w5 := Below.next c4' c45
  have HM := Lib.hid hrm.nl
  have HJ := Lib.hid (HJ4.out.below c45)
  have HA := Lib.hid (HA3.out.below c5')
  have HB := Lib.hid (HB3.out.below c5')
  have HC := Lib.hid (HC3.out.below c5')
  have HB5 : Hid (Below w.heap.size w w5) := Lib.hid (Below.next b3 c5')
  clear hrm c5 c45 c5' c4' HJ4 HA3 HB3 HC3 b3 HX HY HZ
  have b5 : Below w5.heap.size w5 w5 := Below.refl _ _
  go_wp2_with fail
  refine (join_c [c, a, b, a] _ _ (vl_new4 w5 _ rfl _ _ _ _ _ _ _ _ (HC.out.below b5) (HA.out.below b5) (HB.out.below b5) (HA.out.below b5)) (by simp) (by simp [HLN.out]; omega)).mono ?_
  rw [HT.out.j4]
  rintro e w6 ⟨v6, rfl, r6, c6⟩
  have b6 : Below w5.heap.size w5 w6 := Below.next (b5.alloc b5.size _) c6
  have H6 := Lib.hid r6.nl
  obtain ⟨ad6, cap6, rfl, _⟩ := r6.nl.form
  clear c6 r6
  go_wp2_with fail
  refine (sameT_c J _ _ w6 (HJ.out.below b6) H6.out (by have := HLN.out; omega)).mono ?_
  rintro e w7 ⟨rfl, c7⟩
  have b7 : Below w5.heap.size w5 w7 := Below.next b6 c7
  clear c7 b6
  go_wp2_with fail
  refine (meet_c [c, a, b, a] _ _ (vl_new4 w7 _ rfl _ _ _ _ _ _ _ _ (HC.out.below b7) (HA.out.below b7) (HB.out.below b7) (HA.out.below b7)) (by simp) (by simp [HLN.out]; omega)).mono ?_
  rw [HT.out.m4]
  rintro e w8 ⟨v8, rfl, r8, c8⟩
  have b8 : Below w5.heap.size w5 w8 := Below.next (b7.alloc b7.size _) c8
  have H8 := Lib.hid r8.nl
  obtain ⟨ad8, cap8, rfl, _⟩ := r8.nl.form
  clear c8 r8 b7
  go_wp2_with fail
  refine (sameT_c M _ _ w8 (HM.out.below b8) H8.out (by have := HLN.out; omega)).mono ?_
  rintro e w9 ⟨rfl, c9⟩
  have b9 : Below w5.heap.size w5 w9 := Below.next b8 c9
  clear c9 b8
  go_wp2_with fail
  refine (join_c [a, b] _ _ (vl_new2 w9 _ rfl _ _ _ _ (HA.out.below b9) (HB.out.below b9)) (by simp) (by simp [HLN.out]; omega)).mono ?_
  rw [HT.out.jab]
  rintro e w10 ⟨v10, rfl, r10, c10⟩
  have b10 : Below w5.heap.size w5 w10 := Below.next (b9.alloc b9.size _) c10
  have H10 := Lib.hid r10.nl
  obtain ⟨ad10, cap10, rfl, _⟩ := r10.nl.form
  clear c10 r10 b9
  go_wp2_with fail
  refine (join_c [Jab, c] _ _ (vl_new2 w10 _ rfl _ _ _ _ H10.out (HC.out.below b10)) (by simp) (by simp [HLN.out]; omega)).mono ?_
  rw [HT.out.j2]
  rintro e w11 ⟨v11, rfl, r11, c11⟩
  have b11 : Below w5.heap.size w5 w11 := Below.next (b10.alloc b10.size _) c11
  have H11 := Lib.hid r11.nl
  obtain ⟨ad11, cap11, rfl, _⟩ := r11.nl.form
  clear c11 r11 b10
  go_wp2_with fail
  refine (sameT_c J _ _ w11 (HJ.out.below b11) H11.out (by have := HLN.out; omega)).mono ?_
  rintro e w12 ⟨rfl, c12⟩
  have b12 : Below w5.heap.size w5 w12 := Below.next b11 c12
  clear c12 b11
  go_wp2_with fail
  refine (meet_c [a, b] _ _ (vl_new2 w12 _ rfl _ _ _ _ (HA.out.below b12) (HB.out.below b12)) (by simp) (by simp [HLN.out]; omega)).mono ?_
  rw [HT.out.mab]
  rintro e w13 ⟨v13, rfl, r13, c13⟩
  have b13 : Below w5.heap.size w5 w13 := Below.next (b12.alloc b12.size _) c13
  have H13 := Lib.hid r13.nl
  obtain ⟨ad13, cap13, rfl, _⟩ := r13.nl.form
  clear c13 r13 b12
  go_wp2_with fail
  refine (join_c [a, Mab] _ _ (vl_new2 w13 _ rfl _ _ _ _ (HA.out.below b13) H13.out) (by simp) (by simp [HLN.out]; omega)).mono ?_
  rw [HT.out.ja]
  rintro e w14 ⟨v14, rfl, r14, c14⟩
  have b14 : Below w5.heap.size w5 w14 := Below.next (b13.alloc b13.size _) c14
  have H14 := Lib.hid r14.nl
  obtain ⟨ad14, cap14, rfl, _⟩ := r14.nl.form
  clear c14 r14 b13
  go_wp2_with fail
  refine (sameT_c a _ _ w14 H14.out (HA.out.below b14) (by have := HLN.out; omega)).mono ?_
  rintro e w15 ⟨rfl, c15⟩
  have b15 : Below w5.heap.size w5 w15 := Below.next b14 c15
  clear c15 b14
  go_wp2_with fail
  refine (join_c [a, b] _ _ (vl_new2 w15 _ rfl _ _ _ _ (HA.out.below b15) (HB.out.below b15)) (by simp) (by simp [HLN.out]; omega)).mono ?_
  rw [HT.out.jab]
  rintro e w16 ⟨v16, rfl, r16, c16⟩
  have b16 : Below w5.heap.size w5 w16 := Below.next (b15.alloc b15.size _) c16
  have H16 := Lib.hid r16.nl
  obtain ⟨ad16, cap16, rfl, _⟩ := r16.nl.form
  clear c16 r16 b15
  go_wp2_with fail
  refine (meet_c [a, Jab] _ _ (vl_new2 w16 _ rfl _ _ _ _ (HA.out.below b16) H16.out) (by simp) (by simp [HLN.out]; omega)).mono ?_
  rw [HT.out.ma]
  rintro e w17 ⟨v17, rfl, r17, c17⟩
  have b17 : Below w5.heap.size w5 w17 := Below.next (b16.alloc b16.size _) c17
  have H17 := Lib.hid r17.nl
  obtain ⟨ad17, cap17, rfl, _⟩ := r17.nl.form
  clear c17 r17 b16
  go_wp2_with fail
  refine (sameT_c a _ _ w17 H17.out (HA.out.below b17) (by have := HLN.out; omega)).mono ?_
  rintro e w18 ⟨rfl, c18⟩
  have b18 : Below w5.heap.size w5 w18 := Below.next b17 c18
  clear c18 b17
  go_wp2_with fail
  refine (below_c a J _ _ w18 (HA.out.below b18) (HJ.out.below b18) (by have := HLN.out; omega)).mono ?_
  rw [HT.out.la]
  rintro e w19 ⟨rfl, c19⟩
  have b19 : Below w5.heap.size w5 w19 := Below.next b18 c19
  clear c19 b18
  go_wp2_with fail
  refine (below_c M a _ _ w19 (HM.out.below b19) (HA.out.below b19) (by have := HLN.out; omega)).mono ?_
  rw [HT.out.lm]
  rintro e w20 ⟨rfl, c20⟩
  have b20 : Below w5.heap.size w5 w20 := Below.next b19 c20
  clear c20 b19
  go_wp2_with fail
  refine (below_c b J _ _ w20 (HB.out.below b20) (HJ.out.below b20) (by have := HLN.out; omega)).mono ?_
  rw [HT.out.lb]
  rintro e w21 ⟨rfl, c21⟩
  have b21 : Below w5.heap.size w5 w21 := Below.next b20 c21
  clear c21 b20
  go_wp2_with fail
  refine (below_c M c _ _ w21 (HM.out.below b21) (HC.out.below b21) (by have := HLN.out; omega)).mono ?_
  rw [HT.out.lc]
  rintro e w22 ⟨rfl, c22⟩
  have b22 : Below w5.heap.size w5 w22 := Below.next b21 c22
  clear c22 b21
  go_wp2_with fail
  refine (may_c J (n : Int) _ w22 (HJ.out.below b22) (by have := HLN.out; omega)).mono ?_
  rw [HT.out.may]
  rintro e w23 ⟨rfl, c23⟩
  have b23 : Below w5.heap.size w5 w23 := Below.next b22 c23
  clear c23 b22
  go_wp2_with fail
  refine (below_c a b _ _ w23 (HA.out.below b23) (HB.out.below b23) (by have := HLN.out; omega)).mono ?_
  rintro e w24 ⟨rfl, c24⟩
  have b24 : Below w5.heap.size w5 w24 := Below.next b23 c24
  clear c24 b23
  go_wp2_with fail
  refine (join_c [a, b] _ _ (vl_new2 w24 _ rfl _ _ _ _ (HA.out.below b24) (HB.out.below b24)) (by simp) (by simp [HLN.out]; omega)).mono ?_
  rw [HT.out.jab]
  rintro e w25 ⟨v25, rfl, r25, c25⟩
  have b25 : Below w5.heap.size w5 w25 := Below.next (b24.alloc b24.size _) c25
  have H25 := Lib.hid r25.nl
  obtain ⟨ad25, cap25, rfl, _⟩ := r25.nl.form
  clear c25 r25 b24
  go_wp2_with fail
  refine (same_c Jab b _ _ w25 H25.out (HB.out.below b25) (by have := HLN.out; omega)).mono ?_
  rw [HT.out.same]
  rintro e w26 ⟨rfl, c26⟩
  have b26 : Below w5.heap.size w5 w26 := Below.next b25 c26
  clear c26 b25
  generalize leB a b = X
  have hXX : (X == X) = true := by simp
  go_wp2_with fail
  refine (sum_c J _ w26 (HJ.out.below b26) (by have := HLN.out; omega)).mono ?_
  rintro e w27 ⟨rfl, rfl⟩
  go_wp2_with fail
  refine (sum_c a _ w26 (HA.out.below b26) (by have := HLN.out; omega)).mono ?_
  rintro e w28 ⟨rfl, rfl⟩
  have hsum := HT.out.sum
  generalize sumL 0 J = sj at hsum ⊢
  generalize sumL 0 a = sa at hsum ⊢
  have hs2 : decide (sa ≤ sj) = true := by simpa using hsum
  go_wp2_with fail
  refine (awake_c w26).mono ?_
  rintro e w29 ⟨rfl, c29⟩
  have b29 : Below w5.heap.size w5 w29 := Below.next b26 c29
  clear c29 b26
  go_wp2
  go_ret
  exact ⟨rfl, HB5.out.trans (b29.mono HB5.out.size)⟩

end Go.Proofs.Ytmdojflpnikhnaa
