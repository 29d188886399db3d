/-
  VectorZeros, as a call: it answers true, whatever it is given.
-/
import Derived.Test.YtmdojflpnikhnaaVecMath
namespace Go.Proofs.Ytmdojflpnikhnaa
open Go.RowKit Go.Lib

theorem low_num {r : Int} (h0 : 0 ≤ r) (h1 : r < 8) : ∃ n : Nat, 1 + r = (n : Int) ∧ 1 ≤ n ∧ n ≤ 8 := ⟨(1 + r).toNat, by omega, by omega, by omega⟩

set_option maxHeartbeats 16000000 in
set_option maxRecDepth 100000 in
theorem zeros_c (l : List Int) (v : Value) (nn mm : Int) (w : World) (hL : Nl w v l) :
    Calls Try.prog 6 #[v, .int .i64 nn, .int .i64 mm] w fun e w' => e = .returned (.bool true) ∧ Below w.heap.size w w' := by
  have HL := Lib.hid hL
  clear hL
  go_enter Try.func6, Try.ntmps6
  go_wp2_with fail
  refine (low_c nn 8 w (by omega) (by omega)).mono ?_
  rintro e w1 ⟨r, rfl, hr0, hr1, rfl⟩
  go_wp2_with fail
  refine (low_c mm 8 w (by omega) (by omega)).mono ?_
  rintro e w1 ⟨s, rfl, hs0, hs1, rfl⟩
  obtain ⟨n, hn, hn1, hn8⟩ := low_num hr0 hr1
  obtain ⟨m, hm, hm1, hm8⟩ := low_num hs0 hs1
  go_wp2_with fail
  clear hn hm hr0 hr1 hs0 hs1
  refine (lowv_c l v n w HL.out hn1 hn8).mono ?_
  rintro e w1 ⟨va, a, rfl, hal, hao, hra, b1⟩
  have HAL := Lib.hid hal
  have HAO := Lib.hid hao
  have HA := Lib.hid hra.nl
  have HB1 := Lib.hid b1
  obtain ⟨ada, capa, rfl, _⟩ := hra.nl.form
  clear hal hao hra b1
  go_wp2_with fail
  refine (zero_c n w1 hn1 hn8).mono ?_
  rintro e w2 ⟨vz, rfl, hrz, b2⟩
  have HZ := Lib.hid hrz.nl
  have HA2 := Lib.hid (HA.out.below b2)
  have HB2 := Lib.hid (Below.next HB1.out b2)
  obtain ⟨adz, capz, rfl, _⟩ := hrz.nl.form
  rw [List.length_replicate]
  rw [List.length_replicate] at HZ
  clear hrz b2 HA HB1
  have b2 : Below w2.heap.size w2 w2 := Below.refl _ _
  -- Join(a, z) is a
  go_wp2_with fail
  refine (join_c [a, List.replicate n 0] _ _ (vl_new2 w2 _ rfl _ _ _ _ HA2.out HZ.out) (by simp) (by simp [HAL.out]; omega)).mono ?_
  rw [join_zero a n HAL.out HAO.out]
  rintro e w3 ⟨v3, rfl, r3, b3⟩
  have b3' : Below w2.heap.size w2 w3 := Below.next (b2.alloc b2.size _) b3
  have H3 := Lib.hid r3.nl
  clear b3 r3
  go_wp2_with fail
  refine (sameT_c a v3 _ _ H3.out (HA2.out.below b3') (by have := HAL.out; omega)).mono ?_
  rintro e w4 ⟨rfl, b4⟩
  have b4' : Below w2.heap.size w2 w4 := Below.next b3' b4
  clear b4 b3' H3
  -- Meet(a, z) is z
  go_wp2_with fail
  refine (meet_c [a, List.replicate n 0] _ _ (vl_new2 w4 _ rfl _ _ _ _ (HA2.out.below b4') (HZ.out.below b4')) (by simp) (by simp [HAL.out]; omega)).mono ?_
  rw [meet_zero a n HAL.out HAO.out]
  rintro e w5 ⟨v5, rfl, r5, b5⟩
  have b5' : Below w2.heap.size w2 w5 := Below.next (b4'.alloc b4'.size _) b5
  have H5 := Lib.hid r5.nl
  clear b5 r5 b4'
  go_wp2_with fail
  refine (sameT_c (List.replicate n 0) v5 _ _ H5.out (HZ.out.below b5') (by simp; omega)).mono ?_
  rintro e w6 ⟨rfl, b6⟩
  have b6' : Below w2.heap.size w2 w6 := Below.next b5' b6
  clear b6 b5' H5
  -- Join(a, a, a) is a
  go_wp2_with fail
  refine (join_c [a, a, a] _ _ (vl_new3 w6 _ rfl _ _ _ _ _ _ (HA2.out.below b6') (HA2.out.below b6') (HA2.out.below b6')) (by simp) (by simp [HAL.out]; omega)).mono ?_
  rw [join_thrice a]
  rintro e w7 ⟨v7, rfl, r7, b7⟩
  have b7' : Below w2.heap.size w2 w7 := Below.next (b6'.alloc b6'.size _) b7
  have H7 := Lib.hid r7.nl
  clear b7 r7 b6'
  go_wp2_with fail
  refine (sameT_c a v7 _ _ H7.out (HA2.out.below b7') (by have := HAL.out; omega)).mono ?_
  rintro e w8 ⟨rfl, b8⟩
  have b8' : Below w2.heap.size w2 w8 := Below.next b7' b8
  clear b8 b7' H7
  -- Below(z, a)
  go_wp2_with fail
  refine (below_c (List.replicate n 0) a _ _ w8 (HZ.out.below b8') (HA2.out.below b8') (by simp; omega)).mono ?_
  rw [leB_zero a n HAL.out HAO.out]
  rintro e w9 ⟨rfl, b9⟩
  have b9' : Below w2.heap.size w2 w9 := Below.next b8' b9
  clear b8' b9
  -- Sum(z)
  go_wp2_with fail
  refine (sum_c (List.replicate n 0) _ w9 (HZ.out.below b9') (by simp; omega)).mono ?_
  rw [sumL_zero n]
  rintro e w10 ⟨rfl, rfl⟩
  -- Zero(m)
  go_wp2_with fail
  refine (zero_c m w9 hm1 hm8).mono ?_
  rintro e w10 ⟨vb, rfl, hrb, b10⟩
  have HY := Lib.hid hrb.nl
  have b10' : Below w2.heap.size w2 w10 := Below.next b9' b10
  obtain ⟨adb, capb, rfl, _⟩ := hrb.nl.form
  rw [List.length_replicate]
  rw [List.length_replicate] at HY
  clear hrb b10 b9'
  have HM : Hid (∀ W, Below w2.heap.size w2 W → Calls Try.prog 17 #[.slice adz n capz, .int .i64 (n : Int)] W fun e w' => e = .returned (.bool true) ∧ Below W.heap.size W w') := Lib.hid (fun W hW => by
    have h := may_c (List.replicate n 0) (n : Int) _ W (HZ.out.below hW) (by simp; omega)
    rw [mayB_of _ n (by simp) hn1 hn8 (okay_zero n)] at h
    exact h)
  by_cases hnm : n = m
  · have e0 : ((n : Int) == (m : Int)) = true := by simp [hnm]
    clear hnm
    go_wp2_with fail
    refine (HM.out w10 b10').mono ?_
    rintro e w11 ⟨rfl, b11⟩
    have b11' : Below w2.heap.size w2 w11 := Below.next b10' b11
    clear b11 b10'
    go_wp2_with fail
    refine (awake_c w11).mono ?_
    rintro e w12 ⟨rfl, b12⟩
    go_wp2
    go_ret
    exact ⟨rfl, HB2.out.trans ((Below.next b11' b12).mono HB2.out.size)⟩
  · have e0 : ((n : Int) == (m : Int)) = false := by simp; omega
    have HNE : Hid ((List.replicate m (0 : Int)).length ≠ a.length) := Lib.hid (by have := HAL.out; simp; omega)
    clear hnm
    -- unlike: no join
    go_wp2_with fail
    refine (join_c [a, List.replicate m 0] _ _ (vl_new2 w10 _ rfl _ _ _ _ (HA2.out.below b10') HY.out) (by simp) (by simp [HAL.out]; omega)).mono ?_
    rw [allF_unlike _ _ _ HNE.out]
    rintro e w11 ⟨v11, rfl, r11, b11⟩
    have b11' : Below w10.heap.size w10 w11 := Below.next (alloc_below w10 _) b11
    have HA11 := Lib.hid (HA2.out.below (Below.next b10' b11'))
    obtain ⟨ad11, cap11, rfl, _⟩ := r11.nl.form
    clear b11 r11
    -- no meet
    go_wp2_with fail
    refine (meet_c [a, List.replicate m 0] _ _ (vl_new2 w11 _ rfl _ _ _ _ HA11.out (HY.out.below b11')) (by simp) (by simp [HAL.out]; omega)).mono ?_
    rw [allF_unlike _ _ _ HNE.out]
    rintro e w12 ⟨v12, rfl, r12, b12⟩
    have b12' : Below w10.heap.size w10 w12 := Below.next (b11'.alloc b11'.size _) b12
    have HA12 := Lib.hid (HA2.out.below (Below.next b10' b12'))
    obtain ⟨ad12, cap12, rfl, _⟩ := r12.nl.form
    clear b12 r12 b11' HA11
    -- not below
    go_wp2_with fail
    refine (below_c (List.replicate m 0) a _ _ w12 (HY.out.below b12') HA12.out (by simp; omega)).mono ?_
    rw [leB_len _ _ HNE.out]
    rintro e w13 ⟨rfl, b13⟩
    have b13' : Below w10.heap.size w10 w13 := Below.next b12' b13
    have HA13 := Lib.hid (HA2.out.below (Below.next b10' b13'))
    clear b13 b12' HA12
    -- nothing lacking
    go_wp2_with fail
    refine (lack_c a (List.replicate m 0) a _ _ _ w13 HA13.out (HY.out.below b13') HA13.out (by have := HAL.out; omega)).mono ?_
    rw [lackL_unlike _ _ _ (fun e => HNE.out e.symm)]
    rintro e w14 ⟨v14, rfl, r14, b14⟩
    have b14' : Below w2.heap.size w2 w14 := Below.next b10' (Below.next b13' b14)
    obtain ⟨ad14, cap14, rfl, _⟩ := r14.rd
    clear b14 r14 b13' HA13 b10'
    go_wp2_with fail
    refine (HM.out w14 b14').mono ?_
    rintro e w15 ⟨rfl, b15⟩
    have b15' : Below w2.heap.size w2 w15 := Below.next b14' b15
    clear b15 b14'
    go_wp2_with fail
    refine (awake_c w15).mono ?_
    rintro e w16 ⟨rfl, b16⟩
    go_wp2
    go_ret
    exact ⟨rfl, HB2.out.trans ((Below.next b15' b16).mono HB2.out.size)⟩

end Go.Proofs.Ytmdojflpnikhnaa
