/-
  VectorLacks, as a call: it answers true, whatever it is given.
-/
import Derived.Test.YtmdojflpnikhnaaVecSpn
namespace Go.Proofs.Ytmdojflpnikhnaa
open Go.RowKit Go.Lib

theorem low_num {r : Int} (h0 : 0 ≤ r) (h1 : r < 8) : ∃ n : Nat, 1 + r = (n : Int) ∧ 1 ≤ n ∧ n ≤ 8 := ⟨(1 + r).toNat, by omega, by omega, by omega⟩

set_option maxHeartbeats 32000000 in
set_option maxRecDepth 100000 in
theorem lacks_c (x y z : List Int) (vx vy vz : Value) (nn : Int) (w : World) (hX : Nl w vx x) (hY : Nl w vy y) (hZ : Nl w vz z) :
    Calls Try.prog 5 #[vx, vy, vz, .int .i64 nn] w fun e w' => e = .returned (.bool true) ∧ Below w.heap.size w w' := by
  have HX := Lib.hid hX
  have HY := Lib.hid hY
  have HZ := Lib.hid hZ
  clear hX hY hZ
  go_enter Try.func5, Try.ntmps5
  go_wp2_with fail
  refine (low_c nn 8 w (by omega) (by omega)).mono ?_
  rintro e w1 ⟨r, rfl, hr0, hr1, rfl⟩
  obtain ⟨n, hn, hn1, hn8⟩ := low_num hr0 hr1
  go_wp2_with fail
  clear hn hr0 hr1
  refine (lowv_c x vx n w HX.out hn1 hn8).mono ?_
  rintro e w1 ⟨va, a, rfl, hal, hao, hra, b1⟩
  obtain ⟨ada, capa, rfl, _⟩ := hra.nl.form
  have HAL := Lib.hid hal
  have HAO := Lib.hid hao
  have HA1 := Lib.hid hra.nl
  clear hal hao hra
  go_wp2_with fail
  refine (lowv_c y vy n w1 (HY.out.below b1) hn1 hn8).mono ?_
  rintro e w2 ⟨vb, b, rfl, hbl, hbo, hrb, c2⟩
  obtain ⟨adb, capb, rfl, _⟩ := hrb.nl.form
  have b2 := Below.next b1 c2
  have HBL := Lib.hid hbl
  have HBO := Lib.hid hbo
  have HA2 := Lib.hid (HA1.out.below c2)
  have HB2 := Lib.hid hrb.nl
  clear hbl hbo hrb c2 b1 HA1
  go_wp2_with fail
  refine (lowv_c z vz n w2 (HZ.out.below b2) hn1 hn8).mono ?_
  rintro e w3 ⟨vc, c, rfl, hcl, hco, hrc, c3⟩
  obtain ⟨adc, capc, rfl, _⟩ := hrc.nl.form
  have b3 := Below.next b2 c3
  have HCL := Lib.hid hcl
  have HCO := Lib.hid hco
  have HA3 := Lib.hid (HA2.out.below c3)
  have HB3 := Lib.hid (HB2.out.below c3)
  have HC3 := Lib.hid hrc.nl
  clear hcl hco hrc c3 b2 HA2 HB2
  obtain ⟨J, K, S, hT⟩ := lck a b c n HAL.out HBL.out HCL.out hn8 HAO.out HBO.out HCO.out
  have HT := Lib.hid hT
  have HLN : Hid (a.length = n ∧ b.length = n ∧ c.length = n ∧ J.length = n ∧ K.length = n ∧ S.length ≤ n) := Lib.hid ⟨HAL.out, HBL.out, HCL.out, hT.ln⟩
  have hSn : S.length ≤ 8 := by have := hT.ln; omega
  clear hT
  go_wp2_with fail
  refine (lack_c a b c _ _ _ w3 HA3.out HB3.out HC3.out (by have := HLN.out; omega)).mono ?_
  rw [HT.out.s]
  rintro e w4 ⟨vs, rfl, hrs, c4⟩
  obtain ⟨ads, caps, rfl, hS4⟩ := hrs.rd
  have HS := Lib.hid hS4
  have HA := Lib.hid (HA3.out.below c4)
  have HB := Lib.hid (HB3.out.below c4)
  have HC := Lib.hid (HC3.out.below c4)
  have HB4 : Hid (Below w.heap.size w w4) := Lib.hid (Below.next b3 c4)
  clear hrs hS4 c4 HA3 HB3 HC3 b3 HX HY HZ
  have HAF := Lib.hid HA.out.form
  have HBF := Lib.hid HB.out.form
  have HCF := Lib.hid HC.out.form
  go_wp2
  go_loopw [13, 14] (fun v13 v14 wr => ∃ (k : Nat) (s : Int), k ≤ S.length ∧ v14 = .int .i64 (k : Int) ∧ v13 = .int .i64 s ∧ Hid (s = manyS (S.take k)) ∧ (0 ≤ s ∧ s ≤ 1023 * k) ∧ ∃ q, wr = w4.drewN q) (fun _ v14 _ => S.length - (intOf v14).toNat)
  case atStart => exact ⟨0, 0, by omega, rfl, rfl, Lib.hid rfl, by omega, 0, rfl⟩
  case round =>
    obtain ⟨k, s, hk, rfl, rfl, hs, hsb, q, rfl⟩ := hrel
    by_cases hp : k < S.length
    · obtain ⟨g, rfl, hcells⟩ := HS.out (by omega)
      obtain ⟨d1, d2, d3⟩ := hcells k hp
      obtain ⟨p, m, y, f, hsp, ga, gb, gc, hlt⟩ := HT.out.of S[k] (List.getElem_mem hp)
      rw [Nat.zero_add] at hsp
      have hpa : p < a.length := (List.getElem?_eq_some_iff.1 ga).1
      have hpn : p < n := by have := HLN.out; omega
      have hpb : p < b.length := by have := HLN.out; omega
      have hpc : p < c.length := by have := HLN.out; omega
      rw [List.getElem?_eq_getElem hpa, Option.some.injEq] at ga
      rw [List.getElem?_eq_getElem hpb, Option.some.injEq] at gb
      rw [List.getElem?_eq_getElem hpc, Option.some.injEq] at gc
      have hm := HAO.out a[p] (List.getElem_mem hpa)
      have hy := HBO.out b[p] (List.getElem_mem hpb)
      have hf := HCO.out c[p] (List.getElem_mem hpc)
      rw [ga] at hm
      rw [gb] at hy
      rw [gc] at hf
      obtain ⟨ad1, cap1, e1, k1⟩ := HAF.out
      obtain ⟨ad2, cap2, e2, k2⟩ := HBF.out
      obtain ⟨ad3, cap3, e3, k3⟩ := HCF.out
      simp only [Value.slice.injEq, true_and] at e1 e2 e3
      obtain ⟨rfl, rfl⟩ := e1
      obtain ⟨rfl, rfl⟩ := e2
      obtain ⟨rfl, rfl⟩ := e3
      obtain ⟨b1, o1, rfl, q1⟩ := k1 (by omega)
      obtain ⟨b2, o2, rfl, q2⟩ := k2 (by omega)
      obtain ⟨b3, o3, rfl, q3⟩ := k3 (by omega)
      have x1 := q1 p hpa
      have x2 := q2 p hpb
      have x3 := q3 p hpc
      rw [ga] at x1
      rw [gb] at x2
      rw [gc] at x3
      have hM := mx_ok hy hf
      have hnext : manyS (S.take (k + 1)) = manyS (S.take k) + (m - mx y f) := by
        rw [List.take_succ_eq_append_getElem hp, manyS_snoc, hsp]
      have hord : 0 < k → ∃ p' : Nat, p' < p ∧ w4.cell? ⟨g, (k - 1) * 3, none⟩ = some (.int .i64 (p' : Int)) := fun h0 => by
        have hk1 : k - 1 < S.length := by omega
        obtain ⟨p', m', y', f', hsp', _⟩ := HT.out.of S[k - 1] (List.getElem_mem hk1)
        have h1 := (List.pairwise_iff_getElem.1 HT.out.sorted) (k - 1) k hk1 hp (by omega)
        rw [hsp, hsp'] at h1
        simp only [Nat.zero_add] at h1
        refine ⟨p', by omega, ?_⟩
        rw [(hcells (k - 1) hk1).1, hsp']
        simp
      rw [hsp] at d1 d2 d3
      have hrun := max2_run y f
      have HORD := Lib.hid hord
      have HNEXT := Lib.hid hnext
      clear hcells hsp q1 q2 q3 k1 k2 k3 ga gb gc hord hnext hy hf
      generalize mx y f = M at d1 d2 d3 hlt hM hrun HNEXT
      obtain ⟨D, rfl⟩ : ∃ D, m = M + D := ⟨m - M, by omega⟩
      rw [show M + D - M = D from by omega] at d3 HNEXT
      simp only at d1 d2 d3
      have hD : 1 ≤ D ∧ D ≤ 1023 := by omega
      have t1 : decide (D < 1) = false := by simp; omega
      have t2 : (M + 1 + D - 1 != M + D) = false := by simp; omega
      have z1 : decide ((p : Int) < 0) = false := by simp
      have z2 : decide ((n : Int) ≤ (p : Int)) = false := by simp; omega
      have z3 : decide (n ≤ p) = false := by simpa using hpn
      have hglt := World.block_lt_of_cell? w4 _ d1
      have hl1 := World.block_lt_of_cell? w4 _ x1
      have hl2 := World.block_lt_of_cell? w4 _ x2
      have hl3 := World.block_lt_of_cell? w4 _ x3
      simp only at hglt hl1 hl2 hl3
      clear hlt hm
      by_cases hk0 : k = 0
      · subst hk0
        go_wp2
        dsimp only [List.append]
        go_big_quiet (fail)
        go_wp2
        go_roundw
        case rel => exact ⟨1, s + D, hp, by go_num, by go_num, Lib.hid (by rw [HNEXT.out, ← hs.out]), by omega, q + nq, rfl⟩
        case measure => simp [intOf]; omega
      · obtain ⟨j, rfl⟩ : ∃ j, k = j + 1 := ⟨k - 1, by omega⟩
        obtain ⟨p', hp', d4⟩ := HORD.out (by omega)
        rw [Nat.add_sub_cancel] at d4
        have z4 : decide ((0 : Int) < ((j + 1 : Nat) : Int)) = true := by simp
        have z5 : decide ((0 : Int) < (j : Int) + 1) = true := by rw [decide_eq_true_eq]; omega
        have z6 : decide ((p : Int) ≤ (p' : Int)) = false := by simp; omega
        have z7 : decide (p ≤ p') = false := by simpa using hp'
        go_wp2
        dsimp only [List.append]
        go_big_quiet (fail)
        go_wp2
        go_roundw
        case rel => exact ⟨j + 1 + 1, s + D, hp, by go_num, by go_num, Lib.hid (by rw [HNEXT.out, ← hs.out]), by omega, q + nq, rfl⟩
        case measure => simp [intOf]; omega
    · have hkk : k = S.length := by omega
      have hs2 : s = J.sum - K.sum := by rw [hs.out, hkk, List.take_length, HT.out.many]
      obtain ⟨e5, j0, j1⟩ := HT.out.sj
      obtain ⟨e6, k0, k1⟩ := HT.out.sk
      have HA5 : Hid (Nl (w4.drewN q) _ a) := Lib.hid HA.out
      have HB5 : Hid (Nl (w4.drewN q) _ b) := Lib.hid HB.out
      have HC5 : Hid (Nl (w4.drewN q) _ c) := Lib.hid HC.out
      have HW5 : Hid (Below w.heap.size w (w4.drewN q)) := Lib.hid (below_drewN HB4.out q)
      generalize w4.drewN q = w5 at HA5 HB5 HC5 HW5
      have HSJ := Lib.hid e5
      have HSK := Lib.hid e6
      generalize J.sum = sj at hs2 HSJ j0 j1
      generalize K.sum = sk at hs2 HSK k0 k1
      subst hs2
      clear e5 e6 hs hsb hkk HA HB HC HB4 HAF HBF HCF HS
      have b5 : Below w5.heap.size w5 w5 := Below.refl _ _
      go_wp2_with fail
      refine (join_c [a, b, c] _ _ (vl_new3 w5 _ rfl _ _ _ _ _ _ HA5.out HB5.out HC5.out) (by simp) (by simp [HLN.out]; omega)).mono ?_
      rw [HT.out.j]
      rintro e w6 ⟨v6, rfl, r6, c6⟩
      obtain ⟨ad6, cap6, rfl, _⟩ := r6.nl.form
      have b6 : Below w5.heap.size w5 w6 := Below.next (alloc_below w5 _) c6
      have HJ6 := Lib.hid r6.nl
      clear r6 c6
      go_wp2_with fail
      refine (sum_c J _ w6 HJ6.out (by have := HLN.out; omega)).mono ?_
      rw [HSJ.out]
      rintro e w7 ⟨rfl, rfl⟩
      go_wp2_with fail
      refine (join_c [b, c] _ _ (vl_new2 w6 _ rfl _ _ _ _ (HB5.out.below b6) (HC5.out.below b6)) (by simp) (by simp [HLN.out]; omega)).mono ?_
      rw [HT.out.k]
      rintro e w7 ⟨v7, rfl, r7, c7⟩
      obtain ⟨ad7, cap7, rfl, _⟩ := r7.nl.form
      have c7' : Below w6.heap.size w6 w7 := Below.next (alloc_below w6 _) c7
      have b7 : Below w5.heap.size w5 w7 := Below.next b6 c7'
      have HK7 := Lib.hid r7.nl
      have HJ7 := Lib.hid (HJ6.out.below c7')
      clear r7 c7 c7' b6 HJ6
      go_wp2_with fail
      refine (sum_c K _ w7 HK7.out (by have := HLN.out; omega)).mono ?_
      rw [HSK.out]
      rintro e w8 ⟨rfl, rfl⟩
      go_wp2_with fail
      refine (lack_c a J c _ _ _ w7 (HA5.out.below b7) HJ7.out (HC5.out.below b7) (by have := HLN.out; omega)).mono ?_
      rw [HT.out.no]
      rintro e w8 ⟨v8, rfl, r8, c8⟩
      obtain ⟨ad8, cap8, rfl, _⟩ := r8.rd
      have b8 : Below w5.heap.size w5 w8 := Below.next b7 c8
      clear r8 c8 b7
      go_wp2_with fail
      refine (awake_c w8).mono ?_
      rintro e w9 ⟨rfl, c9⟩
      go_wp2
      go_ret
      exact ⟨rfl, HW5.out.trans ((Below.next b8 c9).mono HW5.out.size)⟩

end Go.Proofs.Ytmdojflpnikhnaa
