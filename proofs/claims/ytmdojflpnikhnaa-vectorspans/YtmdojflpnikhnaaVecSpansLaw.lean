/-
  VectorSpans, as a call: it answers true, whatever it is given.
-/
import Derived.Test.YtmdojflpnikhnaaVecSpm
namespace Go.Proofs.Ytmdojflpnikhnaa
open Go.RowKit Go.Lib

theorem low_num {r : Int} (h0 : 0 ≤ r) (h1 : r < 8) : ∃ n : Nat, 1 + r = (n : Int) ∧ 1 ≤ n ∧ n ≤ 8 := ⟨(1 + r).toNat, by omega, by omega, by omega⟩

set_option maxHeartbeats 32000000 in
set_option maxRecDepth 100000 in
theorem spansl_c (x y : List Int) (vx vy : Value) (nn : Int) (w : World) (hX : Nl w vx x) (hY : Nl w vy y) :
    Calls Try.prog 7 #[vx, vy, .int .i64 nn] w fun e w' => e = .returned (.bool true) ∧ Below w.heap.size w w' := by
  have HX := Lib.hid hX
  have HY := Lib.hid hY
  clear hX hY
  go_enter Try.func7, Try.ntmps7
  go_wp2_with fail
  refine (low_c nn 8 w (by omega) (by omega)).mono ?_
  rintro e w1 ⟨r, rfl, hr0, hr1, rfl⟩
  obtain ⟨n, hn, hn1, hn8⟩ := low_num hr0 hr1
  go_wp2_with fail
  clear hn hr0 hr1
  refine (lowv_c x vx n w HX.out hn1 hn8).mono ?_
  rintro e w1 ⟨va, a, rfl, hal, hao, hra, b1⟩
  obtain ⟨ada, capa, rfl, _⟩ := hra.nl.form
  have HAL := Lib.hid hal
  have HAO := Lib.hid hao
  have HA1 := Lib.hid hra.nl
  clear hal hao hra
  go_wp2_with fail
  refine (lowv_c y vy n w1 (HY.out.below b1) hn1 hn8).mono ?_
  rintro e w2 ⟨vb, b, rfl, hbl, hbo, hrb, c2⟩
  obtain ⟨adb, capb, rfl, _⟩ := hrb.nl.form
  have b2 := Below.next b1 c2
  have HBL := Lib.hid hbl
  have HBO := Lib.hid hbo
  have HA2 := Lib.hid (HA1.out.below c2)
  have HB2 := Lib.hid hrb.nl
  clear hbl hbo hrb c2 b1 HA1
  go_wp2_with fail
  refine (zero_c n w2 hn1 hn8).mono ?_
  rintro e w3 ⟨vz, rfl, hrz, c3⟩
  have b3 := Below.next b2 c3
  have HZ3 := Lib.hid hrz.nl
  obtain ⟨adz, capz, rfl, _⟩ := hrz.nl.form
  rw [List.length_replicate]
  rw [List.length_replicate] at HZ3
  have HA3 := Lib.hid (HA2.out.below c3)
  have HB3 := Lib.hid (HB2.out.below c3)
  clear hrz c3 b2 HA2 HB2
  obtain ⟨J, P, Q, hT⟩ := spn a b n HAL.out HBL.out hn8 HAO.out HBO.out
  have HT := Lib.hid hT
  have HLN : Hid (a.length = n ∧ b.length = n ∧ J.length = n ∧ P.length ≤ n ∧ Q.length ≤ n) := Lib.hid ⟨HAL.out, HBL.out, hT.ln⟩
  have hP8 : P.length ≤ 8 := by have := hT.ln; omega
  have hQ8 : Q.length ≤ 8 := by have := hT.ln; omega
  clear hT
  go_wp2_with fail
  refine (lack_c a b (List.replicate n 0) _ _ _ w3 HA3.out HB3.out HZ3.out (by have := HLN.out; omega)).mono ?_
  rw [HT.out.p]
  rintro e w4 ⟨vp, rfl, hrp, c4⟩
  obtain ⟨adp, capp, rfl, _⟩ := hrp.rd
  have HP4 := Lib.hid hrp.rd
  have HA4 := Lib.hid (HA3.out.below c4)
  have HB4 := Lib.hid (HB3.out.below c4)
  have HZ4 := Lib.hid (HZ3.out.below c4)
  have b4 := Below.next b3 c4
  clear hrp c4 b3 HA3 HB3 HZ3
  go_wp2_with fail
  refine (lack_c b a (List.replicate n 0) _ _ _ w4 HB4.out HA4.out HZ4.out (by have := HLN.out; omega)).mono ?_
  rw [HT.out.q]
  rintro e w5 ⟨vq, rfl, hrq, c5⟩
  obtain ⟨adq, capq, rfl, _⟩ := hrq.rd
  have HQ := Lib.hid hrq.rd
  have HP := Lib.hid (HP4.out.below c5)
  have HA := Lib.hid (HA4.out.below c5)
  have HB := Lib.hid (HB4.out.below c5)
  have HB5 := Lib.hid (Below.next b4 c5)
  clear hrq c5 b4 HA4 HB4 HZ4 HP4 HX HY
  obtain ⟨vg, w6, happ, hrg, b6⟩ := copy_run b _ w5 23 HB.out (by have := HLN.out; omega)
  obtain ⟨adg, capg, rfl, _⟩ := hrg.nl.form
  have HAPP := Lib.hid happ
  have HG6 := Lib.hid hrg
  have HB6 := Lib.hid b6
  clear happ hrg b6
  go_wp2_with (at_builtin; refine wpList_append_run rfl _ _ 23 rfl _ _ HAPP.out ?_)
  clear HAPP
  have HPF := Lib.hid HP.out
  go_loopw [13, 14] (fun v13 v14 wr => ∃ (k : Nat) (G : List Int) (s : Int), k ≤ P.length ∧ v14 = .int .i64 (k : Int) ∧ v13 = .int .i64 s ∧ Hid (s = manyS (P.take k)) ∧ (0 ≤ s ∧ s ≤ 1023 * k) ∧ Hid (addS G (P.drop k) = J) ∧ Hid (G.length = b.length) ∧ Hid (∀ x ∈ G, 0 ≤ x ∧ x ≤ 1023 * (k + 1)) ∧ Hid (Row wr w5.heap.size (.slice adg b.length capg) G) ∧ Below w5.heap.size w5 wr) (fun _ v14 _ => P.length - (intOf v14).toNat)
  case atStart =>
    refine ⟨0, b, 0, by omega, rfl, rfl, Lib.hid rfl, by omega, Lib.hid HT.out.add, Lib.hid rfl, Lib.hid (fun x hx => ?_), HG6, HB6.out⟩
    have := HBO.out x hx
    omega
  case round =>
    obtain ⟨k, G, s, hk, rfl, rfl, hs, hsb, hx, hgl, hgb, HG, hbw⟩ := hrel
    clear HG6 HB6
    by_cases hp : k < P.length
    · obtain ⟨adp', capp', e1, k1⟩ := HPF.out
      simp only [Value.slice.injEq, true_and] at e1
      obtain ⟨rfl, rfl⟩ := e1
      obtain ⟨g, rfl, hcells⟩ := k1 (by omega)
      obtain ⟨d1, d2, d3⟩ := hcells k hp
      obtain ⟨p, hpn, hp1, hm1, hm2⟩ := HT.out.ofp P[k] (List.getElem_mem hp)
      have hap := HT.out.apart P[k] (List.getElem_mem hp)
      have hnext : manyS (P.take (k + 1)) = manyS (P.take k) + P[k].2.2 := by rw [List.take_succ_eq_append_getElem hp, manyS_snoc]
      have hx' := hx.out
      rw [List.drop_eq_getElem_cons hp, addS, hp1, Int.toNat_natCast] at hx'
      rw [hp1] at d1 hap
      have hglt : g < w5.heap.size := World.block_lt_of_cell? w5 _ d1
      have y1 := (hbw.cell (World.block_lt_of_cell? w5 _ d1)).trans d1
      have y3 := (hbw.cell (World.block_lt_of_cell? w5 _ d3)).trans d3
      have hplG : p < G.length := by have := hgl.out; have := HLN.out; omega
      have hplb : p < b.length := by have := HLN.out; omega
      have hGp := hgb.out G[p] (List.getElem_mem hplG)
      have e5 : G.getD p 0 = G[p] := by rw [List.getD_eq_getElem?_getD, List.getElem?_eq_getElem hplG]; rfl
      rw [e5] at hx'
      obtain ⟨gg, capg', e3, hg1, hg2⟩ := HG.out.form (by omega)
      simp only [Value.slice.injEq] at e3
      obtain ⟨rfl, e4, e6⟩ := e3
      clear e4 e6 e5
      have c3 := HG.out.at2 hgl.out p _ (List.getElem?_eq_getElem hplG)
      have f3 := HG.out.soft2 hgl.out p
      have HG2 := Lib.hid (HG.out.set2 hgl.out p (G[p] + P[k].2.2))
      have HGB : Hid (∀ x ∈ G.set p (G[p] + P[k].2.2), 0 ≤ x ∧ x ≤ 1023 * ((k + 1 : Nat) + 1)) := Lib.hid (fun x hx => by
        rcases List.mem_or_eq_of_mem_set hx with h1 | rfl
        · have := hgb.out x h1
          omega
        · omega)
      have HX := Lib.hid hx'
      have HNEXT := Lib.hid hnext
      have HAPA := Lib.hid hap
      have hne : g ≠ gg := by omega
      have Y1 := Lib.hid d1
      have hgl1 : g < wr.heap.size := World.block_lt_of_cell? wr _ y1
      generalize G[p] = gp at c3 hGp HG2 HGB HX
      generalize P[k].2.2 = D at y3 d3 hm1 hm2 HG2 HGB HX HNEXT
      have Y3 := Lib.hid d3
      have z1 : decide ((p : Int) < 0) = false := by simp
      have z2 : decide ((n : Int) ≤ (p : Int)) = false := by simp; omega
      clear hcells d1 d2 d3 hx hx' hnext hap hp1 k1
      go_wp2
      go_region
      obtain ⟨W7, hW7⟩ : ∃ W7, W7 = (wr.setCell ⟨gg, p, none⟩ (.int .i64 (gp + D))).drew := ⟨_, rfl⟩
      rw [← hW7]
      have HB7 : Hid (Below w5.heap.size w5 W7) := Lib.hid (by rw [hW7]; exact (hbw.setCell (by exact hg1) _).drew)
      have HG7 : Hid (Row W7 w5.heap.size (.slice (some ⟨gg, 0, none⟩) b.length capg) (G.set p (gp + D))) := Lib.hid (by rw [hW7]; exact HG2.out)
      have q1 : W7.cell? ⟨g, k * 3, none⟩ = some (.int .i64 (p : Int)) := (HB7.out.cell (by exact hglt)).trans Y1.out
      have q3 : W7.cell? ⟨g, k * 3 + 2, none⟩ = some (.int .i64 D) := (HB7.out.cell (by exact hglt)).trans Y3.out
      have hl7 : g < W7.heap.size := World.block_lt_of_cell? W7 _ q1
      clear hW7 y1 y3 c3 f3 HG HG2 hgl1
      go_wp2
      go_loopw [15] (fun v15 ws => ∃ i q : Nat, i ≤ Q.length ∧ v15 = .int .i64 (i : Int) ∧ ws = W7.drewN q) (fun v15 _ => Q.length - (intOf v15).toNat)
      case atStart => exact ⟨0, 0, by omega, rfl, rfl⟩
      case round =>
        obtain ⟨i, q, hi, rfl, rfl⟩ := hrel
        by_cases hiq : i < Q.length
        · obtain ⟨adq', capq', e1, k1⟩ := HQ.out
          simp only [Value.slice.injEq, true_and] at e1
          obtain ⟨rfl, rfl⟩ := e1
          obtain ⟨gq, rfl, hcells⟩ := k1 (by omega)
          obtain ⟨d1, _, _⟩ := hcells i hiq
          obtain ⟨p', _, hp1, _, _⟩ := HT.out.ofq Q[i] (List.getElem_mem hiq)
          have hne2 := HAPA.out Q[i] (List.getElem_mem hiq)
          rw [hp1] at d1 hne2
          have q4 := (HB7.out.cell (World.block_lt_of_cell? w5 _ d1)).trans d1
          have hl8 : gq < W7.heap.size := World.block_lt_of_cell? W7 _ q4
          have z3 : ((p' : Int) == (p : Int)) = false := by rw [beq_eq_false_iff_ne]; exact fun e => hne2 e.symm
          clear hcells d1 hne2 k1 hp1
          go_wp2
          go_quiet (fail)
          go_wp2
          go_roundw
          case rel => exact ⟨i + 1, q + nq, hiq, by go_num, rfl⟩
          case measure => simp [intOf]; omega
        · go_wp2
          go_roundw
          case rel => exact ⟨k + 1, G.set p (gp + D), s + D, hp, by go_num, by go_num, Lib.hid (by rw [HNEXT.out, ← hs.out]), by omega, HX, Lib.hid (by rw [List.length_set]; exact hgl.out), HGB, HG7, below_drewN HB7.out q⟩
          case measure => simp [intOf]; omega
    · have hkk : k = P.length := by omega
      have hx' := hx.out
      rw [List.drop_eq_nil_of_le (by omega), addS] at hx'
      have HGJ : Hid (Row wr w5.heap.size (.slice adg b.length capg) J) := Lib.hid (by rw [← hx']; exact HG.out)
      have hs2 : s = manyS P := by rw [hs.out, hkk, List.take_length]
      have hs8 : 0 ≤ s ∧ s ≤ 8184 := by omega
      have HS2 := Lib.hid hs2
      have HA7 := Lib.hid (HA.out.below hbw)
      have HB7 := Lib.hid (HB.out.below hbw)
      have HQ7 := Lib.hid (HQ.out.below hbw)
      have HW7 : Hid (Below w.heap.size w wr) := Lib.hid (Below.next HB5.out hbw)
      clear hx hx' hs hs2 hkk hsb HG hgl hgb hbw HA HB HQ HP HPF HB5
      go_wp2
      go_loopw [13, 16] (fun v13 v16 ws => ∃ (i : Nat) (u : Int), i ≤ Q.length ∧ v16 = .int .i64 (i : Int) ∧ v13 = .int .i64 u ∧ Hid (u = s - manyS (Q.take i)) ∧ (-1023 * i ≤ u ∧ u ≤ 8184) ∧ ws = wr) (fun _ v16 _ => Q.length - (intOf v16).toNat)
      case atStart => exact ⟨0, s, by omega, rfl, rfl, Lib.hid (by simp [manyS]), by omega, rfl⟩
      case round =>
        obtain ⟨i, u, hi, rfl, rfl, hu, hub, rfl⟩ := hrel
        by_cases hiq : i < Q.length
        · obtain ⟨adq', capq', e1, k1⟩ := HQ7.out
          simp only [Value.slice.injEq, true_and] at e1
          obtain ⟨rfl, rfl⟩ := e1
          obtain ⟨gq, rfl, hcells⟩ := k1 (by omega)
          obtain ⟨_, _, d3⟩ := hcells i hiq
          obtain ⟨_, _, _, hm1, hm2⟩ := HT.out.ofq Q[i] (List.getElem_mem hiq)
          have hnext : manyS (Q.take (i + 1)) = manyS (Q.take i) + Q[i].2.2 := by rw [List.take_succ_eq_append_getElem hiq, manyS_snoc]
          generalize Q[i].2.2 = D at d3 hm1 hm2 hnext
          have HNEXT := Lib.hid hnext
          have hl8 := World.block_lt_of_cell? _ _ d3
          simp only at hl8
          clear hcells k1 hnext
          go_wp2
          go_roundw
          case rel => exact ⟨i + 1, u - D, hiq, by go_num, by go_num, Lib.hid (by rw [HNEXT.out, hu.out]; omega), by omega, by trivial⟩
          case measure => simp [intOf]; omega
        · have hii : i = Q.length := by omega
          have hu2 : u = a.sum - b.sum := by rw [hu.out, hii, List.take_length, HS2.out]; exact HT.out.many
          obtain ⟨e5, j0, j1⟩ := HT.out.sa
          obtain ⟨e6, k0, k1⟩ := HT.out.sb
          have HSA := Lib.hid e5
          have HSB := Lib.hid e6
          have HNO := Lib.hid HT.out.none
          generalize a.sum = sa at hu2 HSA j0 j1
          generalize b.sum = sb at hu2 HSB k0 k1
          subst hu2
          clear e5 e6 hu hub hii HS2 hs8 HQ7
          go_wp2_with fail
          refine (sum_c a _ _ HA7.out (by have := HLN.out; omega)).mono ?_
          rw [HSA.out]
          rintro e w8 ⟨rfl, rfl⟩
          go_wp2_with fail
          refine (sum_c b _ _ HB7.out (by have := HLN.out; omega)).mono ?_
          rw [HSB.out]
          rintro e w8 ⟨rfl, rfl⟩
          go_wp2_with fail
          refine (join_c [a, b] _ _ (vl_new2 _ _ rfl _ _ _ _ HA7.out HB7.out) (by simp) (by simp [HLN.out]; omega)).mono ?_
          rw [HT.out.j]
          rintro e w8 ⟨v8, rfl, r8, c8⟩
          have b8 := Below.next (alloc_below _ _) c8
          have H8 := Lib.hid r8.nl
          clear r8 c8
          go_wp2_with fail
          refine (sameT_c J _ v8 w8 (HGJ.out.nl.below b8) H8.out (by have := HLN.out; omega)).mono ?_
          rintro e w9 ⟨rfl, c9⟩
          have b9 := Below.next b8 c9
          clear c9 b8 H8
          have hno := HNO.out
          go_wp2_with fail
          refine (below_c a b _ _ w9 (HA7.out.below b9) (HB7.out.below b9) (by have := HLN.out; omega)).mono ?_
          generalize leB a b = X at hno ⊢
          rintro e w10 ⟨rfl, c10⟩
          have b10 := Below.next b9 c10
          have hXX : (X == X) = true := by simp
          clear c10 b9 HNO
          go_wp2_with fail
          refine (awake_c w10).mono ?_
          rintro e w11 ⟨rfl, c11⟩
          go_wp2
          go_ret
          exact ⟨rfl, HW7.out.trans ((Below.next b10 c11).mono HW7.out.size)⟩

end Go.Proofs.Ytmdojflpnikhnaa
