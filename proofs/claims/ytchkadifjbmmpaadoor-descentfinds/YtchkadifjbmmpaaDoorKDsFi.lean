/-
  PROVED: DescentFinds answers true, whatever two lists of records and number of origins it is given. Conditions: the library's two listed tables hold what the program's text, and the pinned table, lay (the card ties them).
-/
import Derived.Test.YtchkadifjbmmpaaDoorPkDs
import Derived.Test.YtchkadifjbmmpaaDoorWDigAwake
namespace Go.Proofs.YtchkadifjbmmpaaDoor
open Go.RowKit Go.Lib Go.Maps
set_option maxRecDepth 100000
set_option linter.unusedSimpArgs false

set_option maxHeartbeats 64000000 in
theorem finds_law (xs ys : List R.Rc) (v1 v2 : Value) (oi : Int) (w : World) (h1 : R.Rl w v1 xs) (h2 : R.Rl w v2 ys) (hs1 : ∀ x ∈ xs, x.t.size ≤ 9223372036854775807 ∧ okKy (kyR x)) (hs2 : ∀ x ∈ ys, x.t.size ≤ 9223372036854775807 ∧ okKy (kyR x)) (hl1 : xs.length ≤ maxLen) (hl2 : ys.length ≤ maxLen) (hT : R.Tabs w) :
    Calls Tryd.prog 7 #[v1, v2, .int .i64 oi] w fun e w' => e = .returned (.bool true) ∧ Below w.heap.size w w' := by
  have mixed : Tryd.prog.follows .mixedOrders = true := by kernel_rfl
  have HG1 := Lib.hid (fun W (hb : Below w.heap.size w W) => R.great_c xs v1 25 W (h1.below hb) (by omega) hl1)
  have HG2 := Lib.hid (fun W (hb : Below w.heap.size w W) => R.great_c ys v2 25 W (h2.below hb) (by omega) hl2)
  have HAW := Lib.hid (fun W (hb : Below w.heap.size w W) => awake13_c W (hT.below hb))
  have HT := Lib.hid hT
  cases hg1 : R.greatB xs 25 with
  | true =>
    rw [hg1] at HG1
    clear hg1 HG2 h1 h2 hs1 hs2 hl1 hl2 hT
    go_enter Tryd.func7, Tryd.ntmps7
    go_wp2_with fail
    refine (HG1.out _ (Below.refl _ _)).mono ?_
    rintro e w1 ⟨rfl, b1⟩
    have B1 := Lib.hid (bn (Below.refl _ _) b1)
    clear b1
    go_wp2_with fail
    refine (HAW.out w1 B1.out).mono ?_
    rintro e w2 ⟨rfl, b2⟩
    go_wp2
    go_ret
    exact ⟨rfl, id (bn B1.out b2)⟩
  | false =>
    rw [hg1] at HG1
    cases hg2 : R.greatB ys 25 with
    | true =>
      rw [hg2] at HG2
      clear hg1 hg2 h1 h2 hs1 hs2 hl1 hl2 hT
      go_enter Tryd.func7, Tryd.ntmps7
      go_wp2_with fail
      refine (HG1.out _ (Below.refl _ _)).mono ?_
      rintro e w1 ⟨rfl, b1⟩
      have B1 := Lib.hid (bn (Below.refl _ _) b1)
      clear b1
      go_wp2_with fail
      refine (HG2.out w1 B1.out).mono ?_
      rintro e w2 ⟨rfl, b2⟩
      have B2 := Lib.hid (bn B1.out b2)
      clear b2
      go_wp2_with fail
      refine (HAW.out w2 B2.out).mono ?_
      rintro e w3 ⟨rfl, b3⟩
      go_wp2
      go_ret
      exact ⟨rfl, id (bn B2.out b3)⟩
    | false =>
      rw [hg2] at HG2
      have hx : xs.length ≤ 25 := (R.greatB_no hg1).1
      have hy : ys.length ≤ 25 := (R.greatB_no hg2).1
      have HB1 := Lib.hid (fun W (hb : Below w.heap.size w W) => both_c xs v1 W (h1.below hb) hs1 (by omega) (hT.below hb))
      have HB2 := Lib.hid (fun W (hb : Below w.heap.size w W) => both_c ys v2 W (h2.below hb) hs2 (by omega) (hT.below hb))
      have HF1 : Hid (Once (refPuts [] xs)) := Lib.hid (puts_facts xs [] ⟨by simp, by simp⟩)
      have HF2 : Hid (Once (refPuts [] ys)) := Lib.hid (puts_facts ys [] ⟨by simp, by simp⟩)
      have hL : (refPuts [] xs).length ≤ 25 := by have := (refPuts_len xs []).2; simp only [List.length_nil] at this; omega
      have hM : (refPuts [] ys).length ≤ 25 := by have := (refPuts_len ys []).2; simp only [List.length_nil] at this; omega
      generalize refPuts [] xs = L at *
      generalize refPuts [] ys = M at *
      clear hg1 hg2 h1 h2 hs1 hs2 hl1 hl2 hT hx hy
      go_enter Tryd.func7, Tryd.ntmps7
      go_wp2_with fail
      refine (HG1.out _ (Below.refl _ _)).mono ?_
      rintro e w1 ⟨rfl, b1⟩
      have B1 := Lib.hid (bn (Below.refl _ _) b1)
      clear b1 HG1
      go_wp2_with fail
      refine (HG2.out w1 B1.out).mono ?_
      rintro e w2 ⟨rfl, b2⟩
      have B2 := Lib.hid (bn B1.out b2)
      clear b2 HG2 B1
      go_wp2_with fail
      refine (HB1.out w2 B2.out).mono ?_
      rintro e w3 ⟨p, q, ot, rfl, a3⟩
      have A3 := Lib.hid a3
      have B3 := Lib.hid (bn B2.out a3.b)
      clear a3 HB1 B2
      go_wp2_with fail
      refine (HB2.out w3 B3.out).mono ?_
      rintro e w4 ⟨u, y, ou, rfl, a4⟩
      have M4 := Lib.hid a4
      have L4 := Lib.hid (A3.out.below a4.b)
      have B4 := Lib.hid (bn B3.out a4.b)
      clear a4 HB2 B3 A3
      go_wp2_with fail
      refine (D.low_c oi 9 w4 (by omega) (by omega)).mono ?_
      rintro e w5 ⟨n, rfl, hn0, hn9, rfl⟩
      obtain ⟨w5, hw5⟩ : ∃ w5, w5 = w4 := ⟨_, rfl⟩
      subst hw5
      obtain ⟨n, rfl⟩ := Int.eq_ofNat_of_zero_le hn0
      have hn8 : n ≤ 8 := by omega
      clear hn0 hn9
      have CF1 := Lib.hid (find_all p u (sx L) (sx M) ot ou n w5 L4.out.t M4.out.t hn8)
      have CC1 := Lib.hid (fun W (hb : Below w5.heap.size w5 W) => clash_c p u (sx L) (sx M) ot ou n W (L4.out.t.below hb) (M4.out.t.below hb) (kept_sx HF1.out) (kept_sx HF2.out) hn8 (HT.out.below (bn B4.out hb)))
      have HWA : Hid (clashB (sx L) (sx M) n = false → wantK (p2 L n) M (wantK (p1 L M n) L []) = findK (difB (sx L) (sx M)) n) := Lib.hid (fun hc => want_all HF1.out HF2.out hn8 hc)
      have HLO := Lib.hid (findN_low (difB (sx L) (sx M)) n)
      have HFW := Lib.hid (find_few (sx L) (sx M) n)
      have hkl := findK_len (difB (sx L) (sx M)) hn8
      generalize findK (difB (sx L) (sx M)) n = ks at *
      generalize findN (difB (sx L) (sx M)) n = kn at *
      have HFR : Hid (∀ i (hi : i < L.length) k, FindS M (kyR L[i]) k → (k < 0 ∧ recB (sx L) (sx M) (kyR L[i]) = false) ∨ ∃ j, ∃ h : j < M.length, k = (j : Int) ∧ R.sameR M[j] L[i] = recB (sx L) (sx M) (kyR L[i])) := Lib.hid (fun i hi k hf => found_rec HF1.out HF2.out (List.getElem_mem hi) hf)
      obtain ⟨va, vc, vb, vr⟩ := rt_form L4.out.r
      obtain ⟨wa, wc, wb, wr0⟩ := rt_form M4.out.r
      have VB := Lib.hid vb
      have VR := Lib.hid vr
      have WB := Lib.hid wb
      have WR := Lib.hid wr0
      have CFW := Lib.hid (fun o s W (hb : Below w5.heap.size w5 W) => find_c y M wa wc o s W (wb.below hb) (wr0.below hb) (by unfold maxLen; omega))
      have CFV := Lib.hid (fun o s W (hb : Below w5.heap.size w5 W) => find_c q L va vc o s W (vb.below hb) (vr.below hb) (by unfold maxLen; omega))
      clear vb vr wb wr0 L4 M4
      go_wp2_with fail
      refine CF1.out.mono ?_
      rintro e w6 ⟨a6, c6, rfl, k6, b6⟩
      have K6 := Lib.hid (P.KRow.rd k6)
      have B6 := Lib.hid b6
      clear k6 b6 CF1
      go_wp2_with fail
      refine (CC1.out w6 B6.out).mono ?_
      cases hc : clashB (sx L) (sx M) n with
      | true =>
        rintro e w7 ⟨rfl, b7⟩
        have B7 := Lib.hid (bn B4.out (bn B6.out b7))
        clear b7
        go_wp2_with fail
        refine (HAW.out w7 B7.out).mono ?_
        rintro e w8 ⟨rfl, b8⟩
        go_wp2_with fail
        go_ret
        exact ⟨rfl, bn B7.out b8⟩
      | false =>
        rintro e w7 ⟨rfl, b7⟩
        have HWA := Lib.hid (HWA.out hc)
        have B7 := Lib.hid (bn B6.out b7)
        have K7 := Lib.hid (K6.out.below b7)
        have Z7 := Lib.hid (Below.refl w7.heap.size w7)
        have B47 := Lib.hid (bn B4.out B7.out)
        have VB := Lib.hid (VB.out.below B7.out)
        have VR := Lib.hid (VR.out.below B7.out)
        have WB := Lib.hid (WB.out.below B7.out)
        have WR := Lib.hid (WR.out.below B7.out)
        have CFW := Lib.hid (fun o s W (hb : Below w7.heap.size w7 W) => CFW.out o s W (bn B7.out hb))
        have CFV := Lib.hid (fun o s W (hb : Below w7.heap.size w7 W) => CFV.out o s W (bn B7.out hb))
        have Z0 : Hid (P.KRow w7 w7.heap.size (.slice none 0 0) (wantK (p1 L M n) (L.take 0) [])) := Lib.hid (by rw [List.take_zero]; exact P.KRow.nil _ _)
        clear hc b7 CC1 B6 K6 B7
        have VB7 := VB.out
        have q0 := VB7.cell 0
        simp only [List.getElem?_toArray, List.getElem?_cons_zero] at q0
        have hq0 := World.block_lt_of_cell? _ _ q0
        clear VB7
        go_wp2_with fail
        clear q0 hq0
        go_loopw [13, 14] (fun v13 v14 wr => ∃ (i : Nat), i ≤ L.length ∧ v14 = .int .i64 (i : Int) ∧ Hid (P.KRow wr w7.heap.size v13 (wantK (p1 L M n) (L.take i) [])) ∧ Hid (Below w7.heap.size w7 wr)) (fun _ v14 _ => L.length - (RowKit.intOf v14).toNat)
        case atStart => exact ⟨0, by omega, rfl, Z0, Z7⟩
        case round =>
          obtain ⟨i, hi, rfl, GI, BI⟩ := hrel
          clear Z0
          have VBI := VB.out.below BI.out
          have q0 := VBI.cell 0
          simp only [List.getElem?_toArray, List.getElem?_cons_zero] at q0
          have hq0 := World.block_lt_of_cell? _ _ q0
          clear VBI
          by_cases hp : i < L.length
          · have HP := Lib.hid hp
            obtain ⟨_, _, e, hcap, hrc⟩ := VR.out.form
            simp only [Value.slice.injEq, true_and] at e
            obtain ⟨rfl, rfl⟩ := e
            obtain ⟨g, o, rfl, hrd⟩ := hrc (by omega)
            have HX := Lib.hid (fun W (hW : Below w7.heap.size w7 W) => (R.Recs.below hrd hW) i hp)
            have HFI := Lib.hid (HFR.out i hp)
            have HN := Lib.hid (wantK_next (p1 L M n) L [] i hp)
            have hwl : (wantK (p1 L M n) (L.take i) []).length ≤ 100 := by
              have := wantK_len (p1 L M n) (L.take i) []
              rw [List.length_take] at this
              simp only [List.length_nil] at this
              omega
            have HPD : Hid (p1 L M n L[i] = (decide (L[i].o < (n : Int)) && !recB (sx L) (sx M) (kyR L[i]))) := Lib.hid rfl
            have hlt : (i : Int) < (L.length : Int) := by omega
            clear hrc hrd
            generalize L[i] = x at *
            obtain ⟨xo, xs, xw, xc, xt⟩ := x
            obtain ⟨x0, x1, x2, x3, x4⟩ := HX.out wr BI.out
            have hgl := World.block_lt_of_cell? _ _ x0
            try simp only at x0 x1 x2 x3 x4
            go_wp2_with fail
            refine (CFW.out _ _ wr BI.out).mono ?_
            rintro e w8 ⟨k, rfl, hf, b8⟩
            have hfr := HFI.out k hf
            have B8 := Lib.hid (bn BI.out b8)
            have G8 := Lib.hid (GI.out.below b8)
            clear b8 hf HFI x0 x1 x2 x3 x4 hgl q0 hq0
            have hb8 := VB.out.below B8.out
            have q0 := hb8.cell 0
            simp only [List.getElem?_toArray, List.getElem?_cons_zero] at q0
            have hq0 := World.block_lt_of_cell? _ _ q0
            clear hb8
            obtain ⟨x0, x1, x2, x3, x4⟩ := HX.out w8 B8.out
            have hgl := World.block_lt_of_cell? _ _ x0
            try simp only at x0 x1 x2 x3 x4
            have HNOT : Hid (p1 L M n ⟨xo, xs, xw, xc, xt⟩ = false → ∀ W v, P.KRow W w7.heap.size v (wantK (p1 L M n) (L.take i) []) → P.KRow W w7.heap.size v (wantK (p1 L M n) (L.take (i + 1)) [])) := Lib.hid (fun h W v hk => by rw [HN.out, h, if_neg (by decide)]; exact hk)
            have HYES : Hid (p1 L M n ⟨xo, xs, xw, xc, xt⟩ = true → ∀ W v, P.KRow W w7.heap.size v (P.into (wantK (p1 L M n) (L.take i) []) (xo, xs)) → P.KRow W w7.heap.size v (wantK (p1 L M n) (L.take (i + 1)) [])) := Lib.hid (fun h W v hk => by rw [HN.out, h, if_pos rfl]; exact hk)
            clear HN
            by_cases ho : xo < (n : Int)
            · have hod : decide (xo < (n : Int)) = true := by simpa using ho
              rcases hfr with ⟨hk0, hr⟩ | ⟨j, hj, rfl, hr⟩
              · have hkd : decide (k < 0) = true := by simpa using hk0
                have hP : p1 L M n ⟨xo, xs, xw, xc, xt⟩ = true := by rw [HPD.out, hr]; simpa using ho
                have HYES := Lib.hid (HYES.out hP)
                clear HNOT hP hr HPD ho hk0
                go_wp2_with fail
                go_quiet (fail)
                go_wp2_with fail
                refine ((fun N => P.into_c _ xo xs _ _ w7.heap.size (G8.out.below (below_drewN (Below.refl _ _) N)) (below_drewN B8.out N).size (by omega)) _).mono ?_
                rintro e w9 ⟨v9, rfl, k9, b9⟩
                have K9 := Lib.hid (HYES.out _ _ k9)
                have B9 := Lib.hid (bn (below_drewN B8.out _) b9)
                clear k9 b9
                go_wp2_with fail
                go_roundw
                case rel => exact ⟨i + 1, HP.out, by go_num, K9, B9⟩
                case measure => have := HP.out; simp [RowKit.intOf]; omega
              · have hkd : decide ((j : Int) < 0) = false := by simp
                have hjl : (j : Int) < (M.length : Int) := by omega
                obtain ⟨_, _, e2, _, hrc2⟩ := WR.out.form
                simp only [Value.slice.injEq, true_and] at e2
                obtain ⟨rfl, rfl⟩ := e2
                obtain ⟨g2, o2, rfl, hrd2⟩ := hrc2 (by omega)
                have HZ := Lib.hid (fun W (hW : Below w7.heap.size w7 W) => (R.Recs.below hrd2 hW) j hj)
                clear hrc2 hrd2
                generalize M[j] = z at *
                obtain ⟨zo, zs, zw, zc, zt⟩ := z
                have hwb := WB.out.below B8.out
                have y0 := hwb.cell 0
                simp only [List.getElem?_toArray, List.getElem?_cons_zero] at y0
                obtain ⟨z0, z1, z2, z3, z4⟩ := HZ.out w8 B8.out
                try simp only at z0 z1 z2 z3 z4
                have hy0 := World.block_lt_of_cell? _ _ y0
                have hg2 := World.block_lt_of_cell? _ _ z0
                have HS : Hid (∀ W, Below w8.heap.size w8 W → W.cell? ⟨q, 0, none⟩ = some (.slice (some ⟨g, o, none⟩) L.length vc) ∧ W.cell? ⟨y, 0, none⟩ = some (.slice (some ⟨g2, o2, none⟩) M.length wc) ∧ (W.cell? ⟨g, o + i * 5, none⟩ = some (.int .i64 xo) ∧ W.cell? ⟨g, o + i * 5 + 1, none⟩ = some (.int .i64 xs) ∧ W.cell? ⟨g, o + i * 5 + 2, none⟩ = some (.int .i64 xw) ∧ W.cell? ⟨g, o + i * 5 + 3, none⟩ = some (.int .i64 xc) ∧ W.cell? ⟨g, o + i * 5 + 4, none⟩ = some (.string xt)) ∧ W.cell? ⟨g2, o2 + j * 5, none⟩ = some (.int .i64 zo) ∧ W.cell? ⟨g2, o2 + j * 5 + 1, none⟩ = some (.int .i64 zs) ∧ W.cell? ⟨g2, o2 + j * 5 + 2, none⟩ = some (.int .i64 zw) ∧ W.cell? ⟨g2, o2 + j * 5 + 3, none⟩ = some (.int .i64 zc) ∧ W.cell? ⟨g2, o2 + j * 5 + 4, none⟩ = some (.string zt)) := Lib.hid (fun W hW => ⟨(hW.cell hq0).trans q0, (hW.cell hy0).trans y0, HX.out W (bn B8.out hW), HZ.out W (bn B8.out hW)⟩)
                have HSM := Lib.hid (fun W => R.refsame_c ⟨zo, zs, zw, zc, zt⟩ ⟨xo, xs, xw, xc, xt⟩ W)
                rw [hr] at HSM
                have HPV : Hid (p1 L M n ⟨xo, xs, xw, xc, xt⟩ = !recB (sx L) (sx M) (kyR ⟨xo, xs, xw, xc, xt⟩)) := Lib.hid (by rw [HPD.out, hod]; rfl)
                generalize recB (sx L) (sx M) (kyR ⟨xo, xs, xw, xc, xt⟩) = rv at *
                clear hr HPD ho hwb HZ
                cases rv with
                | true =>
                  have HNOT := Lib.hid (HNOT.out HPV.out)
                  clear HYES HPV
                  go_wp2_with fail
                  go_region_held3 (fun W => W.cell? ⟨q, 0, none⟩ = some (.slice (some ⟨g, o, none⟩) L.length vc) ∧ W.cell? ⟨y, 0, none⟩ = some (.slice (some ⟨g2, o2, none⟩) M.length wc) ∧ (W.cell? ⟨g, o + i * 5, none⟩ = some (.int .i64 xo) ∧ W.cell? ⟨g, o + i * 5 + 1, none⟩ = some (.int .i64 xs) ∧ W.cell? ⟨g, o + i * 5 + 2, none⟩ = some (.int .i64 xw) ∧ W.cell? ⟨g, o + i * 5 + 3, none⟩ = some (.int .i64 xc) ∧ W.cell? ⟨g, o + i * 5 + 4, none⟩ = some (.string xt)) ∧ W.cell? ⟨g2, o2 + j * 5, none⟩ = some (.int .i64 zo) ∧ W.cell? ⟨g2, o2 + j * 5 + 1, none⟩ = some (.int .i64 zs) ∧ W.cell? ⟨g2, o2 + j * 5 + 2, none⟩ = some (.int .i64 zw) ∧ W.cell? ⟨g2, o2 + j * 5 + 3, none⟩ = some (.int .i64 zc) ∧ W.cell? ⟨g2, o2 + j * 5 + 4, none⟩ = some (.string zt)) (exact HS.out _ (by first | assumption | exact Below.refl _ _ | exact (Below.refl _ _).drew))
                    (first
                    | (go_at_call 38; refine (HSM.out _).mono ?_; rintro e w9 ⟨rfl, b9⟩; have b9' : Below w8.heap.size w8 w9 := bn (by first | assumption | exact (Below.refl _ _).drew | exact Below.refl _ _) b9; clear b9)
                    | fail)
                  go_wp2_with fail
                  go_roundw
                  case rel => exact ⟨i + 1, HP.out, by go_num, Lib.hid (HNOT.out _ _ (G8.out.below b9')), Lib.hid (bn B8.out b9')⟩
                  case measure => have := HP.out; simp [RowKit.intOf]; omega
                | false =>
                  have HYES := Lib.hid (HYES.out HPV.out)
                  clear HNOT HPV
                  go_wp2_with fail
                  go_region_held3 (fun W => W.cell? ⟨q, 0, none⟩ = some (.slice (some ⟨g, o, none⟩) L.length vc) ∧ W.cell? ⟨y, 0, none⟩ = some (.slice (some ⟨g2, o2, none⟩) M.length wc) ∧ (W.cell? ⟨g, o + i * 5, none⟩ = some (.int .i64 xo) ∧ W.cell? ⟨g, o + i * 5 + 1, none⟩ = some (.int .i64 xs) ∧ W.cell? ⟨g, o + i * 5 + 2, none⟩ = some (.int .i64 xw) ∧ W.cell? ⟨g, o + i * 5 + 3, none⟩ = some (.int .i64 xc) ∧ W.cell? ⟨g, o + i * 5 + 4, none⟩ = some (.string xt)) ∧ W.cell? ⟨g2, o2 + j * 5, none⟩ = some (.int .i64 zo) ∧ W.cell? ⟨g2, o2 + j * 5 + 1, none⟩ = some (.int .i64 zs) ∧ W.cell? ⟨g2, o2 + j * 5 + 2, none⟩ = some (.int .i64 zw) ∧ W.cell? ⟨g2, o2 + j * 5 + 3, none⟩ = some (.int .i64 zc) ∧ W.cell? ⟨g2, o2 + j * 5 + 4, none⟩ = some (.string zt)) (exact HS.out _ (by first | assumption | exact Below.refl _ _ | exact (Below.refl _ _).drew))
                    (first
                    | (go_at_call 38; refine (HSM.out _).mono ?_; rintro e w9 ⟨rfl, b9⟩; have b9' : Below w8.heap.size w8 w9 := bn (by first | assumption | exact (Below.refl _ _).drew | exact Below.refl _ _) b9; clear b9)
                    | fail)
                  obtain ⟨q1, _, ⟨u0, u1, _, _, _⟩, _⟩ := HS.out w9 b9'
                  have hqq := World.block_lt_of_cell? _ _ q1
                  have huu := World.block_lt_of_cell? _ _ u0
                  have G9 := Lib.hid (G8.out.below b9')
                  have B9x := Lib.hid (bn B8.out b9')
                  clear b9' q0 hq0 y0 hy0 x0 x1 x2 x3 x4 z0 z1 z2 z3 z4 hgl hg2 HS
                  go_wp2_with fail
                  refine (P.into_c _ xo xs _ _ w7.heap.size G9.out B9x.out.size (by omega)).mono ?_
                  rintro e w10 ⟨v10, rfl, k10, b10⟩
                  have K10 := Lib.hid (HYES.out _ _ k10)
                  have B10 := Lib.hid (bn B9x.out b10)
                  clear k10 b10
                  go_wp2_with fail
                  go_roundw
                  case rel => exact ⟨i + 1, HP.out, by go_num, K10, B10⟩
                  case measure => have := HP.out; simp [RowKit.intOf]; omega
            · have hod : decide (xo < (n : Int)) = false := by simpa using ho
              have hP : p1 L M n ⟨xo, xs, xw, xc, xt⟩ = false := by rw [HPD.out]; simp [ho]
              have HNOT := Lib.hid (HNOT.out hP)
              clear HYES hP HPD ho hfr
              go_wp2_with fail
              go_quiet (fail)
              go_wp2_with fail
              go_roundw
              case rel => exact ⟨i + 1, HP.out, by go_num, Lib.hid (HNOT.out _ _ (G8.out.below (below_drewN (Below.refl _ _) _))), Lib.hid (below_drewN B8.out _)⟩
              case measure => have := HP.out; simp [RowKit.intOf]; omega
          · obtain rfl : i = L.length := by omega
            have G0 : Hid (P.KRow wr w7.heap.size _ (wantK (p2 L n) (M.take 0) (wantK (p1 L M n) L []))) := Lib.hid (by have := GI.out; rw [List.take_length] at this; exact this)
            have hw1 : (wantK (p1 L M n) L []).length ≤ 25 := by
              have := wantK_len (p1 L M n) L []
              simp only [List.length_nil] at this
              omega
            have hwb := WB.out.below BI.out
            have y0 := hwb.cell 0
            simp only [List.getElem?_toArray, List.getElem?_cons_zero] at y0
            have hy0 := World.block_lt_of_cell? _ _ y0
            clear hwb hi HFR GI
            generalize wantK (p1 L M n) L [] = W1 at *
            go_wp2_with fail
            clear y0 hy0 q0 hq0
            go_loopw [13, 16] (fun v13 v16 wz => ∃ (j : Nat), j ≤ M.length ∧ v16 = .int .i64 (j : Int) ∧ Hid (P.KRow wz w7.heap.size v13 (wantK (p2 L n) (M.take j) W1)) ∧ Hid (Below w7.heap.size w7 wz)) (fun _ v16 _ => M.length - (RowKit.intOf v16).toNat)
            case atStart => exact ⟨0, by omega, rfl, G0, BI⟩
            case round =>
              obtain ⟨j, hj, rfl, GJ, BJ⟩ := hrel
              clear G0 BI
              have hwb := WB.out.below BJ.out
              have y0 := hwb.cell 0
              simp only [List.getElem?_toArray, List.getElem?_cons_zero] at y0
              have hy0 := World.block_lt_of_cell? _ _ y0
              clear hwb
              by_cases hp : j < M.length
              · have HP := Lib.hid hp
                obtain ⟨_, _, e, hcap, hrc⟩ := WR.out.form
                simp only [Value.slice.injEq, true_and] at e
                obtain ⟨rfl, rfl⟩ := e
                obtain ⟨g, o, rfl, hrd⟩ := hrc (by omega)
                have HX := Lib.hid (fun W (hW : Below w7.heap.size w7 W) => (R.Recs.below hrd hW) j hp)
                have HN := Lib.hid (wantK_next (p2 L n) M W1 j hp)
                have hwl : (wantK (p2 L n) (M.take j) W1).length ≤ 100 := by
                  have := wantK_len (p2 L n) (M.take j) W1
                  rw [List.length_take] at this
                  omega
                have HPD : Hid (p2 L n M[j] = (decide (M[j].o < (n : Int)) && decide (kyR M[j] ∉ L.map kyR))) := Lib.hid rfl
                have hlt : (j : Int) < (M.length : Int) := by omega
                clear hrc hrd
                generalize M[j] = x at *
                obtain ⟨xo, xs, xw, xc, xt⟩ := x
                obtain ⟨x0, x1, x2, x3, x4⟩ := HX.out _ BJ.out
                have hgl := World.block_lt_of_cell? _ _ x0
                try simp only at x0 x1 x2 x3 x4
                clear x2 x3 x4
                have HNOT : Hid (p2 L n ⟨xo, xs, xw, xc, xt⟩ = false → ∀ W v, P.KRow W w7.heap.size v (wantK (p2 L n) (M.take j) W1) → P.KRow W w7.heap.size v (wantK (p2 L n) (M.take (j + 1)) W1)) := Lib.hid (fun h W v hk => by rw [HN.out, h, if_neg (by decide)]; exact hk)
                have HYES : Hid (p2 L n ⟨xo, xs, xw, xc, xt⟩ = true → ∀ W v, P.KRow W w7.heap.size v (P.into (wantK (p2 L n) (M.take j) W1) (xo, xs)) → P.KRow W w7.heap.size v (wantK (p2 L n) (M.take (j + 1)) W1)) := Lib.hid (fun h W v hk => by rw [HN.out, h, if_pos rfl]; exact hk)
                clear HN
                by_cases ho : xo < (n : Int)
                · go_wp2_with fail
                  refine (CFV.out xo xs _ BJ.out).mono ?_
                  rintro e w8 ⟨k, rfl, hf, b8⟩
                  have B8 := Lib.hid (bn BJ.out b8)
                  have G8 := Lib.hid (GJ.out.below b8)
                  clear b8 x0 x1 hgl y0 hy0
                  have hwb := WB.out.below B8.out
                  have y0 := hwb.cell 0
                  simp only [List.getElem?_toArray, List.getElem?_cons_zero] at y0
                  have hy0 := World.block_lt_of_cell? _ _ y0
                  clear hwb
                  obtain ⟨x0, x1, x2, x3, x4⟩ := HX.out w8 B8.out
                  have hgl := World.block_lt_of_cell? _ _ x0
                  try simp only at x0 x1 x2 x3 x4
                  clear x2 x3 x4
                  by_cases hk0 : k < 0
                  · have hP : p2 L n ⟨xo, xs, xw, xc, xt⟩ = true := by
                      rw [HPD.out, Bool.and_eq_true, decide_eq_true_eq, decide_eq_true_eq]
                      refine ⟨ho, fun h => ?_⟩
                      obtain ⟨r, hr, e⟩ := List.mem_map.1 h
                      rcases hf with ⟨_, hn⟩ | ⟨i2, hi2, hk, _⟩
                      · exact hn r hr e
                      · omega
                    have HYES := Lib.hid (HYES.out hP)
                    clear HNOT hP HPD hf
                    go_wp2_with fail
                    refine (P.into_c _ xo xs _ _ w7.heap.size G8.out B8.out.size (by omega)).mono ?_
                    rintro e w9 ⟨v9, rfl, k9, b9⟩
                    have K9 := Lib.hid (HYES.out _ _ k9)
                    have B9 := Lib.hid (bn B8.out b9)
                    clear k9 b9
                    go_wp2_with fail
                    go_roundw
                    case rel => exact ⟨j + 1, HP.out, by go_num, K9, B9⟩
                    case measure => have := HP.out; simp [RowKit.intOf]; omega
                  · have hP : p2 L n ⟨xo, xs, xw, xc, xt⟩ = false := by
                      rw [HPD.out, Bool.and_eq_false_iff]
                      refine .inr ?_
                      rw [decide_eq_false_iff_not]
                      rcases hf with ⟨hk, _⟩ | ⟨i2, hi2, _, hk, _⟩
                      · omega
                      · exact fun h => h (by have := List.mem_map_of_mem (f := kyR) (List.getElem_mem hi2); rw [hk] at this; exact this)
                    have HNOT := Lib.hid (HNOT.out hP)
                    clear HYES hP HPD hf
                    go_wp2_with fail
                    go_roundw
                    case rel => exact ⟨j + 1, HP.out, by go_num, Lib.hid (HNOT.out _ _ G8.out), B8⟩
                    case measure => have := HP.out; simp [RowKit.intOf]; omega
                · have hP : p2 L n ⟨xo, xs, xw, xc, xt⟩ = false := by rw [HPD.out]; simp [ho]
                  have HNOT := Lib.hid (HNOT.out hP)
                  clear HYES hP HPD
                  go_wp2_with fail
                  go_roundw
                  case rel => exact ⟨j + 1, HP.out, by go_num, Lib.hid (HNOT.out _ _ GJ.out), BJ⟩
                  case measure => have := HP.out; simp [RowKit.intOf]; omega
              · obtain rfl : j = M.length := by omega
                have KJ : Hid (P.KRd _ _ ks) := Lib.hid (by have := P.KRow.rd GJ.out; rw [List.take_length, HWA.out] at this; exact this)
                obtain ⟨ad, cap, rfl, _, _⟩ := id KJ.out
                have CK := Lib.hid (P.samek_c ks _ _ _ (K7.out.below BJ.out) KJ.out (by omega))
                have hge : (n : Int) ≤ (kn : Int) := by have := HLO.out; omega
                have hle : (kn : Int) ≤ 8 + (ks.length : Int) * 4 * 5 := by have := HFW.out; omega
                clear HLO HFW hp hj GJ KJ
                go_wp2_with fail
                refine CK.out.mono ?_
                rintro e w8 ⟨rfl, b8⟩
                have B8 := Lib.hid (bn BJ.out b8)
                clear b8 CK
                go_wp2_with fail
                refine (bound_c ks.length w8 (by omega)).mono ?_
                rintro e w9 ⟨rfl, hw9⟩
                subst hw9
                go_wp2_with fail
                refine (HAW.out _ (bn B47.out B8.out)).mono ?_
                rintro e w10 ⟨rfl, b10⟩
                go_wp2_with fail
                go_ret
                exact ⟨rfl, bn (bn B47.out B8.out) b10⟩
end Go.Proofs.YtchkadifjbmmpaaDoor
namespace Go.Proofs.YtchkadifjbmmpaaDoor
open Go.RowKit Go.ChangeShapes Go.WideShapes Go.ChangeAt Go.Deep

set_option maxRecDepth 100000 in
theorem finds_lifted (os : Os) (started : os.Started) (H : Type) (enc : TypeId × Value → H) :
    ReturnsInHanded {} Tryd.checked os 7 .any (fun w args => (Rows.descentFindsSpec.pre enc Tryd.prog Tryd.f7 [] false w args ∧ laidMetH Tryd.prog Rows.descentFindsRow.laid w) ∧ sizedMet enc Tryd.prog Tryd.f7 (OpenSpec.ofChange Rows.descentFindsSpec) false w args)
      (Rows.descentFindsSpec.post enc Tryd.prog Tryd.f7 false true false false) := by
  refine laid_lift (C := Tryd.checked) (L := seatLaid) own started (by kernel_rfl) Tryd.func7
    (ChangeSpec.witness_shaped (enc := enc) (C := Tryd.checked) (os := os) (X := fun w _ => laidMetH Tryd.prog seatLaid w) false (World.laidAll Tryd.prog os seatLaid) #[.slice none 0 0, .slice none 0 0, .int .i64 0] 8 (World.laidAll_os _ _ _)
      (World.shaped_of_ZipB (by kernel_rfl) (by kernel_rfl)) (by kernel_rfl) (by kernel_rfl) (by kernel_rfl) (laid_world os _)) laidOut
    (by rw [Tryd.params7]; exact of_decide_eq_true (by kernel_rfl)) rfl 4 Tryd.underlying4 (by kernel_rfl)
    (fun ds h => by
      rw [Tryd.params7] at h
      match ds, h with
      | [_, _, _], _ => rfl) ?_
  intro W base args ds ps hval hA hL
  rw [Tryd.params7] at hA hval
  have hT := tabs_of_laid W hL
  obtain ⟨v0, v1, v2, d0, d1, d2, p0, p1, p2, rfl, rfl, rfl, h0, h1, h2⟩ := trodAll_three hA
  obtain ⟨l0, hl0, hs0, hm0⟩ := open_recs (hval 0 28 v0 rfl rfl) h0
  obtain ⟨l1, hl1, hs1, hm1⟩ := open_recs (hval 1 28 v1 rfl rfl) h1
  obtain ⟨a2, rfl, rfl, rfl, _⟩ := open_int Tryd.underlying3 (hval 2 3 v2 rfl rfl) h2
  exact finds_law l0 l1 v0 v1 a2 W hl0 hl1 hs0 hs1 hm0 hm1 hT

theorem finds_holds : Rows.DescentFindsSaid :=
  OpenClaim.holds_of_wide 7 Tryd.f7 rfl rfl rfl rfl rfl rfl rfl ⟨rfl, rfl, rfl, rfl, rfl⟩ rfl rfl rfl rfl rfl (by kernel_rfl) Tryd.func7 (by kernel_rfl)
    (of_decide_eq_true (by kernel_rfl)) (by unfold Func.isWrapper; first | (rw [if_pos (by decide +kernel)]; kernel_rfl) | (rw [if_neg (by decide +kernel)]; exact ⟨rfl, rfl⟩))
    (fun os started H enc _ => finds_lifted os started H enc)

theorem finds_card : Rows.DescentFindsCardSaid :=
  Claim7.holds_tied_plain_at .later [] _ _ _ _ finds_holds (fun _ h => by cases h) (by kernel_rfl) (fun _ h => by cases h) descentFinds_row_tie rfl ⟨rfl, rfl⟩ (by kernel_rfl) rfl
    (fun f fn hf hfn => by
      obtain rfl : f = 7 := Option.some.inj ((show Tryd.prog.funcNamed Rows.descentFindsRow.func = some 7 by kernel_rfl).symm.trans hf) |>.symm
      obtain rfl : fn = Tryd.f7 := (Option.some.inj (Tryd.func7.symm.trans hfn)).symm
      exact ⟨by kernel_rfl, fun j t ht => by
        rw [Tryd.params7] at ht
        have hm : t ∈ [28, 28, 3] := by simpa using Array.mem_of_getElem? ht
        have hall : ([28, 28, 3].all fun u => !Tryd.prog.wantsStandIn u) = true := by kernel_rfl
        exact (show Tryd.prog.wantsStandIn t = false by simpa using List.all_eq_true.1 hall t hm)⟩)
    (by kernel_rfl)
#print axioms finds_card
end Go.Proofs.YtchkadifjbmmpaaDoor
