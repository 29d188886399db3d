/-
  LedgerKeeps: what was written is there again behind an opening, in order, in segments that each begin with a base; what may not be written is refused, and changes nothing.
-/
import Derived.Test.YtjmkphnppegegaaGreatDoorPkLkc
import Derived.Test.YtjmkphnppegegaaGreatDoorPkLv
namespace Go.Proofs.YtjmkphnppegegaaGreatDoor
open Go.RowKit Go.Lib
set_option maxRecDepth 100000

set_option maxHeartbeats 4000000 in
theorem open_bad_c (w : World) (p : Nat) (n : Int) (h : manyB n = false) : Calls Tryz.prog 12 #[.pointer (some ⟨p, 0, none⟩), .int .i64 n] w fun e w' => e = .returned (.tuple #[.pointer none, .slice none 0 0, .int .i64 2]) ∧ w = w' := by
  unfold manyB at h
  cases h1 : decide (n < 1) with
  | true =>
    clear h
    go_enter Tryz.func12, Tryz.ntmps12
    go_wp2
    go_ret3
    exact ⟨rfl, rfl⟩
  | false =>
    have h2 : decide (8 < n) = true := by
      simp only [decide_eq_false_iff_not] at h1
      simp only [decide_eq_true_eq]
      simp at h
      omega
    clear h
    go_enter Tryz.func12, Tryz.ntmps12
    go_wp2
    go_ret3
    exact ⟨rfl, rfl⟩
theorem base_good (vv ww : List Int) (n : Int) : mayE (baseE vv ww) n = (mayB vv n && (mayB ww n && leB ww vv)) := by simp [mayE, baseE, blank_zero]
theorem write_no_S {w : World} {g p m : Nat} {S : Lg} {own : Nat → Prop} (h : Led w g p m S own) {n : Nat} (hn : S.n = n) (d : En) (a b c f : Value) (vv ww : List Int) (ha : Nl w a d.v) (hb : Nl w b d.w) (hv : Nl w c vv) (hw : Nl w f ww) (hdl : d.v.length ≤ 1000000 ∧ d.w.length ≤ 1000000 ∧ d.r.t.size ≤ 9223372036854775807) (hvl : vv.length ≤ 1000000 ∧ ww.length ≤ 1000000) (hT : Tabs w) (hno : d.k = 1 ∨ mayE d n = false ∨ mayE (baseE vv ww) n = false) :
    Calls Tryz.prog 17 #[.pointer (some ⟨g, 0, none⟩), .agg #[.int .i64 d.k, a, b, .int .i64 d.r.o, .int .i64 d.r.s, .int .i64 d.r.w, .int .i64 d.r.c, .string d.r.t], c, f] w fun x w' => x = .returned (.int .i64 2) ∧ Below w.heap.size w w' :=
  write_no_c w g p S.n S.k _ _ d a b vv ww c f h.lb ha hb hv hw hdl hvl hT (by rw [hn]; exact hno)

set_option maxHeartbeats 16000000 in
theorem keeps_law (n : Int) (ad : Option Addr) (cap : Nat) (l : List Ev) (av : Option Addr) (cv : Nat) (vv : List Int) (aw : Option Addr) (cw : Nat) (ww : List Int) (w0 : World) (hE : Er w0 (.slice ad l.length cap) l) (hs : ∀ x ∈ l, x.e.r.t.size ≤ 9223372036854775807) (hv : Nl w0 (.slice av vv.length cv) vv) (hw : Nl w0 (.slice aw ww.length cw) ww) (hT : Tabs w0) :
    Calls Tryz.prog 3 #[.int .i64 n, .slice ad l.length cap, .slice av vv.length cv, .slice aw ww.length cw] w0 fun e w' => e = .returned (.bool true) ∧ Below w0.heap.size w0 w' := by
  have HT0 := Lib.hid hT
  have HHS := Lib.hid hs
  have CG := Lib.hid (great_c w0 (.slice ad l.length cap) l 30 hE (by omega))
  have HE0 := Lib.hid hE
  have HV0 := Lib.hid hv
  have HW0 := Lib.hid hw
  have HAW := Lib.hid (awake_c w0 HT0.out)
  clear hT hs hE hv hw
  cases hg : greatE l 30 with
  | true =>
    rw [hg] at CG
    go_enter Tryz.func3, Tryz.ntmps3
    go_wp2_with fail
    refine CG.out.mono ?_
    rintro e w2 ⟨rfl, rfl⟩
    clear CG hg
    go_wp2_with fail
    refine HAW.out.mono ?_
    rintro e w3 ⟨rfl, b3⟩
    go_wp2
    go_ret
    exact ⟨rfl, b3⟩
  | false =>
  rw [hg] at CG
  have HG := Lib.hid (great_no hg)
  clear hg
  cases hv20 : decide (20 < vv.length) with
  | true =>
    have hv20' : 20 < vv.length := by simpa using hv20
    go_enter Tryz.func3, Tryz.ntmps3
    go_wp2_with fail
    refine CG.out.mono ?_
    rintro e w2 ⟨rfl, rfl⟩
    clear CG
    go_wp2_with fail
    refine HAW.out.mono ?_
    rintro e w3 ⟨rfl, b3⟩
    go_wp2
    go_ret
    exact ⟨rfl, b3⟩
  | false =>
  have hv20' : ¬ 20 < vv.length := by simpa using hv20
  cases hw20 : decide (20 < ww.length) with
  | true =>
    have hw20' : 20 < ww.length := by simpa using hw20
    go_enter Tryz.func3, Tryz.ntmps3
    go_wp2_with fail
    refine CG.out.mono ?_
    rintro e w2 ⟨rfl, rfl⟩
    clear CG
    go_wp2_with fail
    refine HAW.out.mono ?_
    rintro e w3 ⟨rfl, b3⟩
    go_wp2
    go_ret
    exact ⟨rfl, b3⟩
  | false =>
  have hw20' : ¬ 20 < ww.length := by simpa using hw20
  clear HAW
  have HN := Lib.hid (dNew w0 60000 (by omega))
  have CY : Hid (∀ W, Calls Tryz.prog 13 #[.int .i64 n] W fun x w' => x = .returned (.bool (manyB n)) ∧ W = w') := Lib.hid (fun W => refmany_c n W)
  cases hmn : manyB n with
  | false =>
    rw [hmn] at CY
    have HMN := Lib.hid hmn
    clear hmn
    go_enter Tryz.func3, Tryz.ntmps3
    go_wp2_with fail
    refine CG.out.mono ?_
    rintro e w2 ⟨rfl, rfl⟩
    clear CG
    go_wp2_with fail
    refine HN.out.mono ?_
    rintro e w1 ⟨p, own1, rfl, d1, o1, b1⟩
    have HB1 := Lib.hid b1
    have HO := Lib.hid (open_bad_c w1 p n HMN.out)
    have HAW := Lib.hid (awake_c w1 (HT0.out.below b1))
    clear d1 o1 b1 HN
    go_wp2_with fail
    refine HO.out.mono ?_
    rintro e w2 ⟨rfl, rfl⟩
    go_wp2_with fail
    refine (CY.out w1).mono ?_
    rintro e w2 ⟨rfl, rfl⟩
    go_wp2_with fail
    refine HAW.out.mono ?_
    rintro e w3 ⟨rfl, b3⟩
    go_wp2
    go_ret
    exact ⟨by first | rfl | simp, bn HB1.out b3⟩
  | true =>
  rw [hmn] at CY
  obtain ⟨k, hk1, hk8, rfl⟩ : ∃ k : Nat, 1 ≤ k ∧ k ≤ 8 ∧ n = (k : Int) := by
    unfold manyB at hmn
    simp at hmn
    exact ⟨n.toNat, by omega, by omega, by omega⟩
  obtain ⟨GB, hGB⟩ : ∃ GB, GB = mayE (baseE vv ww) (k : Int) := ⟨_, rfl⟩
  have HGB := Lib.hid hGB
  clear hmn hGB
  go_enter Tryz.func3, Tryz.ntmps3
  go_wp2_with fail
  refine CG.out.mono ?_
  rintro e w2 ⟨rfl, rfl⟩
  clear CG
  go_wp2_with fail
  refine HN.out.mono ?_
  rintro e w1 ⟨p, own1, rfl, d1, o1, b1⟩
  have HO := Lib.hid (cr_start0 k hk1 hk8 d1 o1 b1 HT0.out)
  clear d1 o1 b1 HN
  go_wp2_with fail
  refine HO.out.mono ?_
  rintro e w2 ⟨A2, C2, own2, rfl, c2⟩
  have HC2 := Lib.hid c2
  clear c2 HO
  go_wp2_with fail
  refine (CY.out w2).mono ?_
  rintro e w2' ⟨rfl, rfl⟩
  clear CY
  go_upto_region 9 with fail
  go_cut [13] (fun v13 wd => v13 = .bool GB ∧ Hid (Below w2.heap.size w2 wd))
  case first =>
    have hgb := HGB.out
    rw [base_good] at hgb
    have C1 := Lib.hid (refmay_c vv (k : Int) _ w2 (HV0.out.below HC2.out.gr.bl) (by omega))
    cases h1 : mayB vv (k : Int) with
    | false =>
      rw [h1] at C1 hgb
      obtain rfl : GB = false := by rw [hgb]; rfl
      clear h1 hgb HGB
      go_wp2_with fail
      refine C1.out.mono ?_
      rintro e w3 ⟨rfl, b3⟩
      go_wp2
      go_meet
      exact ⟨rfl, Lib.hid b3⟩
    | true =>
      rw [h1] at C1 hgb
      clear h1
      go_wp2_with fail
      refine C1.out.mono ?_
      rintro e w3 ⟨rfl, b3⟩
      have HB3 := Lib.hid b3
      have C2 := Lib.hid (refmay_c ww (k : Int) _ w3 (HW0.out.below (bn HC2.out.gr.bl b3)) (by omega))
      clear b3 C1
      cases h2 : mayB ww (k : Int) with
      | false =>
        rw [h2] at C2 hgb
        obtain rfl : GB = false := by rw [hgb]; rfl
        clear h2 hgb HGB
        go_wp2_with fail
        refine C2.out.mono ?_
        rintro e w4 ⟨rfl, b4⟩
        have HB4 := Lib.hid (bn HB3.out b4)
        clear b4
        go_wp2
        go_meet
        exact ⟨rfl, HB4⟩
      | true =>
        rw [h2] at C2 hgb
        clear h2
        obtain rfl : GB = leB ww vv := by rw [hgb]; rfl
        go_wp2_with fail
        refine C2.out.mono ?_
        rintro e w4 ⟨rfl, b4⟩
        have HB4 := Lib.hid (bn HB3.out b4)
        have C3 := Lib.hid (refbelow_c ww vv _ _ w4 (HW0.out.below (bn HC2.out.gr.bl HB4.out)) (HV0.out.below (bn HC2.out.gr.bl HB4.out)) (by omega))
        clear b4 C2 hgb HGB
        go_wp2_with fail
        refine C3.out.mono ?_
        rintro e w5 ⟨rfl, b5⟩
        have HB5 := Lib.hid (bn HB4.out b5)
        clear b5
        go_wp2
        go_meet
        exact ⟨rfl, HB5⟩
  case rest =>
    obtain ⟨rfl, HBD⟩ := hcut
    have HCD := Lib.hid (HC2.out.below HBD.out)
    clear HC2 HBD
    go_wp2
    go_loopw [14, 15] (fun v14 v15 wr => ∃ (j : Nat) (S : Lg) (own : Nat → Prop) (ys : List Ev), j ≤ l.length ∧ v15 = .int .i64 (j : Int) ∧ Hid (ys.length ≤ j) ∧ Hid (Cs k S (ys.map Ev.e) 0) ∧ Hid (Cr w0 wr 0 w1.heap.size p S own v14 ys [])) (fun _ v15 _ => l.length - (RowKit.intOf v15).toNat)
    case atStart => exact ⟨0, Lg.new k, own2, [], by omega, rfl, Lib.hid (by simp), Lib.hid (Cs.new hk1 hk8), HCD⟩
    case round =>
      clear HCD
      obtain ⟨j, S, own, ys, hj, rfl, HYL, HCS, HCR⟩ := hrel
      have hll := HG.out.1
      by_cases hjl : j < l.length
      · obtain ⟨b, o, rfl, _, a1⟩ := HE0.out.cellsAt j hjl
        have hJ := Lib.hid hjl
        have hbig := HG.out.2 _ (List.getElem_mem hjl)
        have htx := HHS.out _ (List.getElem_mem hjl)
        generalize l[j] = X at a1 hbig htx
        obtain ⟨x, A, B⟩ := X
        simp only at hbig htx
        have HAT := Lib.hid a1
        have HN0 := Lib.hid a1.parts
        obtain ⟨aA, cA, rfl, _⟩ := a1.parts.1.form
        obtain ⟨aB, cB, rfl, _⟩ := a1.parts.2.form
        have HDL : Hid (x.v.length ≤ 1000000 ∧ x.w.length ≤ 1000000 ∧ x.r.t.size ≤ 9223372036854775807) := Lib.hid ⟨by omega, by omega, htx⟩
        obtain ⟨⟨p0, p1, p2, p3, p4, p5, p6, p7⟩, hA, hB⟩ := a1.below HCR.out.gr.bl
        simp only at p0 p1 p2 p3 p4 p5 p6 p7 hA hB
        have hgl := World.block_lt_of_cell? wr _ p0
        have CNO : Hid (∀ W, Below wr.heap.size wr W → (x.k = 1 ∨ mayE x (k : Int) = false ∨ mayE (baseE vv ww) (k : Int) = false) → Calls Tryz.prog 17 #[.pointer (some ⟨w1.heap.size, 0, none⟩), .agg #[.int .i64 x.k, .slice aA x.v.length cA, .slice aB x.w.length cB, .int .i64 x.r.o, .int .i64 x.r.s, .int .i64 x.r.w, .int .i64 x.r.c, .string x.r.t], .slice av vv.length cv, .slice aw ww.length cw] W fun e w' => e = .returned (.int .i64 2) ∧ Below W.heap.size W w') := Lib.hid (fun W hW hno => by
          have hb0 := bn HCR.out.gr.bl hW
          exact write_no_S (HCR.out.below hW).ld HCS.out.n x _ _ _ _ vv ww (HN0.out.1.below hb0) (HN0.out.2.below hb0) (HV0.out.below hb0) (HW0.out.below hb0) HDL.out ⟨by omega, by omega⟩ (HT0.out.below hb0) hno)
        have CM := Lib.hid (refmaye_c x _ _ (k : Int) wr hA hB (by omega) (by omega) htx (HCR.out.gr.tabs HT0.out))
        clear hA hB a1 hbig htx
        cases GB with
        | false =>
          clear CM
          go_wp2_with fail
          refine (CNO.out wr (Below.refl _ _) (.inr (.inr HGB.out.symm))).mono ?_
          rintro e w3 ⟨rfl, b3⟩
          have HC3 := Lib.hid (HCR.out.below b3)
          clear b3 CNO
          go_wp2
          go_roundw
          case rel => exact ⟨j + 1, S, own, ys, hJ.out, by go_num, Lib.hid (Nat.le_succ_of_le HYL.out), HCS, HC3⟩
          case measure => have := hJ.out; simp [RowKit.intOf]; omega
        | true =>
          cases hm : mayE x (k : Int) with
          | false =>
            rw [hm] at CM
            have HM := Lib.hid hm
            clear hm
            go_wp2_with fail
            refine CM.out.mono ?_
            rintro e w3 ⟨rfl, b3⟩
            have HB3 := Lib.hid b3
            obtain ⟨⟨q0, q1, q2, q3, q4, q5, q6, q7⟩, _, _⟩ := HAT.out.below (bn HCR.out.gr.bl b3)
            simp only at q0 q1 q2 q3 q4 q5 q6 q7
            have hgl3 := World.block_lt_of_cell? w3 _ q0
            clear b3 CM p0 p1 p2 p3 p4 p5 p6 p7 hgl
            go_wp2_with fail
            refine (CNO.out w3 HB3.out (.inr (.inl HM.out))).mono ?_
            rintro e w4 ⟨rfl, b4⟩
            have HC4 := Lib.hid (HCR.out.below (bn HB3.out b4))
            clear b4 CNO
            go_wp2
            go_roundw
            case rel => exact ⟨j + 1, S, own, ys, hJ.out, by go_num, Lib.hid (Nat.le_succ_of_le HYL.out), HCS, HC4⟩
            case measure => have := hJ.out; simp [RowKit.intOf]; omega
          | true =>
            rw [hm] at CM
            have HM := Lib.hid hm
            clear hm
            go_wp2_with fail
            refine CM.out.mono ?_
            rintro e w3 ⟨rfl, b3⟩
            have HB3 := Lib.hid b3
            have HC3 := Lib.hid (HCR.out.below b3)
            obtain ⟨⟨q0, q1, q2, q3, q4, q5, q6, q7⟩, _, _⟩ := HAT.out.below HC3.out.gr.bl
            simp only at q0 q1 q2 q3 q4 q5 q6 q7
            have hgl3 := World.block_lt_of_cell? w3 _ q0
            clear b3 CM p0 p1 p2 p3 p4 p5 p6 p7 hgl
            cases hk : (x.k != 1) with
            | false =>
              have hk1 : x.k = 1 := by simpa using hk
              have HK1 := Lib.hid hk1
              clear hk1
              go_wp2_with fail
              refine (CNO.out w3 HB3.out (.inl HK1.out)).mono ?_
              rintro e w4 ⟨rfl, b4⟩
              have HC4 := Lib.hid (HCR.out.below (bn HB3.out b4))
              clear b4 CNO
              go_wp2
              go_roundw
              case rel => exact ⟨j + 1, S, own, ys, hJ.out, by go_num, Lib.hid (Nat.le_succ_of_le HYL.out), HCS, HC4⟩
              case measure => have := hJ.out; simp [RowKit.intOf]; omega
            | true =>
              have hk1' : x.k ≠ 1 := by simpa using hk
              have hk2 : (x.k == 1) = false := by simpa using hk1'
              have hyl : ys.length ≤ 30 := by have := HYL.out; omega
              have CW := Lib.hid (HC3.out.write HCS.out.n (by have h1 := HCS.out.k; have h2 := HCS.out.A; rw [List.length_map] at h2; omega) (by have h1 := HCS.out.us; rw [List.length_map] at h1; omega) ⟨x, .slice aA x.v.length cA, .slice aB x.w.length cB⟩ HN0.out.1 HN0.out.2 HT0.out _ _ vv ww (HV0.out.below HC3.out.gr.bl) (HW0.out.below HC3.out.gr.bl) hk1' HM.out HGB.out.symm)
              have HCS5 : Hid (Cs k (S.write x vv ww) ((ys ++ [(⟨x, .slice aA x.v.length cA, .slice aB x.w.length cB⟩ : Ev)]).map Ev.e) 0) := Lib.hid (by
                rw [List.map_append]
                exact HCS.out.write HC3.out.ld.ok HM.out hk1' HGB.out.symm)
              clear hk1' CNO HB3
              go_wp2_with fail
              refine CW.out.mono ?_
              rintro e w4 ⟨rfl, own4, c4, s4⟩
              obtain ⟨⟨r0, r1, r2, r3, r4, r5, r6, r7⟩, _, _⟩ := HAT.out.below c4.gr.bl
              simp only at r0 r1 r2 r3 r4 r5 r6 r7
              have hgl4 := World.block_lt_of_cell? w4 _ r0
              obtain ⟨A5, C5, w5, run5, c5⟩ := c4.push ⟨x, .slice aA x.v.length cA, .slice aB x.w.length cB⟩ HN0.out.1 HN0.out.2 (by omega) 22 43
              have HR5 := Lib.hid run5
              have HC5 := Lib.hid c5
              have HY5 : Hid ((ys ++ [(⟨x, .slice aA x.v.length cA, .slice aB x.w.length cB⟩ : Ev)]).length ≤ j + 1) := Lib.hid (by rw [List.length_append, List.length_singleton]; have := HYL.out; omega)
              generalize S.write x vv ww = S5 at *
              clear c4 s4 c5 run5 CW HC3 HCR HCS HYL q0 q1 q2 q3 q4 q5 q6 q7 hgl3 HM HAT
              go_wp2_with (at_builtin; refine wpList_append_run rfl _ _ 22 rfl _ _ HR5.out ?_; clear HR5)
              go_roundw
              case rel => exact ⟨j + 1, S5, own4, _, hJ.out, by go_num, HY5, HCS5, HC5⟩
              case measure => have := hJ.out; simp [RowKit.intOf]; omega
      · obtain rfl : j = l.length := by omega
        have hyl : ys.length ≤ 30 := by have := HYL.out; omega
        have e2 : decide ((l.length : Int) < (l.length : Int)) = false := by simp
        have hAl : S.A.length ≤ 30 := by have := HCS.out.A; rw [List.length_map] at this; omega
        have HSG := Lib.hid (segs_S HCR.out.ld)
        go_wp2_with fail
        refine HSG.out.mono ?_
        rintro e w3 ⟨rfl, b3⟩
        have HC3 := Lib.hid (HCR.out.below b3)
        have HSY := Lib.hid (HCR.out.below b3).sync
        clear b3 HSG HCR
        go_wp2_with fail
        refine HSY.out.mono ?_
        rintro e w4 ⟨rfl, own4, c4, s4⟩
        have HLO := Lib.hid (loose_S c4.ld.dr c4.ld.ok)
        have hyy : (rowsE S.sync.L).length - S.sync.y = 0 := by simp [Lg.sync]
        rw [hyy] at HLO
        have HC4 := Lib.hid c4
        clear c4 s4 HSY HC3 hyy
        go_wp2_with fail
        refine HLO.out.mono ?_
        rintro e w5 ⟨rfl, b5⟩
        have HC5 := Lib.hid (HC4.out.below b5)
        have HOP := Lib.hid (HC5.out.openC HT0.out (n := k) HCS.out.n)
        have HAS : Hid (S.sync.A.length = S.A.length) := Lib.hid rfl
        have HPS : Hid (plainE S.sync.all = ys.map Ev.e) := Lib.hid HCS.out.pl
        have HSN : Hid (S.sync.n = k) := Lib.hid HCS.out.n
        have HPS2 : Hid (plainE S.sync.all = ys.map Ev.e) := Lib.hid HCS.out.pl
        have HVB : Hid (∀ i, Value.ownBlock _ = some i → i < w5.heap.size) := Lib.hid (fun i hi => (World.ownsRow.lt HC5.out.wn.row i hi).2)
        clear b5 HLO HC4 HCS
        go_wp2_with fail
        refine HOP.out.mono ?_
        rintro e w6 ⟨A6, C6, xs, own6, rfl, ek6, es6, c6, s6⟩
        have hxl : xs.length = ys.length + (S.A.length + 1) := by
          have h1 := congrArg List.length es6
          have h2 := c6.ld.ok.len
          have h3 := congrArg List.length HPS.out
          rw [List.length_map] at h1 h3
          have h4 := HAS.out
          omega
        have HXP : Hid ((plainV xs).map Ev.e = ys.map Ev.e) := Lib.hid (by rw [plainV_e, es6]; exact HPS.out)
        have HXV : Hid (∀ x ∈ xs, x.e.v.length ≤ 1000000 ∧ x.e.w.length ≤ 1000000) := Lib.hid (fun x hx => by
          have h1 : x.e ∈ xs.map Ev.e := List.mem_map_of_mem hx
          rw [es6] at h1
          exact may_lens (c6.ld.ok.may x.e h1))
        have HX0 : Hid (∃ h : 0 < xs.length, xs[0].e.k = 1) := Lib.hid (by
          obtain ⟨e, t, h1, h2⟩ := c6.ld.ok.first
          rw [h1] at es6
          cases xs with
          | nil => cases es6
          | cons y r =>
            simp only [List.map_cons, List.cons.injEq] at es6
            exact ⟨by simp, by rw [List.getElem_cons_zero, es6.1]; exact h2⟩)
        have HC6 := Lib.hid c6
        have HE6 := Lib.hid ek6
        have HPC := Lib.hid (plain_c w6 _ xs ek6.1.er (by omega))
        have HXL := Lib.hid hxl
        clear ek6 es6 c6 s6 HOP HC5 HPS hxl
        go_wp2_with fail
        refine HPC.out.mono ?_
        rintro e w7 ⟨v7, rfl, r7, b7⟩
        obtain ⟨ad7, cap7, rfl⟩ : ∃ ad7 cap7, v7 = .slice ad7 (plainV xs).length cap7 := by
          rcases r7.2 with ⟨rfl, h0⟩ | ⟨g', cap', cur, rfl, _⟩
          · exact ⟨none, 0, by rw [h0]⟩
          · exact ⟨_, _, rfl⟩
        have HC7 := Lib.hid (HC6.out.below b7)
        have HE7 := Lib.hid (HE6.out.below b7)
        have HSM := Lib.hid (sames_c (plainV xs) ys _ _ w7 (ERow.er r7 (fun x hx => HE7.out.1.er.nls x ((List.mem_filter.1 hx).1))) HC7.out.er HXP.out (by have := plainV_len xs; have := HXL.out; omega) (fun x hx => HXV.out x ((List.mem_filter.1 hx).1)))
        clear r7 b7 HPC HC6 HE6
        go_wp2_with fail
        refine HSM.out.mono ?_
        rintro e w8 ⟨rfl, b8⟩
        have HC8 := Lib.hid (HC7.out.below b8)
        have HE8 := Lib.hid (HE7.out.below b8)
        have HSG := Lib.hid (segs_S HC8.out.ld)
        rw [HAS.out] at HSG
        obtain ⟨a14, c14, e14, _, _⟩ := HC8.out.er
        subst e14
        clear b8 HSM HC7 HE7
        go_wp2_with fail
        refine HSG.out.mono ?_
        rintro e w9 ⟨rfl, b9⟩
        have HC9 := Lib.hid (HC8.out.below b9)
        have HE9 := Lib.hid (HE8.out.below b9)
        obtain ⟨hx0, hx1⟩ := HX0.out
        obtain ⟨b', o', eA, _, a9⟩ := HE9.out.1.er.cellsAt 0 hx0
        subst eA
        have z0 := a9.1.1
        rw [hx1] at z0
        simp only [Nat.zero_mul, Nat.add_zero] at z0
        have hgl9 := World.block_lt_of_cell? w9 _ z0
        have HOV := Lib.hid (overt_c xs _ w9 _ HE9.out.1 (by have := HXL.out; omega) HXV.out (by have h1 := HC9.out.ld.lt; omega))
        have hq1 : (xs.length : Int) = (ys.length : Int) + ((S.A.length + 1 : Nat) : Int) := by have := HXL.out; omega
        have HX9 := Lib.hid HC9.out
        clear b9 HSG HC8 HE8 a9
        have hxi : 0 < xs.length := hx0
        go_wp2_with fail
        refine HOV.out.mono ?_
        rintro e wa ⟨rfl, ta⟩
        have HCA := Lib.hid (HC9.out.over HE9.out ta HVB.out)
        have HOP := Lib.hid (HCA.out.openC HT0.out (n := k) HSN.out)
        clear ta HOV HC9 HE9 HX9 z0 hgl9 HXP HXV HX0 hx1
        go_wp2_with fail
        refine HOP.out.mono ?_
        rintro e wb ⟨Ab, Cb, zs, ownb, rfl, ekb, esb, cb, sb⟩
        have hzl : zs.length ≤ 100000 := by
          have h1 := congrArg List.length esb
          have h2 := cb.ld.ok.len
          have h3 := congrArg List.length HPS2.out
          rw [List.length_map] at h1 h3
          have h4 := HAS.out
          omega
        have HZP : Hid ((plainV zs).map Ev.e = ys.map Ev.e) := Lib.hid (by rw [plainV_e, esb]; exact HPS2.out)
        have HZV : Hid (∀ x ∈ zs, x.e.v.length ≤ 1000000 ∧ x.e.w.length ≤ 1000000) := Lib.hid (fun x hx => by
          have h1 : x.e ∈ zs.map Ev.e := List.mem_map_of_mem hx
          rw [esb] at h1
          exact may_lens (cb.ld.ok.may x.e h1))
        have HCB := Lib.hid cb
        have HEB := Lib.hid ekb
        have HPC := Lib.hid (plain_c wb _ zs ekb.1.er hzl)
        clear ekb esb cb sb HOP HCA
        go_wp2_with fail
        refine HPC.out.mono ?_
        rintro e wc ⟨vc, rfl, rc, bc⟩
        obtain ⟨adc, capc, rfl⟩ : ∃ adc capc, vc = .slice adc (plainV zs).length capc := by
          rcases rc.2 with ⟨rfl, h0⟩ | ⟨g', cap', cur, rfl, _⟩
          · exact ⟨none, 0, by rw [h0]⟩
          · exact ⟨_, _, rfl⟩
        have HCC := Lib.hid (HCB.out.below bc)
        have HSM := Lib.hid (sames_c (plainV zs) ys _ _ wc (ERow.er rc (fun x hx => (HEB.out.below bc).1.er.nls x ((List.mem_filter.1 hx).1))) HCC.out.er HZP.out (by have := plainV_len zs; omega) (fun x hx => HZV.out x ((List.mem_filter.1 hx).1)))
        clear rc bc HPC HCB HEB
        go_wp2_with fail
        refine HSM.out.mono ?_
        rintro e wd ⟨rfl, bd⟩
        have HBD := Lib.hid (bn HCC.out.gr.bl bd)
        have HAW := Lib.hid (awake_c wd (HT0.out.below HBD.out))
        clear bd HSM HCC
        go_wp2_with fail
        refine HAW.out.mono ?_
        rintro e we ⟨rfl, be⟩
        have HBE := Lib.hid (bn HBD.out be)
        clear be HAW
        go_wp2
        go_ret
        exact ⟨by first | rfl | simp, HBE.out⟩
end Go.Proofs.YtjmkphnppegegaaGreatDoor
