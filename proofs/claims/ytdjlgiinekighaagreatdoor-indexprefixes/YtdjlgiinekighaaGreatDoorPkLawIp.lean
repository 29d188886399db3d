/-
  PROVED: IndexPrefixes answers true, whatever records and word it is given. Conditions: the library's listed variables hold what the program's text, and the pinned tables, lay (the card ties them).
-/
import Derived.Test.YtdjlgiinekighaaGreatDoorPkIc
import Derived.Test.YtdjlgiinekighaaGreatDoorPkIl
namespace Go.Proofs.YtdjlgiinekighaaGreatDoor
open Go.RowKit Go.Lib Go.Sort Go.Shelf Go.Maps Go.Proofs.YtdjlgiinekighaaGreatDoor.P Go.Proofs
set_option maxRecDepth 100000
set_option linter.unusedSimpArgs false

/-- The argument is gone through, or awake is asked. -/
def overQ (l : List R.Rc) (q : Bs) : Bool := R.greatB l 20 || (decide (30 < q.length) || decide (q = []))
set_option maxHeartbeats 16000000 in
theorem prefixes_great (l : List R.Rc) (v : Value) (q : Bs) (w : World) (h : R.Rl w v l) (hl : l.length ≤ maxLen) (hR : R.Tabs w) (hT : T.Tabs w) (ho : overQ l q = true) :
    Calls Tryz.prog 6 #[v, .string ⟨q.toArray⟩] w fun e w' => e = .returned (.bool true) ∧ Below w.heap.size w w' := by
  have HG := Lib.hid (R.great_c l v 20 w h (by omega) hl)
  have HR := Lib.hid hR
  have HT := Lib.hid hT
  cases hg : R.greatB l 20 with
  | true =>
    rw [hg] at HG
    clear hg h hl hR hT
    go_enter Tryz.func6, Tryz.ntmps6
    go_wp2_with fail
    refine HG.out.mono ?_
    rintro e w1 ⟨rfl, b1⟩
    go_wp2_with fail
    refine (awake_c w1 (HR.out.below b1) (HT.out.below b1)).mono ?_
    rintro e w2 ⟨rfl, b2⟩
    go_wp2
    go_ret
    exact ⟨rfl, bn b1 b2⟩
  | false =>
    rw [hg] at HG
    unfold overQ at ho
    rw [hg, Bool.false_or] at ho
    clear hg h hl hR hT
    by_cases hq : 30 < q.length
    · have hq2 : (30 : Int) < (q.length : Int) := by omega
      go_enter Tryz.func6, Tryz.ntmps6
      go_wp2_with fail
      refine HG.out.mono ?_
      rintro e w1 ⟨rfl, b1⟩
      go_wp2_with fail
      refine (awake_c w1 (HR.out.below b1) (HT.out.below b1)).mono ?_
      rintro e w2 ⟨rfl, b2⟩
      go_wp2
      go_ret
      exact ⟨rfl, bn b1 b2⟩
    · have hq2 : ¬ (30 : Int) < (q.length : Int) := by omega
      have hq0 : q = [] := by simpa [hq] using ho
      subst hq0
      go_enter Tryz.func6, Tryz.ntmps6
      go_wp2_with fail
      refine HG.out.mono ?_
      rintro e w1 ⟨rfl, b1⟩
      go_wp2_with fail
      refine (awake_c w1 (HR.out.below b1) (HT.out.below b1)).mono ?_
      rintro e w2 ⟨rfl, b2⟩
      go_wp2
      go_ret
      exact ⟨rfl, bn b1 b2⟩
set_option maxHeartbeats 32000000 in
theorem prefixes_law (l : List R.Rc) (v : Value) (q : Bs) (w : World) (h : R.Rl w v l) (hs : ∀ x ∈ l, x.t.size ≤ 9223372036854775807) (hl : l.length ≤ maxLen) (hR : R.Tabs w) (hT : T.Tabs w) :
    Calls Tryz.prog 6 #[v, .string ⟨q.toArray⟩] w fun e w' => e = .returned (.bool true) ∧ Below w.heap.size w w' := by
  have mixed : Tryz.prog.follows .mixedOrders = true := by kernel_rfl
  cases hov : overQ l q with
  | true => exact prefixes_great l v q w h hl hR hT hov
  | false =>
    unfold overQ at hov
    simp only [Bool.or_eq_false_iff, decide_eq_false_iff_not] at hov
    obtain ⟨hg, hq, hq0⟩ := hov
    have HG := Lib.hid (R.great_c l v 20 w h (by omega) hl)
    have HR := Lib.hid hR
    have HT := Lib.hid hT
    have hqe : ¬ List.isEmpty q = true := by
      cases q with
      | nil => exact absurd rfl hq0
      | cons a r => simp
    have hq2 : ¬ (30 : Int) < (q.length : Int) := by omega
    have HQ := Lib.hid hq
    rw [hg] at HG
    have hln : l.length ≤ 20 := (R.greatB_no hg).1
    obtain ⟨ad, cap, rfl, _, _⟩ := id h.form
    have HRL := Lib.hid h
    have HSZ := Lib.hid hs
    clear hg h hs hl hR hT hq
    go_enter Tryz.func6, Tryz.ntmps6
    go_wp2_with fail
    refine HG.out.mono ?_
    rintro e w1 ⟨rfl, b1⟩
    have B1 := Lib.hid b1
    clear b1 HG
    go_wp2_with fail
    clear hqe hq2 hq0
    refine (new_c w1).mono ?_
    rintro e w2 ⟨p, own, rfl, h2, o2, b2⟩
    have H2 := Lib.hid h2
    have B2 := Lib.hid (bn B1.out b2)
    have O2 : Hid (∀ i, own i → w.heap.size ≤ i) := Lib.hid (fun i hi => Nat.le_trans B1.out.size (o2 i hi))
    clear h2 o2 b2 B1
    go_wp2_with fail
    go_loopw [6] (fun v6 wr => ∃ (i : Nat) (own' : Nat → Prop), i ≤ l.length ∧ v6 = .int .i64 (i : Int) ∧ Hid (Ix wr p (putSs (l.take i)) (200 * i) own') ∧ Hid (Below w.heap.size w wr) ∧ Hid (∀ j, own' j → w.heap.size ≤ j)) (fun v6 _ => l.length - (RowKit.intOf v6).toNat)
    case atStart => exact ⟨0, own, by omega, rfl, H2, B2, O2⟩
    case round =>
      obtain ⟨i, own', hi, rfl, H3, B3, O3⟩ := hrel
      clear H2 B2 O2
      by_cases hp : i < l.length
      · obtain ⟨ad2, cap2, e, _, hc⟩ := (HRL.out.below B3.out).form
        simp only [Value.slice.injEq, true_and] at e
        obtain ⟨rfl, rfl⟩ := e
        obtain ⟨b, o, rfl, hrc⟩ := hc (by omega)
        have hx := hrc i hp
        have HNX := Lib.hid (putSs_next l i hp)
        have HSX := Lib.hid (HSZ.out _ (List.getElem_mem hp))
        have HP := Lib.hid hp
        generalize l[i] = r at hx HNX HSX
        obtain ⟨x0, x1, x2, x3, x4⟩ := hx
        have hgl := World.block_lt_of_cell? _ _ x0
        have CP := Lib.hid (put_c p (200 * i) _ own' r wr H3.out (by omega) HSX.out (HR.out.below B3.out) (HT.out.below B3.out))
        go_wp2_with fail
        refine CP.out.mono ?_
        rintro e w4 ⟨own4, rfl, h4, t4, o4⟩
        have H4 : Hid (Ix w4 p (putSs (l.take (i + 1))) (200 * (i + 1)) own4) := Lib.hid (by rw [HNX.out]; exact h4.few (by omega))
        have B4 : Hid (Below w.heap.size w w4) := Lib.hid (B3.out.trans (t4.below B3.out.size O3.out))
        have O4 : Hid (∀ j, own4 j → w.heap.size ≤ j) := Lib.hid (fun j hj => (o4 j hj).elim (O3.out j) (fun h => Nat.le_trans B3.out.size h))
        clear h4 t4 o4 x0 x1 x2 x3 x4 hgl CP hrc
        go_wp2
        go_roundw
        case rel => exact ⟨i + 1, own4, HP.out, by go_num, H4, B4, O4⟩
        case measure => have := HP.out; simp [RowKit.intOf]; omega
      · have hil : i = l.length := by omega
        subst hil
        have hgd := good_all l
        have hsl := putSs_len l
        have H5 : Hid (Ix wr p (putSs l) 10000 own') := Lib.hid (by
          have := H3.out
          rw [List.take_length] at this
          exact this.few (by omega))
        have hql := lens_lstR_le hgd q
        have HGD := Lib.hid hgd
        clear H3 hgd HSZ HRL
        generalize putSs l = S at *
        have CX := Lib.hid (prefix_c p 10000 S own' q wr H5.out (by omega) (fun x hx => Nat.le_trans (HGD.out x hx).1 (by omega)))
        go_wp2_with fail
        refine CX.out.mono ?_
        rintro e w5 ⟨v5, P, rfl, h5, e5, b5⟩
        obtain ⟨A5, C5, rfl, _⟩ := own_form h5.row
        have P5 := Lib.hid h5.rd
        have E5 := Lib.hid e5
        have H5b := Lib.hid (H5.out.below b5)
        have B5 := Lib.hid (bn B3.out b5)
        have HMY := Lib.hid (lstR_may S q H5.out.nd)
        have HPL : Hid (lens (ps P) ≤ 120 * S.length) := Lib.hid (by rw [e5]; exact hql)
        have hPn : P.length ≤ S.length := by
          have h1 := congrArg List.length e5
          have h2 := lstR_len S q
          unfold ps at h1
          rw [List.length_map] at h1
          omega
        have HPX : Hid (∀ x ∈ P, x.ns.length ≤ 120) := Lib.hid (fun x hx => by
          have h1 : x.p ∈ ps P := List.mem_map_of_mem hx
          rw [e5] at h1
          obtain ⟨k, _, hk⟩ := List.mem_map.1 h1
          have h2 : x.ns = preS S k q := (congrArg Po.ns hk).symm
          rw [h2]
          exact preS_len S k q 120 fun y hy => (HGD.out y hy).1)
        clear h5 e5 b5 CX H5 B3
        go_wp2_with fail
        refine (words_c p 10000 S own' w5 H5b.out (by omega)).mono ?_
        rintro e w6 ⟨v6, ws, rfl, r6, hw6, hwn, b6⟩
        obtain ⟨A6, C6, rfl, _⟩ := own_form r6
        have W6 := Lib.hid hw6
        have H6 := Lib.hid (H5b.out.below b6)
        have B6 := Lib.hid (bn B5.out b6)
        have P6 := Lib.hid (P5.out.below b6)
        have HTO : Hid (lensQ S q ws = lens (ps P)) := Lib.hid (by rw [E5.out]; exact lensQ_all S q ws hw6)
        have D6 := Lib.hid (StrRow.rd r6)
        clear r6 hw6 b6 H5b B5 P5
        go_wp2_with fail
        go_loopw [8, 10] (fun v8 v10 wr => ∃ (i : Nat), i ≤ ws.length ∧ v8 = .int .i64 ((lensQ S q (ws.take i) : Nat) : Int) ∧ v10 = .int .i64 (i : Int) ∧ Hid (Ix wr p S 10000 own') ∧ Hid (Below w.heap.size w wr) ∧ Hid (StrRd wr (.slice A6 ws.length C6) ws) ∧ Hid (PRd wr (.slice A5 P.length C5) P)) (fun _ v10 _ => ws.length - (RowKit.intOf v10).toNat)
        case atStart => exact ⟨0, by omega, rfl, rfl, H6, B6, D6, P6⟩
        case round =>
          obtain ⟨i, hi2, rfl, rfl, H7, B7, D7, P7⟩ := hrel
          clear H6 B6 D6 P6
          by_cases hp2 : i < ws.length
          · obtain ⟨ad3, cap3, e, _, hc⟩ := D7.out
            simp only [Value.slice.injEq, true_and] at e
            obtain ⟨rfl, rfl⟩ := e
            obtain ⟨b, o, rfl, hst⟩ := hc (by omega)
            have hw := (W6.out.2 ws[i]).1 (List.getElem_mem hp2)
            obtain ⟨k0, hk0⟩ := hw
            have hwl := H7.out.word_len hk0
            have c1 := hst i hp2
            have CW := Lib.hid (word_c p 10000 S own' ws[i] _ H7.out hwl (by omega))
            have HP2 := Lib.hid hp2
            have HNW := Lib.hid (lensQ_next S q ws i hp2)
            have hlw : lensQ S q (ws.take (i + 1)) ≤ 2400 := by
              have h1 := lensQ_le S q ws (i + 1)
              have h2 := HTO.out
              have h3 := HPL.out
              omega
            have hgl := World.block_lt_of_cell? _ _ c1
            have HPA : Hid (hasB ws[i] q = true → ∀ (m : List Pv), ps m = lstS S ws[i] → ∀ j (hj : j < m.length), ∃ a, ∃ ha : a < P.length, m[j].ns.length ≤ P[a].ns.length ∧ ∀ i (hi : i < P.length), (P[i].o == m[j].o && P[i].s == m[j].s) = decide (i = a)) := Lib.hid (fun ht m hm j hj => place_at H7.out.nd W6.out ht E5.out hm hj)
            generalize ws[i] = ti at c1 CW HNW HPA hwl
            generalize lensQ S q (ws.take i) = n0 at HNW
            rw [HNW.out] at hlw
            clear hst hk0 hc
            cases hhb : hasB ti q with
            | false =>
              rw [hhb, if_neg (by decide)] at HNW
              clear CW HPA hwl
              by_cases hlq : ti.length < q.length
              · have hlq2 : (ti.length : Int) < (q.length : Int) := by omega
                clear hhb
                go_wp2_with fail
                go_roundw
                case rel => exact ⟨i + 1, HP2.out, by rw [HNW.out, Nat.add_zero], by go_num, H7, B7, D7, P7⟩
                case measure => have := HP2.out; simp [RowKit.intOf]; omega
              · have hlq2 : ¬ (ti.length : Int) < (q.length : Int) := by omega
                have hlq3 : (q.length : Int) ≤ (ti.length : Int) := by omega
                have hcp := cut_pre ti q
                rw [hhb] at hcp
                clear hhb
                go_wp2_with fail
                go_roundw
                case rel => exact ⟨i + 1, HP2.out, by rw [HNW.out, Nat.add_zero], by go_num, H7, B7, D7, P7⟩
                case measure => have := HP2.out; simp [RowKit.intOf]; omega
            | true =>
              rw [hhb, if_pos rfl] at HNW hlw
              have hlq : ¬ (ti.length : Int) < (q.length : Int) := by
                unfold hasB at hhb
                rw [decide_eq_true_eq] at hhb
                have := hhb.length_le
                omega
              have hlq3 : (q.length : Int) ≤ (ti.length : Int) := by omega
              have hcp := cut_pre ti q
              rw [hhb] at hcp
              have HPB := Lib.hid (HPA.out hhb)
              clear hhb HPA
              go_wp2_with fail
              clear hcp
              refine CW.out.mono ?_
              rintro e w8 ⟨v8, q8, rfl, h8, e8, b8⟩
              obtain ⟨A8, C8, rfl, _⟩ := own_form h8.row
              have HPC := Lib.hid (HPB.out q8 e8)
              rw [← e8] at HNW hlw
              have H8 := Lib.hid (H7.out.below b8)
              have B8 := Lib.hid (bn B7.out b8)
              have D8 := Lib.hid (D7.out.below b8)
              have P8 := Lib.hid (P7.out.below b8)
              have Q8 := Lib.hid h8.rd
              have hq8 : q8.length ≤ 10000 := by
                have h1 := congrArg List.length e8
                have h2 := lstS_len S ti
                unfold ps at h1
                rw [List.length_map] at h1
                omega
              clear e8 h8 b8 CW c1 hgl H7 B7 D7 P7 HPB hlq hlq3
              go_wp2_with fail
              go_loopw [8, 12] (fun v8 v12 wr => ∃ (j : Nat), j ≤ q8.length ∧ v8 = .int .i64 ((n0 + lensT q8 j : Nat) : Int) ∧ v12 = .int .i64 (j : Int) ∧ Hid (Ix wr p S 10000 own') ∧ Hid (Below w.heap.size w wr) ∧ Hid (StrRd wr (.slice (some ⟨b, o, none⟩) ws.length C6) ws) ∧ Hid (PRd wr (.slice A5 P.length C5) P) ∧ Hid (PRd wr (.slice A8 q8.length C8) q8)) (fun _ v12 _ => q8.length - (RowKit.intOf v12).toNat)
              case atStart => exact ⟨0, by omega, rfl, rfl, H8, B8, D8, P8, Q8⟩
              case round =>
                obtain ⟨j, hj, rfl, rfl, H9, B9, D9, P9, Q9⟩ := hrel
                clear H8 B8 D8 P8 Q8
                by_cases hp3 : j < q8.length
                · obtain ⟨ad9, cap9, e, _, hc9⟩ := Q9.out
                  simp only [Value.slice.injEq, true_and] at e
                  obtain ⟨rfl, rfl⟩ := e
                  obtain ⟨b9, o9, rfl, hpt⟩ := hc9 (by omega)
                  have p1 := hpt j hp3
                  have HNT := Lib.hid (lensT_next q8 j hp3)
                  have hlt : n0 + lensT q8 (j + 1) ≤ 3000 := by
                    have := lensT_le q8 (j + 1)
                    omega
                  have HP3 := Lib.hid hp3
                  obtain ⟨a, ha, hna, hka⟩ := HPC.out j hp3
                  have HKA := Lib.hid hka
                  obtain ⟨d0, d1, d2, dn⟩ := p1
                  obtain ⟨an, cn, en, _⟩ := dn.form
                  rw [en] at d2
                  clear dn en
                  generalize q8[j].o = xo at d0 HKA
                  generalize q8[j].s = xs at d1 HKA
                  generalize q8[j].ns.length = ln at d2 hna HNT
                  have HXC : Hid (∀ W, Below wr.heap.size wr W → W.cell? ⟨b9, o9 + j * 3, none⟩ = some (.int .i64 xo) ∧ W.cell? ⟨b9, o9 + j * 3 + 1, none⟩ = some (.int .i64 xs) ∧ W.cell? ⟨b9, o9 + j * 3 + 2, none⟩ = some (.slice an ln cn)) := Lib.hid (fun W hW => by
                    have k : ∀ {a : Addr} {v : Value}, wr.cell? a = some v → W.cell? a = some v := fun {a v} hc => (hW.cell (World.block_lt_of_cell? _ _ hc)).trans hc
                    exact ⟨k d0, k d1, k d2⟩)
                  clear hka
                  generalize lensT q8 j = n1 at HNT
                  rw [HNT.out] at hlt
                  have hgl := World.block_lt_of_cell? _ _ d0
                  clear hc9 hpt HPC
                  go_wp2_with fail
                  clear d0 d1 d2 hgl
                  have W9 : Hid (Below wr.heap.size wr wr) := Lib.hid (Below.refl _ _)
                  go_loopw [13, 14] (fun v13 v14 wq => ∃ (t : Nat), t ≤ P.length ∧ v13 = .int .i64 (if a < t then (a : Int) else -1) ∧ v14 = .int .i64 (t : Int) ∧ Hid (Below wr.heap.size wr wq)) (fun _ v14 _ => P.length - (RowKit.intOf v14).toNat)
                  case atStart => exact ⟨0, by omega, by simp, rfl, W9⟩
                  case round =>
                    obtain ⟨t, ht, rfl, rfl, WQ⟩ := hrel
                    clear W9
                    have HXQ := HXC.out _ WQ.out
                    obtain ⟨adP, capP, e, _, hcP⟩ := (P9.out.below WQ.out)
                    simp only [Value.slice.injEq, true_and] at e
                    obtain ⟨rfl, rfl⟩ := e
                    obtain ⟨bP, oP, rfl, hptP⟩ := hcP (by omega)
                    obtain ⟨g0, g1, g2⟩ := HXQ
                    have hglX := World.block_lt_of_cell? _ _ g0
                    have HP3' := HP3.out
                    by_cases hp4 : t < P.length
                    · have dP := hptP t hp4
                      have HPT2 := Lib.hid hp4
                      have q9 := HKA.out t hp4
                      obtain ⟨f0, f1, f2, fn⟩ := dP
                      have hglP := World.block_lt_of_cell? _ _ f0
                      generalize P[t].o = yo at f0 q9
                      generalize P[t].s = ys at f1 q9
                      clear f2 fn hptP hcP
                      by_cases hta : t = a
                      · subst hta
                        have qq : ∀ W, (Op.equalIn 10000 31 (.agg #[.int .i64 yo, .int .i64 ys]) (.agg #[.int .i64 xo, .int .i64 xs])).run Tryz.prog W = .ok true W := fun W => by rw [eq_key, q9]; simp
                        clear q9
                        go_wp2_with fail
                        go_quiet (fail)
                        go_wp2_with fail
                        go_roundw
                        case rel => exact ⟨t + 1, HPT2.out, by rw [if_pos (Nat.lt_succ_self t)], by go_num, Lib.hid (bn WQ.out (Go.Proofs.YtdjlgiinekighaaGreatDoor.P.below_drewN (Below.refl _ _) _))⟩
                        case measure => have := HPT2.out; simp [RowKit.intOf]; omega
                      · have qq : ∀ W, (Op.equalIn 10000 31 (.agg #[.int .i64 yo, .int .i64 ys]) (.agg #[.int .i64 xo, .int .i64 xs])).run Tryz.prog W = .ok false W := fun W => by rw [eq_key, q9]; simp [hta]
                        have HIF : Hid ((if a < t then (a : Int) else -1) = (if a < t + 1 then (a : Int) else -1)) := Lib.hid (by
                          by_cases h1 : a < t
                          · rw [if_pos h1, if_pos (by omega)]
                          · rw [if_neg h1, if_neg (by omega)])
                        clear q9 hta
                        generalize (if a < t then (a : Int) else -1) = vt at *
                        go_wp2_with fail
                        go_quiet (fail)
                        go_wp2_with fail
                        go_roundw
                        case rel => exact ⟨t + 1, HPT2.out, by rw [HIF.out], by go_num, Lib.hid (bn WQ.out (Go.Proofs.YtdjlgiinekighaaGreatDoor.P.below_drewN (Below.refl _ _) _))⟩
                        case measure => have := HPT2.out; simp [RowKit.intOf]; omega
                    · have htl : t = P.length := by omega
                      subst htl
                      rw [if_pos ha]
                      obtain ⟨f0, f1, f2, fn⟩ := hptP a ha
                      have hglP := World.block_lt_of_cell? _ _ f0
                      obtain ⟨anP, cnP, enP, _⟩ := fn.form
                      rw [enP] at f2
                      generalize P[a].ns.length = lp at f2 hna
                      have hna1 : ¬ (a : Int) < 0 := by omega
                      have hna2 : ¬ (lp : Int) < (ln : Int) := by omega
                      have hna3 : decide ((a : Int) < 0) = false := by simp [hna1]
                      have hna4 : decide ((lp : Int) < (ln : Int)) = false := by simpa using hna2
                      clear enP fn hptP hcP
                      go_wp2_with fail
                      go_quiet (fail)
                      go_wp2_with fail
                      go_roundw
                      case rel => exact ⟨j + 1, HP3.out, by rw [HNT.out]; go_num, by go_num, Lib.hid (H9.out.below (bn WQ.out (Go.Proofs.YtdjlgiinekighaaGreatDoor.P.below_drewN (Below.refl _ _) _))), Lib.hid (bn B9.out (bn WQ.out (Go.Proofs.YtdjlgiinekighaaGreatDoor.P.below_drewN (Below.refl _ _) _))), Lib.hid (D9.out.below (bn WQ.out (Go.Proofs.YtdjlgiinekighaaGreatDoor.P.below_drewN (Below.refl _ _) _))), Lib.hid (P9.out.below (bn WQ.out (Go.Proofs.YtdjlgiinekighaaGreatDoor.P.below_drewN (Below.refl _ _) _))), Lib.hid (Q9.out.below (bn WQ.out (Go.Proofs.YtdjlgiinekighaaGreatDoor.P.below_drewN (Below.refl _ _) _)))⟩
                      case measure => have := HP3.out; simp [RowKit.intOf]; omega
                · have hjl : j = q8.length := by omega
                  subst hjl
                  clear Q9
                  go_wp2_with fail
                  go_roundw
                  case rel => exact ⟨i + 1, HP2.out, by rw [HNW.out, lensT_all], by go_num, H9, B9, D9, P9⟩
                  case measure => have := HP2.out; simp [RowKit.intOf]; omega
          · have hil : i = ws.length := by omega
            subst hil
            rw [List.take_length, HTO.out]
            clear D7 W6 HTO
            go_wp2_with fail
            go_loopw [15, 16] (fun v15 v16 wq => ∃ (t : Nat), t ≤ P.length ∧ v15 = .int .i64 ((lensT P t : Nat) : Int) ∧ v16 = .int .i64 (t : Int) ∧ Hid (Below w.heap.size w wq) ∧ Hid (PRd wq (.slice A5 P.length C5) P)) (fun _ v16 _ => P.length - (RowKit.intOf v16).toNat)
            case atStart => exact ⟨0, by omega, rfl, rfl, B7, P7⟩
            case round =>
              obtain ⟨t, ht, rfl, rfl, B9, P9⟩ := hrel
              clear B7 P7 H7
              by_cases hp3 : t < P.length
              · obtain ⟨ad9, cap9, e, _, hc9⟩ := P9.out
                simp only [Value.slice.injEq, true_and] at e
                obtain ⟨rfl, rfl⟩ := e
                obtain ⟨b9, o9, rfl, hpt⟩ := hc9 (by omega)
                have HNT := Lib.hid (lensT_next P t hp3)
                have hlt : lensT P (t + 1) ≤ 2400 := by
                  have := lensT_le P (t + 1)
                  have := HPL.out
                  omega
                have HP3 := Lib.hid hp3
                obtain ⟨d0, d1, d2, dn⟩ := hpt t hp3
                obtain ⟨an, cn, en, _⟩ := dn.form
                rw [en] at d2
                generalize P[t].ns.length = ln at d2 HNT
                generalize lensT P t = n1 at HNT
                rw [HNT.out] at hlt
                have hgl := World.block_lt_of_cell? _ _ d2
                clear hc9 dn en hpt d0 d1
                go_wp2_with fail
                go_roundw
                case rel => exact ⟨t + 1, HP3.out, by rw [HNT.out]; go_num, by go_num, B9, P9⟩
                case measure => have := HP3.out; simp [RowKit.intOf]; omega
              · have htl : t = P.length := by omega
                subst htl
                rw [lensT_all]
                go_wp2_with fail
                refine (Go.Proofs.YtdjlgiinekighaaGreatDoor.P.may_c P (.slice A5 P.length C5) _ P9.out (by omega) (fun x hx => Nat.le_trans (HPX.out x hx) (by omega))).mono ?_
                rintro e w9 ⟨rfl, b9⟩
                rw [E5.out, HMY.out]
                have B10 := Lib.hid (bn B9.out b9)
                clear b9 B9 P9
                go_wp2_with fail
                refine (awake_c _ (HR.out.below B10.out) (HT.out.below B10.out)).mono ?_
                rintro e w17 ⟨rfl, b17⟩
                go_wp2
                go_ret
                exact ⟨rfl, bn B10.out b17⟩
end Go.Proofs.YtdjlgiinekighaaGreatDoor
namespace Go.Proofs.YtdjlgiinekighaaGreatDoor
open Go.RowKit Go.ChangeShapes Go.WideShapes Go.ChangeAt Go.Deep

set_option maxRecDepth 100000 in
theorem prefixes_lifted (os : Os) (started : os.Started) (H : Type) (enc : TypeId × Value → H) :
    ReturnsInHanded {} Tryz.checked os 6 .any (fun w args => (Rows.indexPrefixesSpec.pre enc Tryz.prog Tryz.f6 [] false w args ∧ laidMetH Tryz.prog Rows.indexPrefixesRow.laid w) ∧ sizedMet enc Tryz.prog Tryz.f6 (OpenSpec.ofChange Rows.indexPrefixesSpec) false w args)
      (Rows.indexPrefixesSpec.post enc Tryz.prog Tryz.f6 false true false false) := by
  refine laid_lift (C := Tryz.checked) (L := seatLaid) own started (by kernel_rfl) Tryz.func6
    (ChangeSpec.witness_shaped (enc := enc) (C := Tryz.checked) (os := os) (X := fun w _ => laidMetH Tryz.prog seatLaid w) false (World.laidAll Tryz.prog os seatLaid) #[.slice none 0 0, .string ⟨#[]⟩] 8 (World.laidAll_os _ _ _)
      (World.shaped_of_ZipB (by kernel_rfl) (by kernel_rfl)) (by kernel_rfl) (by kernel_rfl) (by kernel_rfl) (laid_world os _)) laidOut
    (by rw [Tryz.params6]; exact of_decide_eq_true (by kernel_rfl)) rfl 4 Tryz.underlying4 (by kernel_rfl)
    (fun ds h => by
      rw [Tryz.params6] at h
      match ds, h with
      | [_, _], _ => rfl) ?_
  intro W base args ds ps hval hA hL
  rw [Tryz.params6] at hA hval
  have hT := tabs_of_laid W hL
  obtain ⟨v0, v1, d0, d1, p0, p1, rfl, rfl, rfl, h0, h1⟩ := trodAll_two hA
  obtain ⟨l, hl, hs, hm⟩ := R.open_recs (hval 0 27 v0 rfl rfl) h0
  obtain ⟨s, rfl, rfl, rfl, ws⟩ := Go.ChangeMaps.open_string Tryz.underlying9 (hval 1 9 v1 rfl rfl) h1
  have e : s = (⟨s.data.toList.toArray⟩ : ByteArray) := by simp
  rw [e]
  exact prefixes_law l v0 s.data.toList W hl hs hm hT.1 hT.2

theorem prefixes_holds : Rows.IndexPrefixesSaid :=
  OpenClaim.holds_of_wide 6 Tryz.f6 rfl rfl rfl rfl rfl rfl rfl ⟨rfl, rfl, rfl, rfl, rfl⟩ rfl rfl rfl rfl rfl (by kernel_rfl) Tryz.func6 (by kernel_rfl)
    (of_decide_eq_true (by kernel_rfl)) (by unfold Func.isWrapper; first | (rw [if_pos (by decide +kernel)]; kernel_rfl) | (rw [if_neg (by decide +kernel)]; exact ⟨rfl, rfl⟩))
    (fun os started H enc _ => prefixes_lifted os started H enc)

theorem prefixes_card : Rows.IndexPrefixesCardSaid :=
  Claim7.holds_tied_plain_at .later [] _ _ _ _ prefixes_holds (fun _ h => by cases h) (by kernel_rfl) (fun _ h => by cases h) indexPrefixes_row_tie rfl ⟨rfl, rfl⟩ (by kernel_rfl) rfl
    (fun f fn hf hfn => by
      obtain rfl : f = 6 := Option.some.inj ((show Tryz.prog.funcNamed Rows.indexPrefixesRow.func = some 6 by kernel_rfl).symm.trans hf) |>.symm
      obtain rfl : fn = Tryz.f6 := (Option.some.inj (Tryz.func6.symm.trans hfn)).symm
      exact ⟨by kernel_rfl, fun j t ht => by
        rw [Tryz.params6] at ht
        have hm : t ∈ [27, 9] := by simpa using Array.mem_of_getElem? ht
        have hall : ([27, 9].all fun u => !Tryz.prog.wantsStandIn u) = true := by kernel_rfl
        exact (show Tryz.prog.wantsStandIn t = false by simpa using List.all_eq_true.1 hall t hm)⟩)
    (by kernel_rfl)
#print axioms prefixes_card
end Go.Proofs.YtdjlgiinekighaaGreatDoor
