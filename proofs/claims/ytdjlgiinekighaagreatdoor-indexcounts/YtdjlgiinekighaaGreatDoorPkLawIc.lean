/-
  PROVED: IndexCounts answers true, whatever records it is given. Conditions: the library's listed variables hold what the program's text, and the pinned tables, lay (the card ties them).
-/
import Derived.Test.YtdjlgiinekighaaGreatDoorPkIc
import Derived.Test.YtdjlgiinekighaaGreatDoorPkIl
namespace Go.Proofs.YtdjlgiinekighaaGreatDoor
open Go.RowKit Go.Lib Go.Sort Go.Shelf Go.Maps Go.Proofs.YtdjlgiinekighaaGreatDoor.P Go.Proofs
set_option maxRecDepth 100000
set_option linter.unusedSimpArgs false

set_option maxHeartbeats 16000000 in
theorem counts_law (l : List R.Rc) (v : Value) (w : World) (h : R.Rl w v l) (hs : ∀ x ∈ l, x.t.size ≤ 9223372036854775807) (hl : l.length ≤ maxLen) (hR : R.Tabs w) (hT : T.Tabs w) :
    Calls Tryz.prog 7 #[v] w fun e w' => e = .returned (.bool true) ∧ Below w.heap.size w w' := by
  have mixed : Tryz.prog.follows .mixedOrders = true := by kernel_rfl
  have HG := Lib.hid (R.great_c l v 25 w h (by omega) hl)
  have HR := Lib.hid hR
  have HT := Lib.hid hT
  cases hg : R.greatB l 25 with
  | true =>
    rw [hg] at HG
    clear hg h hs hl hR hT
    go_enter Tryz.func7, Tryz.ntmps7
    go_wp2_with fail
    refine HG.out.mono ?_
    rintro e w1 ⟨rfl, b1⟩
    go_wp2_with fail
    refine (awake_c w1 (HR.out.below b1) (HT.out.below b1)).mono ?_
    rintro e w2 ⟨rfl, b2⟩
    go_wp2
    go_ret
    exact ⟨rfl, bn b1 b2⟩
  | false =>
    rw [hg] at HG
    have hln : l.length ≤ 25 := (R.greatB_no hg).1
    obtain ⟨ad, cap, rfl, _, _⟩ := id h.form
    have HRL := Lib.hid h
    have HSZ := Lib.hid hs
    clear hg h hs hl hR hT
    go_enter Tryz.func7, Tryz.ntmps7
    go_wp2_with fail
    refine HG.out.mono ?_
    rintro e w1 ⟨rfl, b1⟩
    have B1 := Lib.hid b1
    clear b1 HG
    go_wp2_with fail
    refine (new_c w1).mono ?_
    rintro e w2 ⟨p, own, rfl, h2, o2, b2⟩
    have H2 := Lib.hid h2
    have B2 := Lib.hid (bn B1.out b2)
    have O2 : Hid (∀ i, own i → w.heap.size ≤ i) := Lib.hid (fun i hi => Nat.le_trans B1.out.size (o2 i hi))
    clear h2 o2 b2 B1
    go_wp2_with fail
    go_loopw [4, 6, 7] (fun v4 v6 v7 wr => ∃ (i : Nat) (own' : Nat → Prop), i ≤ l.length ∧ v4 = .int .i64 ((cntS (putSs (l.take i)) : Nat) : Int) ∧ v6 = .int .i64 (((putSs (l.take i)).length : Nat) : Int) ∧ v7 = .int .i64 (i : Int) ∧ Hid (Ix wr p (putSs (l.take i)) (200 * i) own') ∧ Hid (Below w.heap.size w wr) ∧ Hid (∀ j, own' j → w.heap.size ≤ j)) (fun _ _ v7 _ => l.length - (RowKit.intOf v7).toNat)
    case atStart => exact ⟨0, own, by omega, rfl, rfl, rfl, H2, B2, O2⟩
    case round =>
      obtain ⟨i, own', hi, rfl, rfl, rfl, H3, B3, O3⟩ := hrel
      clear H2 B2 O2
      by_cases hp : i < l.length
      · obtain ⟨ad2, cap2, e, _, hc⟩ := (HRL.out.below B3.out).form
        simp only [Value.slice.injEq, true_and] at e
        obtain ⟨rfl, rfl⟩ := e
        obtain ⟨b, o, rfl, hrc⟩ := hc (by omega)
        have hx := hrc i hp
        have HNX := Lib.hid (putSs_next l i hp)
        have HSX := Lib.hid (HSZ.out _ (List.getElem_mem hp))
        have HP := Lib.hid hp
        generalize hr : l[i] = r at hx HNX HSX
        have HRI := Lib.hid hr
        clear hr
        have hcl : cntS (putSs (l.take i)) ≤ 3000 := by
          have h1 := cntS_le (good_all (l.take i))
          have h2 := putSs_len (l.take i)
          rw [List.length_take] at h2
          omega
        have hsl : (putSs (l.take i)).length ≤ 25 := by
          have h2 := putSs_len (l.take i)
          rw [List.length_take] at h2
          omega
        generalize putSs (l.take i) = S at *
        obtain ⟨x0, x1, x2, x3, x4⟩ := hx
        have hgl := World.block_lt_of_cell? _ _ x0
        have CP := Lib.hid (put_c p (200 * i) S own' r wr H3.out (by omega) HSX.out (HR.out.below B3.out) (HT.out.below B3.out))
        have HX4 := Lib.hid x4
        have HPC := Lib.hid (put_cases S r)
        go_wp2_with fail
        refine CP.out.mono ?_
        rintro e w4 ⟨own4, rfl, h4, t4, o4⟩
        have B4 : Hid (Below w.heap.size w w4) := Lib.hid (B3.out.trans (t4.below B3.out.size O3.out))
        have O4 : Hid (∀ j, own4 j → w.heap.size ≤ j) := Lib.hid (fun j hj => (o4 j hj).elim (O3.out j) (fun h => Nat.le_trans B3.out.size h))
        clear x0 x1 x2 x3 x4 hgl CP hrc hc t4 o4
        rcases HPC.out with ⟨hc0, hmy, hps⟩ | ⟨hc0, hps⟩
        · rw [hc0]
          have H4 : Hid (Ix w4 p (putSs (l.take (i + 1))) (200 * (i + 1)) own4) := Lib.hid (by rw [HNX.out]; exact h4.few (by omega))
          have hmm := hmy
          simp only [R.mayR, Bool.and_eq_true] at hmm
          obtain ⟨rs, hok, hen, hz, hrl⟩ := may_text hmm.2.2
          have hwo := wordsOf_eq hok hen
          have hwf := (words_few hrl).1
          have CO := Lib.hid (T.of_ok rs r.t w4 hok hen hz (HT.out.below B4.out))
          have HC2 : Hid (cntS (putSs (l.take (i + 1))) = cntS S + (GvTok.words rs).length) := Lib.hid (by rw [HNX.out, hps, cntS_snoc, hwo])
          have HL2 : Hid ((putSs (l.take (i + 1))).length = S.length + 1) := Lib.hid (by rw [HNX.out, hps]; simp)
          obtain ⟨ad3, cap3, e3, _, hc3⟩ := (HRL.out.below B4.out).form
          simp only [Value.slice.injEq, true_and] at e3
          obtain ⟨rfl, rfl⟩ := e3
          obtain ⟨b', o', e4, hrc4⟩ := hc3 (by omega)
          simp only [Option.some.injEq, Addr.mk.injEq, and_true] at e4
          obtain ⟨rfl, rfl⟩ := e4
          have y4 := (hrc4 i HP.out).2.2.2.2
          have hgl := World.block_lt_of_cell? _ _ y4
          have HY4 : Hid (w4.cell? ⟨b, o + i * 5 + 4, none⟩ = some (.string r.t)) := Lib.hid (by have e := HRI.out; generalize l[i] = z at y4 e; subst e; exact y4)
          clear hc0 hmy hps hmm hok hen hz hrl hwo h4 HPC hrc4 hc3 y4
          have y4 := HY4.out
          generalize GvTok.words rs = tw at *
          go_wp2_with fail
          refine CO.out.mono ?_
          rintro e w5 ⟨v5, rfl, hw5, b5⟩
          obtain ⟨A5, C5, rfl, _⟩ := own_form hw5
          have H5 := Lib.hid (H4.out.below b5)
          have B5 := Lib.hid (bn B4.out b5)
          clear hw5 b5 y4 hgl
          go_wp2_with fail
          go_roundw
          case rel => exact ⟨i + 1, own4, HP.out, by rw [HC2.out]; go_num, by rw [HL2.out]; go_num, by go_num, H5, B5, O4⟩
          case measure => have := HP.out; simp [RowKit.intOf]; omega
        · have H4 : Hid (Ix w4 p (putSs (l.take (i + 1))) (200 * (i + 1)) own4) := Lib.hid (by rw [HNX.out]; exact h4.few (by omega))
          have HSE : Hid (putSs (l.take (i + 1)) = S) := Lib.hid (by rw [HNX.out, hps])
          clear hps h4 HPC
          rcases hc0 with hc0 | hc0
          all_goals
            rw [hc0]
            clear hc0
            go_wp2_with fail
            go_roundw
            case rel => exact ⟨i + 1, own4, HP.out, by rw [HSE.out], by rw [HSE.out], by go_num, H4, B4, O4⟩
            case measure => have := HP.out; simp [RowKit.intOf]; omega
      · have hil : i = l.length := by omega
        subst hil
        have hgd := good_all l
        have hsl := putSs_len l
        have hcl := cntS_le hgd
        have H5 : Hid (Ix wr p (putSs l) 10000 own') := Lib.hid (by
          have := H3.out
          rw [List.take_length] at this
          exact this.few (by omega))
        rw [List.take_length]
        have HGD := Lib.hid hgd
        clear H3 hgd HSZ HRL
        generalize putSs l = S at *
        go_wp2_with fail
        refine (words_c p 10000 S own' wr H5.out (by omega)).mono ?_
        rintro e w6 ⟨v6, ws, rfl, r6, hw6, hwn, b6⟩
        obtain ⟨A6, C6, rfl, _⟩ := own_form r6
        have R6 := Lib.hid r6
        have W6 := Lib.hid hw6
        have H6 := Lib.hid (H5.out.below b6)
        have B6 := Lib.hid (bn B3.out b6)
        have HTO : Hid (lensW S ws = cntS S) := Lib.hid (lens_all S ws H5.out.nd hw6)
        clear r6 hw6 b6 H5 B3
        go_wp2_with fail
        have D6 := Lib.hid (StrRow.rd R6.out)
        clear R6
        go_loopw [5, 9] (fun v5 v9 wr => ∃ (i : Nat), i ≤ ws.length ∧ v5 = .int .i64 ((lensW S (ws.take i) : Nat) : Int) ∧ v9 = .int .i64 (i : Int) ∧ Hid (Ix wr p S 10000 own') ∧ Hid (Below w.heap.size w wr) ∧ Hid (StrRd wr (.slice A6 ws.length C6) ws)) (fun _ v9 _ => ws.length - (RowKit.intOf v9).toNat)
        case atStart => exact ⟨0, by omega, rfl, rfl, H6, B6, D6⟩
        case round =>
          obtain ⟨i, hi2, rfl, rfl, H7, B7, D7⟩ := hrel
          clear H6 B6 D6
          by_cases hp2 : i < ws.length
          · obtain ⟨ad3, cap3, e, _, hc⟩ := D7.out
            simp only [Value.slice.injEq, true_and] at e
            obtain ⟨rfl, rfl⟩ := e
            obtain ⟨b, o, rfl, hst⟩ := hc (by omega)
            have hw := (W6.out.2 ws[i]).1 (List.getElem_mem hp2)
            obtain ⟨k0, hk0⟩ := hw
            have hwl := H7.out.word_len hk0
            have c1 := hst i hp2
            have CW := Lib.hid (word_c p 10000 S own' ws[i] _ H7.out hwl (by omega))
            have HP2 := Lib.hid hp2
            have HNW := Lib.hid (lensW_next S ws i hp2)
            have hlw : lensW S (ws.take (i + 1)) ≤ 3000 := by
              have h1 := lensW_le S ws (i + 1)
              have h2 := HTO.out
              omega
            have HND := Lib.hid (lstS_nd S ws[i] H7.out.nd)
            have hgl := World.block_lt_of_cell? _ _ c1
            generalize ws[i] = ti at c1 CW HNW HND
            generalize lensW S (ws.take i) = n0 at HNW
            rw [HNW.out] at hlw
            clear hst hk0 hwl hc
            go_wp2_with fail
            refine CW.out.mono ?_
            rintro e w8 ⟨v8, q8, rfl, h8, e8, b8⟩
            obtain ⟨A8, C8, rfl, _⟩ := own_form h8.row
            rw [← e8] at HNW HND hlw
            have H8 := Lib.hid (H7.out.below b8)
            have B8 := Lib.hid (bn B7.out b8)
            have D8 := Lib.hid (D7.out.below b8)
            have P8 := Lib.hid h8.rd
            have hq8 : q8.length ≤ 10000 := by
              have h1 := congrArg List.length e8
              have h2 := lstS_len S ti
              unfold ps at h1
              rw [List.length_map] at h1
              omega
            clear e8 h8 b8 CW c1 hgl H7 B7 D7
            go_wp2_with fail
            go_loopw [5, 11] (fun v5 v11 wr => ∃ (j : Nat), j ≤ q8.length ∧ v5 = .int .i64 ((n0 + lensT q8 j : Nat) : Int) ∧ v11 = .int .i64 (j : Int) ∧ Hid (Ix wr p S 10000 own') ∧ Hid (Below w.heap.size w wr) ∧ Hid (StrRd wr (.slice (some ⟨b, o, none⟩) ws.length C6) ws) ∧ Hid (PRd wr (.slice A8 q8.length C8) q8)) (fun _ v11 _ => q8.length - (RowKit.intOf v11).toNat)
            case atStart => exact ⟨0, by omega, rfl, rfl, H8, B8, D8, P8⟩
            case round =>
              obtain ⟨j, hj, rfl, rfl, H9, B9, D9, P9⟩ := hrel
              clear H8 B8 D8 P8
              by_cases hp3 : j < q8.length
              · obtain ⟨ad9, cap9, e, _, hc9⟩ := P9.out
                simp only [Value.slice.injEq, true_and] at e
                obtain ⟨rfl, rfl⟩ := e
                obtain ⟨b9, o9, rfl, hpt⟩ := hc9 (by omega)
                have p1 := hpt j hp3
                have HPT := Lib.hid hpt
                have HNT := Lib.hid (lensT_next q8 j hp3)
                have hlt : n0 + lensT q8 (j + 1) ≤ 3000 := by
                  have := lensT_le q8 (j + 1)
                  omega
                have HP3 := Lib.hid hp3
                have HKE : Hid (∀ t, (ht : t + 1 = j) → (q8[j].o == (q8[t]'(by omega)).o && q8[j].s == (q8[t]'(by omega)).s) = false) := Lib.hid (fun t ht => keys_apart HND.out (by omega) hp3 (by omega))
                obtain ⟨d0, d1, d2, dn⟩ := p1
                obtain ⟨an, cn, en, _⟩ := dn.form
                rw [en] at d2
                generalize q8[j].ns.length = ln at d2 HNT
                generalize lensT q8 j = n1 at HNT
                rw [HNT.out] at hlt
                have hgl := World.block_lt_of_cell? _ _ d0
                clear hc9 dn en hpt
                by_cases h0 : j = 0
                · subst h0
                  clear HKE HPT
                  simp only [Nat.zero_mul, Nat.add_zero] at d0 d1 d2
                  go_wp2_with fail
                  go_quiet (fail)
                  go_wp2_with fail
                  go_roundw
                  case rel => exact ⟨0 + 1, HP3.out, by rw [HNT.out]; go_num, by go_num, Lib.hid (H9.out.below (Go.Proofs.YtdjlgiinekighaaGreatDoor.P.below_drewN (Below.refl _ _) _)), Lib.hid (bn B9.out (Go.Proofs.YtdjlgiinekighaaGreatDoor.P.below_drewN (Below.refl _ _) _)), Lib.hid (D9.out.below (Go.Proofs.YtdjlgiinekighaaGreatDoor.P.below_drewN (Below.refl _ _) _)), Lib.hid (P9.out.below (Go.Proofs.YtdjlgiinekighaaGreatDoor.P.below_drewN (Below.refl _ _) _))⟩
                  case measure => have := HP3.out; simp [RowKit.intOf]; omega
                · obtain ⟨t, rfl⟩ : ∃ t, j = t + 1 := ⟨j - 1, by omega⟩
                  obtain ⟨f0, f1, f2, fn⟩ := HPT.out t (by omega)
                  have q9 := HKE.out t rfl
                  have hp3' := HP3.out
                  have e3 : decide ((0 : Int) < (t : Int) + 1) = true := by rw [decide_eq_true_eq]; omega
                  have e4 : (0 : Int) < (t : Int) + 1 := by omega
                  have hb2 : (t : Int) + 1 < (q8.length : Int) := by omega
                  have hb4 : (t : Int) < (q8.length : Int) := by omega
                  have hb1 : (0 : Int) ≤ (t : Int) + 1 := by omega
                  have hb3 : (0 : Int) ≤ (t : Int) := by omega
                  have hwj : IntKind.i64.wrap (t : Int) = (t : Int) := by rw [IntKind.wrap_i64]; omega
                  generalize q8[t + 1].o = xo at d0 q9
                  generalize q8[t + 1].s = xs at d1 q9
                  generalize (q8[t]'(by omega)).o = yo at f0 q9
                  generalize (q8[t]'(by omega)).s = ys at f1 q9
                  have qq : ∀ W, (Op.equalIn 10000 31 (.agg #[.int .i64 xo, .int .i64 xs]) (.agg #[.int .i64 yo, .int .i64 ys])).run Tryz.prog W = .ok false W := fun W => by rw [eq_key, q9]
                  clear HKE HPT q9 fn f2 h0
                  go_wp2_with fail
                  go_quiet (fail)
                  go_wp2_with fail
                  go_roundw
                  case rel => exact ⟨t + 1 + 1, HP3.out, by rw [HNT.out]; go_num, by go_num, Lib.hid (H9.out.below (Go.Proofs.YtdjlgiinekighaaGreatDoor.P.below_drewN (Below.refl _ _) _)), Lib.hid (bn B9.out (Go.Proofs.YtdjlgiinekighaaGreatDoor.P.below_drewN (Below.refl _ _) _)), Lib.hid (D9.out.below (Go.Proofs.YtdjlgiinekighaaGreatDoor.P.below_drewN (Below.refl _ _) _)), Lib.hid (P9.out.below (Go.Proofs.YtdjlgiinekighaaGreatDoor.P.below_drewN (Below.refl _ _) _))⟩
                  case measure => have := HP3.out; simp [RowKit.intOf]; omega
              · have hjl : j = q8.length := by omega
                subst hjl
                clear P9
                go_wp2_with fail
                go_roundw
                case rel => exact ⟨i + 1, HP2.out, by rw [HNW.out, lensT_all], by go_num, H9, B9, D9⟩
                case measure => have := HP2.out; simp [RowKit.intOf]; omega
          · have hil : i = ws.length := by omega
            subst hil
            rw [List.take_length, HTO.out]
            clear D7 W6 HTO
            have hup := H7.out.up
            have HOW := O3
            have CK := Lib.hid (keys_c p 10000 S own' _ H7.out (by omega))
            have HKS : Hid (∀ k ∈ srtK (S.map Prod.fst), okKy k) := Lib.hid (fun k hk => by
              obtain ⟨x, hx, rfl⟩ := List.mem_map.1 ((srtK_perm _).mem_iff.1 hk)
              have := (HGD.out x hx).2
              simp only [R.keyB, Bool.and_eq_true, decide_eq_true_eq] at this
              unfold okKy inR
              omega)
            have hkl : (srtK (S.map Prod.fst)).length = S.length := by rw [srtK_len, List.length_map]
            have HDA : Hid (dropSs S (srtK (S.map Prod.fst)) = []) := Lib.hid (dropSs_all _ S fun k hk => (srtK_perm _).mem_iff.2 hk)
            generalize srtK (S.map Prod.fst) = kl at *
            go_wp2_with fail
            refine CK.out.mono ?_
            rintro e w9 ⟨v9, rfl, r9, b9⟩
            have HKR : Hid (∀ W, Turn own' w9 W → KRd W v9 kl) := Lib.hid (fun W t => KRow.rd (show KRow W _ v9 kl from ownsRow_of_block r9 fun g hg => t.block g (World.ownsRow.lt r9 g hg).2 (fun ho => by have h1 := hup g ho; have h2 := (World.ownsRow.lt r9 g hg).1; omega)))
            obtain ⟨A9, C9, rfl, _⟩ := own_form r9
            have H9 := Lib.hid (H7.out.below b9)
            have B9 := Lib.hid (bn B7.out b9)
            clear r9 b9 hup H7 B7 CK
            rw [hkl]
            go_wp2_with fail
            refine (drop_c p 10000 S own' _ kl w9 H9.out (by rw [hkl] at HKR; exact HKR.out) HKS.out (by omega) (by omega)).mono ?_
            rintro e w10 ⟨rfl, h10, t10⟩
            rw [HDA.out] at h10 ⊢
            have H10 := Lib.hid h10
            have B10 := Lib.hid (B9.out.trans (t10.below B9.out.size O3.out))
            clear h10 t10 H9 B9 HKR
            go_wp2_with fail
            refine (words_c p 10000 [] own' w10 H10.out (by omega)).mono ?_
            rintro e w11 ⟨v11, ws11, rfl, r11, hw11, _, b11⟩
            obtain rfl := words_none hw11
            obtain ⟨A11, C11, rfl, _⟩ := own_form r11
            have H11 := Lib.hid (H10.out.below b11)
            have B11 := Lib.hid (bn B10.out b11)
            clear r11 hw11 b11 H10 B10
            go_wp2_with fail
            refine (new_c w11).mono ?_
            rintro e w12 ⟨p12, own12, rfl, h12, _, b12⟩
            have H12 := Lib.hid (H11.out.below b12)
            have B12 := Lib.hid (bn B11.out b12)
            have CS := Lib.hid (same_c p p12 10000 0 [] [] own' own12 w12 H12.out h12)
            rw [same_none] at CS
            clear h12 b12 H11 B11 H12
            go_wp2_with fail
            refine CS.out.mono ?_
            rintro e w13 ⟨rfl, b13⟩
            have B13 := Lib.hid (bn B12.out b13)
            clear b13 B12 CS
            go_wp2_with fail
            refine (awake_c _ (HR.out.below B13.out) (HT.out.below B13.out)).mono ?_
            rintro e w17 ⟨rfl, b17⟩
            go_wp2
            go_ret
            exact ⟨rfl, bn B13.out b17⟩
end Go.Proofs.YtdjlgiinekighaaGreatDoor
namespace Go.Proofs.YtdjlgiinekighaaGreatDoor
open Go.RowKit Go.ChangeShapes Go.WideShapes Go.ChangeAt Go.Deep

set_option maxRecDepth 100000 in
theorem counts_lifted (os : Os) (started : os.Started) (H : Type) (enc : TypeId × Value → H) :
    ReturnsInHanded {} Tryz.checked os 7 .any (fun w args => (Rows.indexCountsSpec.pre enc Tryz.prog Tryz.f7 [] false w args ∧ laidMetH Tryz.prog Rows.indexCountsRow.laid w) ∧ sizedMet enc Tryz.prog Tryz.f7 (OpenSpec.ofChange Rows.indexCountsSpec) false w args)
      (Rows.indexCountsSpec.post enc Tryz.prog Tryz.f7 false true false false) := by
  refine laid_lift (C := Tryz.checked) (L := seatLaid) own started (by kernel_rfl) Tryz.func7
    (ChangeSpec.witness_shaped (enc := enc) (C := Tryz.checked) (os := os) (X := fun w _ => laidMetH Tryz.prog seatLaid w) false (World.laidAll Tryz.prog os seatLaid) #[.slice none 0 0] 8 (World.laidAll_os _ _ _)
      (World.shaped_of_ZipB (by kernel_rfl) (by kernel_rfl)) (by kernel_rfl) (by kernel_rfl) (by kernel_rfl) (laid_world os _)) laidOut
    (by rw [Tryz.params7]; exact of_decide_eq_true (by kernel_rfl)) rfl 4 Tryz.underlying4 (by kernel_rfl)
    (fun ds h => by
      rw [Tryz.params7] at h
      match ds, h with
      | [_], _ => rfl) ?_
  intro W base args ds ps hval hA hL
  rw [Tryz.params7] at hA hval
  have hT := tabs_of_laid W hL
  obtain ⟨v0, d0, rfl, rfl, h0⟩ := trodAll_one hA
  obtain ⟨l, hl, hs, hm⟩ := R.open_recs (hval 0 27 v0 rfl rfl) h0
  exact counts_law l v0 W hl hs hm hT.1 hT.2

theorem counts_holds : Rows.IndexCountsSaid :=
  OpenClaim.holds_of_wide 7 Tryz.f7 rfl rfl rfl rfl rfl rfl rfl ⟨rfl, rfl, rfl, rfl, rfl⟩ rfl rfl rfl rfl rfl (by kernel_rfl) Tryz.func7 (by kernel_rfl)
    (of_decide_eq_true (by kernel_rfl)) (by unfold Func.isWrapper; first | (rw [if_pos (by decide +kernel)]; kernel_rfl) | (rw [if_neg (by decide +kernel)]; exact ⟨rfl, rfl⟩))
    (fun os started H enc _ => counts_lifted os started H enc)

theorem counts_card : Rows.IndexCountsCardSaid :=
  Claim7.holds_tied_plain_at .later [] _ _ _ _ counts_holds (fun _ h => by cases h) (by kernel_rfl) (fun _ h => by cases h) indexCounts_row_tie rfl ⟨rfl, rfl⟩ (by kernel_rfl) rfl
    (fun f fn hf hfn => by
      obtain rfl : f = 7 := Option.some.inj ((show Tryz.prog.funcNamed Rows.indexCountsRow.func = some 7 by kernel_rfl).symm.trans hf) |>.symm
      obtain rfl : fn = Tryz.f7 := (Option.some.inj (Tryz.func7.symm.trans hfn)).symm
      exact ⟨by kernel_rfl, fun j t ht => by
        rw [Tryz.params7] at ht
        have hm : t ∈ [27] := by simpa using Array.mem_of_getElem? ht
        have hall : ([27].all fun u => !Tryz.prog.wantsStandIn u) = true := by kernel_rfl
        exact (show Tryz.prog.wantsStandIn t = false by simpa using List.all_eq_true.1 hall t hm)⟩)
    (by kernel_rfl)
#print axioms counts_card
end Go.Proofs.YtdjlgiinekighaaGreatDoor
