/-
  LedgerTrims: segments whose records are all retired go, from the first one on, as long as there is another one; what is left is an end of what was there.
-/
import Derived.Test.YtjmkphnppegegaaGreatDoorPkLp
import Derived.Test.YtjmkphnppegegaaGreatDoorPkLkc
namespace Go.Proofs.YtjmkphnppegegaaGreatDoor
open Go.RowKit Go.Lib
set_option maxRecDepth 100000

theorem one_may {s : Int} {t : ByteArray} (h : mayE (recE 1 0 t) 1 = true) (h1 : 1 ≤ s) (h2 : s ≤ 1023) : mayE (recE s s t) 1 = true := rec_may h h1 h2 (by omega) (by omega)
set_option maxHeartbeats 16000000 in
theorem trims_law (many upto : Int) (t : ByteArray) (w : World) (ht : t.size ≤ 9223372036854775807) (hT : Tabs w) : Calls Tryz.prog 5 #[.int .i64 many, .int .i64 upto, .string t] w fun e w' => e = .returned (.bool true) ∧ Below w.heap.size w w' := by
  have HT := Lib.hid hT
  have HL := Lib.hid (low_c many 41 w (by omega) (by omega))
  have HL2 := Lib.hid (low_c upto 45 w (by omega) (by omega))
  unfold lowT at HL HL2
  by_cases hlen : 100 < t.size
  · have e1 : decide (100 < t.size) = true := by simpa using hlen
    go_enter Tryz.func5, Tryz.ntmps5
    go_wp2_with fail
    refine HL.out.mono ?_
    rintro e w' ⟨r, rfl, hr0, hr1, rfl⟩
    clear HL
    go_wp2_with fail
    refine HL2.out.mono ?_
    rintro e w' ⟨u, rfl, hu0, hu1, rfl⟩
    clear HL2
    go_wp2_with fail
    refine (awake_c w HT.out).mono ?_
    rintro e w2 ⟨rfl, b2⟩
    go_wp2
    go_ret
    exact ⟨rfl, b2⟩
  · have e1 : decide (100 < t.size) = false := by simpa using hlen
    have CM := Lib.hid (refmaye_c (recE 1 0 t) (.slice none 0 0) (.slice none 0 0) 1 w (.inl ⟨rfl, rfl⟩) (.inl ⟨rfl, rfl⟩) (by simp [recE]) (by simp [recE]) ht HT.out)
    have CM' : Hid (Calls Tryz.prog 16 #[.agg #[.int .i64 2, .slice none 0 0, .slice none 0 0, .int .i64 0, .int .i64 1, .int .i64 0, .int .i64 0, .string t], .int .i64 1] w fun x w' => x = .returned (.bool (mayE (recE 1 0 t) 1)) ∧ Below w.heap.size w w') := CM
    clear CM hT
    cases hm : mayE (recE 1 0 t) 1 with
    | false =>
      rw [hm] at CM'
      go_enter Tryz.func5, Tryz.ntmps5
      go_wp2_with fail
      refine HL.out.mono ?_
      rintro e w' ⟨r, rfl, hr0, hr1, rfl⟩
      clear HL
      go_wp2_with fail
      refine HL2.out.mono ?_
      rintro e w' ⟨u, rfl, hu0, hu1, rfl⟩
      clear HL2
      go_wp2_with fail
      refine CM'.out.mono ?_
      rintro e w1 ⟨rfl, b1⟩
      have HB1 := Lib.hid b1
      go_wp2_with fail
      refine (awake_c w1 (HT.out.below b1)).mono ?_
      rintro e w2 ⟨rfl, b2⟩
      go_wp2
      go_ret
      exact ⟨rfl, bn HB1.out b2⟩
    | true =>
      rw [hm] at CM'
      have HM := Lib.hid hm
      clear hm
      go_enter Tryz.func5, Tryz.ntmps5
      go_wp2_with fail
      refine HL.out.mono ?_
      rintro e w' ⟨r, rfl, hr0, hr1, rfl⟩
      obtain ⟨M, rfl⟩ := Int.eq_ofNat_of_zero_le hr0
      have hM : M < 41 := by omega
      clear HL hr0 hr1
      go_wp2_with fail
      refine HL2.out.mono ?_
      rintro e w' ⟨u, rfl, hu0, hu1, rfl⟩
      obtain ⟨U, rfl⟩ := Int.eq_ofNat_of_zero_le hu0
      have hU : U < 45 := by omega
      clear HL2 hu0 hu1
      go_wp2_with fail
      refine CM'.out.mono ?_
      rintro e w0 ⟨rfl, b0⟩
      have HB0 := Lib.hid b0
      have HT0 := Lib.hid (HT.out.below b0)
      have HN := Lib.hid (dNew w0 60000 (by omega))
      clear b0 CM'
      go_wp2_with fail
      refine HN.out.mono ?_
      rintro e w1 ⟨p, own1, rfl, d1, o1, b1⟩
      have HO : Hid (Calls Tryz.prog 12 #[.pointer (some ⟨p, 0, none⟩), .int .i64 1] w1 _) := Lib.hid (cr_start0 1 (by omega) (by omega) d1 o1 b1 HT0.out)
      clear d1 o1 b1 HN
      go_wp2_with fail
      refine HO.out.mono ?_
      rintro e w2 ⟨A2, C2, own2, rfl, c2⟩
      have HC2 := Lib.hid c2
      clear c2 HO
      go_wp2
      go_loopw [11, 12] (fun v11 v12 wr => ∃ (j : Nat) (S : Lg) (own : Nat → Prop) (ys : List Ev), j ≤ M ∧ v12 = .int .i64 ((j : Int) + 1) ∧ Hid (Tr t S j) ∧ Hid (ys.map Ev.e = recsE t j) ∧ Hid (Cr w0 wr 0 w1.heap.size p S own v11 ys [])) (fun _ v12 _ => M + 1 - (RowKit.intOf v12).toNat)
      case atStart => exact ⟨0, Lg.new 1, own2, [], by omega, rfl, Lib.hid (.new t), Lib.hid rfl, HC2⟩
      case round =>
        clear HC2
        obtain ⟨j, S, own, ys, hj, rfl, HTR, HYS, HCR⟩ := hrel
        have hyl : ys.length = j := by have := congrArg List.length HYS.out; rwa [List.length_map, recsE_len] at this
        by_cases hjm : j < M
        · have e2 : decide ((j : Int) + 1 ≤ (M : Int)) = true := by simp; omega
          have hmay := one_may (s := (j : Int) + 1) HM.out (by omega) (by omega)
          have hji : (j : Int) ≤ 41 := by omega
          have hA4 := alloc_below wr (.cells #[.int .i64 2, .slice none 0 0, .slice none 0 0, .int .i64 0, .int .i64 ((j : Int) + 1), .int .i64 ((j : Int) + 1), .int .i64 0, .string t] 43)
          have CW := Lib.hid ((HCR.out.below hA4).writeRec HTR.out (by omega) HT0.out hmay)
          rw [show (wr.alloc (.cells #[.int .i64 2, .slice none 0 0, .slice none 0 0, .int .i64 0, .int .i64 ((j : Int) + 1), .int .i64 ((j : Int) + 1), .int .i64 0, .string t] 43)).heap.size = wr.heap.size + 1 by simp] at CW
          have HTR5 : Hid (Tr t (S.write (recE ((j : Int) + 1) ((j : Int) + 1) t) [(j : Int)] [0]) (j + 1)) := Lib.hid (HTR.out.write HCR.out.ld.ok hmay (base_may1 (by omega) (by omega)))
          have HBX : Hid (∀ w5 own5, Step (wr.alloc (.cells #[.int .i64 2, .slice none 0 0, .slice none 0 0, .int .i64 0, .int .i64 ((j : Int) + 1), .int .i64 ((j : Int) + 1), .int .i64 0, .string t] 43)) (plusB own w1.heap.size) w5 (plusB own5 w1.heap.size) → Bx 43 w5 wr.heap.size #[.int .i64 2, .slice none 0 0, .slice none 0 0, .int .i64 0, .int .i64 ((j : Int) + 1), .int .i64 ((j : Int) + 1), .int .i64 0, .string t]) := Lib.hid (fun w5 own5 hs => HCR.out.boxed _ _ hs)
          have HY5 : Hid ((ys ++ [(⟨recE ((j : Int) + 1) ((j : Int) + 1) t, .slice none 0 0, .slice none 0 0⟩ : Ev)]).map Ev.e = recsE t (j + 1)) := Lib.hid (by rw [List.map_append, HYS.out, recsE_succ]; rfl)
          clear hA4 hmay
          go_wp2_with fail
          refine CW.out.mono ?_
          rintro e w5 ⟨rfl, own5, c5, s5⟩
          have hbx := HBX.out w5 own5 s5
          obtain ⟨p0, p1, p2, p3, p4, p5, p6, p7⟩ := hbx.eight
          have hbl := hbx.lt
          obtain ⟨A6, C6, w6, run6, c6⟩ := c5.pushRec ((j : Int) + 1) t (by omega) 22 43
          have HR6 := Lib.hid run6
          have HC6 := Lib.hid c6
          generalize S.write (recE ((j : Int) + 1) ((j : Int) + 1) t) [(j : Int)] [0] = S5 at *
          clear c5 s5 c6 run6 CW HBX hbx HCR HTR HYS hyl
          go_wp2_with (at_builtin; refine wpList_append_run rfl _ _ 22 rfl _ _ HR6.out ?_; clear HR6)
          go_roundw
          case rel => exact ⟨j + 1, S5, own5, _, hjm, by go_num, HTR5, HY5, HC6⟩
          case measure => simp [RowKit.intOf]; omega
        · obtain rfl : j = M := by omega
          have e2 : decide ((j : Int) + 1 ≤ (j : Int)) = false := by simp; omega
          have HSY := Lib.hid HCR.out.sync
          have HTR3 := Lib.hid HTR.out.sync
          have HYY : Hid (S.sync.y = (rowsE S.sync.L).length) := Lib.hid rfl
          clear HCR HTR
          go_wp2_with fail
          refine HSY.out.mono ?_
          rintro e w3 ⟨rfl, own3, c3, _⟩
          generalize S.sync = S3 at *
          have HSG := Lib.hid (segs_S c3.ld)
          have hA3 : S3.A.length ≤ 41 := by have := HTR3.out.cs.A; rw [recsE_len] at this; omega
          have HC3 := Lib.hid c3
          clear c3 HSY
          go_wp2_with fail
          refine HSG.out.mono ?_
          rintro e w4 ⟨rfl, b4⟩
          have HC4 := Lib.hid (HC3.out.below b4)
          have HU4 := Lib.hid (dUsed HC4.out.ld.dr)
          have hus := HC4.out.ld.dr.us
          obtain ⟨U3, hU3⟩ : ∃ U3, U3 = usedP S3.P := ⟨_, rfl⟩
          rw [← hU3] at HU4 hus
          have HU3 := Lib.hid hU3
          clear b4 HSG HC3 hU3
          go_wp2_with fail
          refine HU4.out.mono ?_
          rintro e w4' ⟨rfl, rfl⟩
          have HTM := Lib.hid (HC4.out.trim HTR3.out.cs.n HYY.out HT0.out (U : Int))
          clear HU4
          go_wp2_with fail
          refine HTM.out.mono ?_
          rintro e w5 ⟨r, own5, rfl, hr, q1, q2, c5⟩
          have HC5 := Lib.hid c5
          have HQ2 := Lib.hid q2
          have HUR : Hid ((r = 0 → usedP (S3.cut r).P = U3) ∧ (0 < r → usedP (S3.cut r).P < U3)) := Lib.hid ⟨fun e => by rw [e, Lg.cut_zero, HU3.out], fun h => by rw [HU3.out]; exact Lg.cut_used HC4.out.ld.ok h hr⟩
          have HCR' := Lib.hid (HTR3.out.trim (u := (U : Int)) (by omega) hr q1)
          have HSG5 := Lib.hid (segs_S c5.ld)
          have hcl : (S3.cut r).A.length = S3.A.length - r := by simp [Lg.cut]
          rw [hcl] at HSG5
          have HN5 : Hid ((S3.cut r).n = 1) := Lib.hid HTR3.out.cs.n
          have HY5 : Hid ((S3.cut r).y = (rowsE (S3.cut r).L).length) := Lib.hid HYY.out
          have hq5 : ((S3.A.length - r + 1 : Nat) : Int) = ((S3.A.length + 1 : Nat) : Int) - (r : Int) := by omega
          have HUS := Lib.hid (fun W (hW : Below w5.heap.size w5 W) => dUsed (HC5.out.below hW).ld.dr)
          obtain ⟨U5, hU5⟩ : ∃ U5, U5 = usedP (S3.cut r).P := ⟨_, rfl⟩
          rw [← hU5] at HUR HUS
          have HQ : Hid (∀ r' : Nat, r' ≤ (S3.cut r).A.length → (∀ i (hi : i < (S3.cut r).A.length), i < r' → retE (U : Int) (S3.cut r).A[i] = true) → r' = 0) := Lib.hid (fun r' h1 h2 => by
            rcases Nat.eq_zero_or_pos r' with h | h
            · exact h
            · exfalso
              have h3 : 0 < (S3.cut r).A.length := by omega
              have h4 := h2 0 h3 h
              rw [hcl] at h3
              have h5 := HQ2.out (by omega)
              have h6 : (S3.cut r).A[0]'(by rw [hcl]; exact h3) = S3.A[r]'(by omega) := by simp [Lg.cut]
              rw [h6, h5] at h4
              cases h4)
          obtain ⟨c, hcj, hcU, hcp, q', hcq⟩ := HCR'.out
          have HCP := Lib.hid hcp
          have HCQ := Lib.hid hcq
          have hlen5 := HC5.out.ld.ok.len
          have hUb : U5 ≤ 60000 := by have := HC5.out.ld.dr.us; rw [hU5]; exact this.1
          clear q1 q2 c5 HTM HCR' HQ2 hcp hcq hU5 HU3 HC4 hcl HTR3 HYY
          rcases Nat.eq_zero_or_pos r with hr0 | hr0
          · subst hr0
            have hUU := HUR.out.1 rfl
            subst hUU
            go_wp2_with fail
            refine HSG5.out.mono ?_
            rintro e w6 ⟨rfl, b6⟩
            have HB6 := Lib.hid b6
            clear b6 HSG5
            go_wp2_with fail
            refine (HUS.out w6 HB6.out).mono ?_
            rintro e w6' ⟨rfl, rfl⟩
            have HC6 := Lib.hid (HC5.out.below HB6.out)
            have HOP : Hid (Calls Tryz.prog 12 #[.pointer (some ⟨p, 0, none⟩), .int .i64 1] w6 _) := Lib.hid (HC6.out.openC HT0.out (n := 1) HN5.out)
            clear HUS HC5 HB6
            go_wp2_with fail
            refine HOP.out.mono ?_
            rintro e w7 ⟨A7, C7, xs, own7, rfl, ek7, es7, c7, s7⟩
            have HC7 := Lib.hid (HC6.out.old s7 c7.ld.dr)
            have hxl : xs.length ≤ 100000 := by
              have h1 := congrArg List.length es7
              have h2 := congrArg List.length HCP.out
              rw [List.length_map] at h1
              rw [List.length_drop, recsE_len] at h2
              have h3 : (S3.cut 0).A.length ≤ S3.A.length := by simp [Lg.cut]
              omega
            have HX0 : Hid (∃ h : 0 < xs.length, xs[0].e = baseE [(c : Int)] [0]) := Lib.hid (by
              rw [HCQ.out] at es7
              cases xs with
              | nil => cases es7
              | cons y r =>
                simp only [List.map_cons, List.cons.injEq] at es7
                exact ⟨by simp, by rw [List.getElem_cons_zero]; exact es7.1⟩)
            have HXP : Hid ((plainV xs).map Ev.e = (recsE t j).drop c) := Lib.hid (by rw [plainV_e, es7]; exact HCP.out)
            have HXV : Hid (∀ x ∈ xs, x.e.v.length ≤ 1000000 ∧ x.e.w.length ≤ 1000000) := Lib.hid (fun x hx => by
              have h1 : x.e ∈ xs.map Ev.e := List.mem_map_of_mem hx
              rw [es7] at h1
              exact may_lens (c7.ld.ok.may x.e h1))
            have HE7 := Lib.hid ek7
            have HPC := Lib.hid (plain_c w7 _ xs ek7.1.er hxl)
            clear ek7 es7 c7 s7 HOP HC6 hlen5
            go_wp2_with fail
            refine HPC.out.mono ?_
            rintro e w8 ⟨v8, rfl, r8, b8⟩
            obtain ⟨P, hP⟩ : ∃ P, P = j - c := ⟨_, rfl⟩
            have hpn : (plainV xs).length = P := by have h1 := congrArg List.length HXP.out; rw [List.length_map, List.length_drop, recsE_len] at h1; omega
            obtain ⟨ad8, cap8, rfl⟩ : ∃ ad8 cap8, v8 = .slice ad8 P cap8 := by
              rcases r8.2 with ⟨rfl, h0⟩ | ⟨g', cap', cur, rfl, _⟩
              · exact ⟨none, 0, by rw [← hpn, h0]⟩
              · exact ⟨_, _, by rw [hpn]⟩
            have HC8 := Lib.hid (HC7.out.below b8)
            have HE8 := Lib.hid (HE7.out.below b8)
            have erl : Er w8 (.slice ad8 P cap8) (plainV xs) := ERow.er r8 (fun x hx => HE8.out.1.er.nls x ((List.mem_filter.1 hx).1))
            obtain ⟨a11, c11, e11, _, _⟩ := HC8.out.er
            rw [hyl] at e11
            subst e11
            obtain ⟨A9, C9, hsl, he9⟩ := HC8.out.er.drop c (by omega)
            rw [hyl, ← hP] at hsl he9
            have HSM := Lib.hid (sames_c (plainV xs) (ys.drop c) _ _ w8 erl (he9 w8 HC8.out.er) (by rw [HXP.out, List.map_drop, HYS.out]) (by omega) (fun x hx => HXV.out x ((List.mem_filter.1 hx).1)))
            obtain ⟨hx0, hx1⟩ := HX0.out
            have HX1 := Lib.hid hx1
            have hq : (j : Int) - (P : Int) = (c : Int) := by omega
            have hPj : P ≤ 41 := by omega
            have hj41 : j ≤ 41 := by omega
            have e4 : decide ((U : Int) < (c : Int)) = false := by simp; omega
            have e5 : ((xs.length : Int) == 0) = false := by rw [beq_eq_false_iff_ne]; omega
            clear r8 b8 HPC HC7 HE7 erl he9 hP hpn hyl hx1 HX0
            go_wp2_with fail
            refine HSM.out.mono ?_
            rintro e w9 ⟨rfl, b9⟩
            have HC9 := Lib.hid (HC8.out.below b9)
            obtain ⟨b', o', eA, _, a9⟩ := (HE8.out.below b9).1.er.cellsAt 0 hx0
            subst eA
            have hx1 := HX1.out
            generalize xs[0] = X at a9 hx1
            obtain ⟨dX, aX, bX⟩ := X
            simp only at hx1
            subst hx1
            obtain ⟨⟨p0, p1, _, _, _, _, _, _⟩, hA, _⟩ := a9
            simp only [Nat.zero_mul, Nat.add_zero] at p0 p1 hA
            have hbl := World.block_lt_of_cell? w9 _ p0
            have HNA := Lib.hid hA
            obtain ⟨aV, cV, rfl, _⟩ := id hA.form
            have hal := alloc_below w9 (.cells #[.int .i64 (c : Int)] 3)
            have HSI : Hid (Calls Tryz.prog 28 #[.slice aV 1 cV, .slice (some ⟨w9.heap.size, 0, none⟩) 1 1] (w9.alloc (.cells #[.int .i64 (c : Int)] 3)) fun e w' => e = .returned (.bool true) ∧ Below w9.heap.size w9 w') := Lib.hid ((same_c [(c : Int)] [(c : Int)] _ _ _ (hA.below hal) (Nl.one w9 (c : Int) 3) (by simp)).mono (by
              rintro e w' ⟨rfl, hb⟩
              exact ⟨by simp [sameB], bn hal hb⟩))
            clear b9 HSM HC8 HE8 hA hal hsl HX1
            go_wp2_with fail
            refine HSI.out.mono ?_
            rintro e wa ⟨rfl, ba⟩
            have HCA := Lib.hid (HC9.out.below ba)
            have HTM := Lib.hid (HCA.out.trim HN5.out HY5.out HT0.out (U : Int))
            clear ba HSI HC9 p0 p1 hbl HNA
            go_wp2_with fail
            refine HTM.out.mono ?_
            rintro e wb ⟨r', ownb, rfl, hr', q1', _, cb⟩
            obtain rfl := HQ.out r' hr' q1'
            have HCB := Lib.hid cb
            have HAW := Lib.hid (awake_c wb (cb.gr.tabs HT0.out))
            clear HTM q1' cb hr' HQ
            go_wp2_with fail
            refine HAW.out.mono ?_
            rintro e wc ⟨rfl, bc⟩
            have HBC := Lib.hid (bn HB0.out (HCB.out.below bc).gr.bl)
            clear bc HAW
            go_wp2
            go_ret
            exact ⟨by first | rfl | simp, HBC.out⟩
          · have hUU := HUR.out.2 hr0
            have e7 : ((r : Int) == 0) = false := by simp; omega
            have e8 : decide ((0 : Int) < (r : Int)) = true := by simpa using hr0
            go_wp2_with fail
            refine HSG5.out.mono ?_
            rintro e w6 ⟨rfl, b6⟩
            have HB6 := Lib.hid b6
            clear b6 HSG5
            go_wp2_with fail
            refine (HUS.out w6 HB6.out).mono ?_
            rintro e w6' ⟨rfl, rfl⟩
            have HC6 := Lib.hid (HC5.out.below HB6.out)
            have HOP : Hid (Calls Tryz.prog 12 #[.pointer (some ⟨p, 0, none⟩), .int .i64 1] w6 _) := Lib.hid (HC6.out.openC HT0.out (n := 1) HN5.out)
            clear HUS HC5 HB6
            go_wp2_with fail
            refine HOP.out.mono ?_
            rintro e w7 ⟨A7, C7, xs, own7, rfl, ek7, es7, c7, s7⟩
            have HC7 := Lib.hid (HC6.out.old s7 c7.ld.dr)
            have hxl : xs.length ≤ 100000 := by
              have h1 := congrArg List.length es7
              have h2 := congrArg List.length HCP.out
              rw [List.length_map] at h1
              rw [List.length_drop, recsE_len] at h2
              have h3 : (S3.cut r).A.length ≤ S3.A.length := by simp [Lg.cut]
              omega
            have HX0 : Hid (∃ h : 0 < xs.length, xs[0].e = baseE [(c : Int)] [0]) := Lib.hid (by
              rw [HCQ.out] at es7
              cases xs with
              | nil => cases es7
              | cons y r =>
                simp only [List.map_cons, List.cons.injEq] at es7
                exact ⟨by simp, by rw [List.getElem_cons_zero]; exact es7.1⟩)
            have HXP : Hid ((plainV xs).map Ev.e = (recsE t j).drop c) := Lib.hid (by rw [plainV_e, es7]; exact HCP.out)
            have HXV : Hid (∀ x ∈ xs, x.e.v.length ≤ 1000000 ∧ x.e.w.length ≤ 1000000) := Lib.hid (fun x hx => by
              have h1 : x.e ∈ xs.map Ev.e := List.mem_map_of_mem hx
              rw [es7] at h1
              exact may_lens (c7.ld.ok.may x.e h1))
            have HE7 := Lib.hid ek7
            have HPC := Lib.hid (plain_c w7 _ xs ek7.1.er hxl)
            clear ek7 es7 c7 s7 HOP HC6 hlen5
            go_wp2_with fail
            refine HPC.out.mono ?_
            rintro e w8 ⟨v8, rfl, r8, b8⟩
            obtain ⟨P, hP⟩ : ∃ P, P = j - c := ⟨_, rfl⟩
            have hpn : (plainV xs).length = P := by have h1 := congrArg List.length HXP.out; rw [List.length_map, List.length_drop, recsE_len] at h1; omega
            obtain ⟨ad8, cap8, rfl⟩ : ∃ ad8 cap8, v8 = .slice ad8 P cap8 := by
              rcases r8.2 with ⟨rfl, h0⟩ | ⟨g', cap', cur, rfl, _⟩
              · exact ⟨none, 0, by rw [← hpn, h0]⟩
              · exact ⟨_, _, by rw [hpn]⟩
            have HC8 := Lib.hid (HC7.out.below b8)
            have HE8 := Lib.hid (HE7.out.below b8)
            have erl : Er w8 (.slice ad8 P cap8) (plainV xs) := ERow.er r8 (fun x hx => HE8.out.1.er.nls x ((List.mem_filter.1 hx).1))
            obtain ⟨a11, c11, e11, _, _⟩ := HC8.out.er
            rw [hyl] at e11
            subst e11
            obtain ⟨A9, C9, hsl, he9⟩ := HC8.out.er.drop c (by omega)
            rw [hyl, ← hP] at hsl he9
            have HSM := Lib.hid (sames_c (plainV xs) (ys.drop c) _ _ w8 erl (he9 w8 HC8.out.er) (by rw [HXP.out, List.map_drop, HYS.out]) (by omega) (fun x hx => HXV.out x ((List.mem_filter.1 hx).1)))
            obtain ⟨hx0, hx1⟩ := HX0.out
            have HX1 := Lib.hid hx1
            have hq : (j : Int) - (P : Int) = (c : Int) := by omega
            have hPj : P ≤ 41 := by omega
            have hj41 : j ≤ 41 := by omega
            have e4 : decide ((U : Int) < (c : Int)) = false := by simp; omega
            have e5 : ((xs.length : Int) == 0) = false := by rw [beq_eq_false_iff_ne]; omega
            clear r8 b8 HPC HC7 HE7 erl he9 hP hpn hyl hx1 HX0
            go_wp2_with fail
            refine HSM.out.mono ?_
            rintro e w9 ⟨rfl, b9⟩
            have HC9 := Lib.hid (HC8.out.below b9)
            obtain ⟨b', o', eA, _, a9⟩ := (HE8.out.below b9).1.er.cellsAt 0 hx0
            subst eA
            have hx1 := HX1.out
            generalize xs[0] = X at a9 hx1
            obtain ⟨dX, aX, bX⟩ := X
            simp only at hx1
            subst hx1
            obtain ⟨⟨p0, p1, _, _, _, _, _, _⟩, hA, _⟩ := a9
            simp only [Nat.zero_mul, Nat.add_zero] at p0 p1 hA
            have hbl := World.block_lt_of_cell? w9 _ p0
            have HNA := Lib.hid hA
            obtain ⟨aV, cV, rfl, _⟩ := id hA.form
            have hal := alloc_below w9 (.cells #[.int .i64 (c : Int)] 3)
            have HSI : Hid (Calls Tryz.prog 28 #[.slice aV 1 cV, .slice (some ⟨w9.heap.size, 0, none⟩) 1 1] (w9.alloc (.cells #[.int .i64 (c : Int)] 3)) fun e w' => e = .returned (.bool true) ∧ Below w9.heap.size w9 w') := Lib.hid ((same_c [(c : Int)] [(c : Int)] _ _ _ (hA.below hal) (Nl.one w9 (c : Int) 3) (by simp)).mono (by
              rintro e w' ⟨rfl, hb⟩
              exact ⟨by simp [sameB], bn hal hb⟩))
            clear b9 HSM HC8 HE8 hA hal hsl HX1
            go_wp2_with fail
            refine HSI.out.mono ?_
            rintro e wa ⟨rfl, ba⟩
            have HCA := Lib.hid (HC9.out.below ba)
            have HTM := Lib.hid (HCA.out.trim HN5.out HY5.out HT0.out (U : Int))
            clear ba HSI HC9 p0 p1 hbl HNA
            go_wp2_with fail
            refine HTM.out.mono ?_
            rintro e wb ⟨r', ownb, rfl, hr', q1', _, cb⟩
            obtain rfl := HQ.out r' hr' q1'
            have HCB := Lib.hid cb
            have HAW := Lib.hid (awake_c wb (cb.gr.tabs HT0.out))
            clear HTM q1' cb hr' HQ
            go_wp2_with fail
            refine HAW.out.mono ?_
            rintro e wc ⟨rfl, bc⟩
            have HBC := Lib.hid (bn HB0.out (HCB.out.below bc).gr.bl)
            clear bc HAW
            go_wp2
            go_ret
            exact ⟨by first | rfl | simp, HBC.out⟩
end Go.Proofs.YtjmkphnppegegaaGreatDoor
