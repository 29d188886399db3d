/-
  PROVED: LedgerLoose answers true, whatever numbers and text it is given. Conditions: the seven listed variables of the library hold what the program's text, and the pinned table, lay (the card ties them).
-/
import Derived.Test.YtjdmgfcclpdmkaaGreatDoorPkLc
import Derived.Test.YtjdmgfcclpdmkaaGreatDoorPkLift
namespace Go.Proofs.YtjdmgfcclpdmkaaGreatDoor
open Go.RowKit Go.Lib
set_option maxRecDepth 100000

set_option maxHeartbeats 16000000 in
theorem loose_law (many bits : Int) (t : ByteArray) (w : World) (ht : t.size ≤ 9223372036854775807) (hT : Tabs w) : Calls Tryz.prog 7 #[.int .i64 many, .string t, .int .i64 bits] w fun e w' => e = .returned (.bool true) ∧ Below w.heap.size w w' := by
  have HT := Lib.hid hT
  have HL := Lib.hid (low_c many 41 w (by omega) (by omega))
  unfold lowT at HL
  by_cases hlen : 100 < t.size
  · have e1 : decide (100 < t.size) = true := by simpa using hlen
    go_enter Tryz.func7, Tryz.ntmps7
    go_wp2_with fail
    refine HL.out.mono ?_
    rintro e w' ⟨r, rfl, hr0, hr1, rfl⟩
    clear HL
    go_wp2_with fail
    refine (awake_c w HT.out).mono ?_
    rintro e w2 ⟨rfl, b2⟩
    go_wp2
    go_ret
    exact ⟨rfl, b2⟩
  · have e1 : decide (100 < t.size) = false := by simpa using hlen
    have CM := Lib.hid (refmaye_c (recE 1 0 t) (.slice none 0 0) (.slice none 0 0) 1 w (.inl ⟨rfl, rfl⟩) (.inl ⟨rfl, rfl⟩) (by simp [recE]) (by simp [recE]) ht HT.out)
    have CM' : Hid (Calls Tryz.prog 16 #[.agg #[.int .i64 2, .slice none 0 0, .slice none 0 0, .int .i64 0, .int .i64 1, .int .i64 0, .int .i64 0, .string t], .int .i64 1] w fun x w' => x = .returned (.bool (mayE (recE 1 0 t) 1)) ∧ Below w.heap.size w w') := CM
    clear CM hT
    cases hm : mayE (recE 1 0 t) 1 with
    | false =>
      rw [hm] at CM'
      go_enter Tryz.func7, Tryz.ntmps7
      go_wp2_with fail
      refine HL.out.mono ?_
      rintro e w' ⟨r, rfl, hr0, hr1, rfl⟩
      clear HL
      go_wp2_with fail
      refine CM'.out.mono ?_
      rintro e w1 ⟨rfl, b1⟩
      have HB1 := Lib.hid b1
      go_wp2_with fail
      refine (awake_c w1 (HT.out.below b1)).mono ?_
      rintro e w2 ⟨rfl, b2⟩
      go_wp2
      go_ret
      exact ⟨rfl, bn HB1.out b2⟩
    | true =>
      rw [hm] at CM'
      have HM := Lib.hid hm
      clear hm
      go_enter Tryz.func7, Tryz.ntmps7
      go_wp2_with fail
      refine HL.out.mono ?_
      rintro e w' ⟨r, rfl, hr0, hr1, rfl⟩
      obtain ⟨M, rfl⟩ := Int.eq_ofNat_of_zero_le hr0
      have hM : M < 41 := by omega
      clear HL hr0 hr1
      go_wp2_with fail
      refine CM'.out.mono ?_
      rintro e w0 ⟨rfl, b0⟩
      have HB0 := Lib.hid b0
      have HT0 := Lib.hid (HT.out.below b0)
      have HN := Lib.hid (dNew w0 60000 (by omega))
      clear b0 CM'
      go_wp2_with fail
      refine HN.out.mono ?_
      rintro e w1 ⟨p, own1, rfl, d1, o1, b1⟩
      have HG1 : Hid (Gr w0 w1 own1) := Lib.hid ⟨b1, o1⟩
      have HO : Hid (Calls Tryz.prog 12 #[.pointer (some ⟨p, 0, none⟩), .int .i64 1] w1 (openS w1 p 60000 (Lg.new 1) own1 (Lg.new 1).all)) := Lib.hid ((new_S 1 d1 (by omega) (by omega) (by omega) (fun W own' hs => (HG1.out.step hs).tabs HT0.out)).mono (fun e w' hh => hh.1 (by have := (new_used (n := 1) (by omega) (by omega)).1; omega)))
      clear d1 o1 b1 HN
      go_wp2_with fail
      refine HO.out.mono ?_
      rintro e w2 ⟨v2, xs2, own2, rfl, ek2, es2, l2, s2⟩
      obtain ⟨ad2, cap2, rfl, _, _⟩ := ek2.1.er
      have HL2 := Lib.hid l2
      have HG2 := Lib.hid (HG1.out.step s2)
      have hsz1 := HG1.out.bl.size
      clear ek2 es2 l2 s2 HO
      go_wp2
      go_loopw [11, 12] (fun v11 v12 wr => ∃ (j f : Nat) (S : Lg) (own : Nat → Prop), j ≤ M ∧ v12 = .int .i64 ((j : Int) + 1) ∧ v11 = .int .i64 (f : Int) ∧ Hid (Ls S j f) ∧ Hid (Led wr w1.heap.size p 60000 S own) ∧ Hid (Gr w0 wr own)) (fun _ v12 _ => M + 1 - (RowKit.intOf v12).toNat)
      case atStart => exact ⟨0, 0, Lg.new 1, own2, by omega, rfl, rfl, Lib.hid Ls.new, HL2, HG2⟩
      case round =>
        obtain ⟨j, f, S, own, hj, rfl, rfl, HLS, HLD, HGR⟩ := hrel
        by_cases hjm : j < M
        · have HSG0 := Lib.hid (segs_S HLD.out)
          have hA := HLS.out.A
          have hk := HLS.out.k
          have hmay := rec_may (i := (j : Int) + 1) (w := 0) HM.out (by omega) (by omega) (by omega) (by omega)
          have hmb := base_may1 (i := (j : Int)) (by omega) (by omega)
          have hadd : usedP S.P + S.adds (recE ((j : Int) + 1) 0 t) [(j : Int)] [0] ≤ 60000 := by
            have h1 := HLS.out.us
            have h2 := adds_le (S := S) (mayE_some hmay) (mayE_some hmb)
            omega
          have e2 : decide ((j : Int) + 1 ≤ (M : Int)) = true := by simp; omega
          have hji : (j : Int) ≤ 41 := by omega
          go_wp2_with fail
          refine HSG0.out.mono ?_
          rintro e w3 ⟨rfl, b3⟩
          have HL3 := Lib.hid (HLD.out.below b3)
          have HG3 := Lib.hid (HGR.out.below b3)
          have hA4 := alloc_below w3 (.cells #[.int .i64 2, .slice none 0 0, .slice none 0 0, .int .i64 0, .int .i64 ((j : Int) + 1), .int .i64 0, .int .i64 0, .string t] 43)
          have CW := Lib.hid (write_rec (HL3.out.below hA4) HLS.out.n ((j : Int) + 1) 0 (j : Int) t hmay (by omega) (by omega) ((HG3.out.below hA4).tabs HT0.out) (by omega) 3 3 hadd)
          rw [show (w3.alloc (.cells #[.int .i64 2, .slice none 0 0, .slice none 0 0, .int .i64 0, .int .i64 ((j : Int) + 1), .int .i64 0, .int .i64 0, .string t] 43)).heap.size = w3.heap.size + 1 by simp] at CW
          have HG4 := Lib.hid (HG3.out.below hA4)
          clear b3 hA4 HSG0
          have hG5 := Lib.hid hsz1
          by_cases hz : (rowsE S.L).length < 400
          · have HS5 : Hid (Ls (S.write (recE ((j : Int) + 1) 0 t) [(j : Int)] [0]) (j + 1) f) := Lib.hid (HLS.out.same HLD.out.ok hmay hmb hz)
            have hAA : (S.write (recE ((j : Int) + 1) 0 t) [(j : Int)] [0]).A.length = S.A.length := by unfold Lg.write; rw [if_pos hz]
            clear hadd hmay hmb hz
            go_wp2_with fail
            refine CW.out.mono ?_
            rintro e w5 ⟨rfl, own5, l5, s5⟩
            have HL5 := Lib.hid l5
            have HG5 := Lib.hid (HG4.out.stepP hG5.out s5)
            generalize S.write (recE ((j : Int) + 1) 0 t) [(j : Int)] [0] = S5 at *
            have CSG : Hid (∀ W, Below w5.heap.size w5 W → Calls Tryz.prog 18 #[.pointer (some ⟨w1.heap.size, 0, none⟩)] W fun e w' => e = .returned (.int .i64 ((S.A.length + 1 : Nat) : Int)) ∧ Below W.heap.size W w') := Lib.hid (fun W hW => by rw [← hAA]; exact segs_S (HL5.out.below hW))
            have hLZ : (rowsE S5.L).length - S5.y ≤ 800 := by have := HS5.out.sz; omega
            have CLO : Hid (∀ W, Below w5.heap.size w5 W → Calls Tryz.prog 20 #[.pointer (some ⟨p, 0, none⟩)] W fun e w' => e = .returned (.int .i64 (((rowsE S5.L).length - S5.y : Nat) : Int)) ∧ Below W.heap.size W w') := Lib.hid (fun W hW => loose_S (HL5.out.dr.below hW) HL5.out.ok)
            generalize (rowsE S5.L).length - S5.y = LZ at CLO hLZ
            clear l5 s5 CW hAA
            go_wp2_with fail
            refine (CSG.out w5 (Below.refl _ _)).mono ?_
            rintro e w6 ⟨rfl, b6⟩
            have HB6 := Lib.hid b6
            clear b6
            go_wp2_with fail
            refine (CSG.out w6 HB6.out).mono ?_
            rintro e w7 ⟨rfl, b7⟩
            have HB7 := Lib.hid (bn HB6.out b7)
            clear b7
            go_wp2_with fail
            refine (CLO.out w7 HB7.out).mono ?_
            rintro e w8 ⟨rfl, b8⟩
            have HB8 := Lib.hid (bn HB7.out b8)
            clear b8
            go_wp2_with fail
            refine (CSG.out w8 HB8.out).mono ?_
            rintro e w9 ⟨rfl, b9⟩
            have HB9 := Lib.hid (bn HB8.out b9)
            clear b9
            go_wp2_with fail
            case roundEnd => exact ⟨⟨j + 1, f, S5, own5, hjm, by go_num, by go_num, HS5, Lib.hid (HL5.out.below HB9.out), Lib.hid (HG5.out.below HB9.out)⟩, by simp [RowKit.intOf]; omega⟩
            have HSY := Lib.hid (sync_S (HL5.out.below HB9.out))
            clear CLO CSG hLZ
            refine HSY.out.mono ?_
            rintro e wa ⟨rfl, owna, la, sa⟩
            have HLa := Lib.hid la
            have HGa := Lib.hid ((HG5.out.below HB9.out).step sa)
            have HLO := Lib.hid (loose_S la.dr la.ok)
            have hyy : (rowsE S5.sync.L).length - S5.sync.y = 0 := by simp [Lg.sync]
            rw [hyy] at HLO
            clear la sa HSY hyy
            go_wp2_with fail
            refine HLO.out.mono ?_
            rintro e wb ⟨rfl, bb⟩
            have HSb := Lib.hid HS5.out.sync
            have HLb := Lib.hid (HLa.out.below bb)
            have HGb := Lib.hid (HGa.out.below bb)
            clear bb HLO
            go_wp2
            go_roundw
            case rel => exact ⟨j + 1, j + 1, S5.sync, owna, hjm, by go_num, by go_num, HSb, HLb, HGb⟩
            case measure => simp [RowKit.intOf]; omega
          · have HS5 : Hid (Ls (S.write (recE ((j : Int) + 1) 0 t) [(j : Int)] [0]) (j + 1) j) := Lib.hid (HLS.out.next hmay hmb hz)
            have hAA : (S.write (recE ((j : Int) + 1) 0 t) [(j : Int)] [0]).A.length = S.A.length + 1 := by unfold Lg.write; rw [if_neg hz]; simp
            clear hadd hmay hmb hz
            go_wp2_with fail
            refine CW.out.mono ?_
            rintro e w5 ⟨rfl, own5, l5, s5⟩
            have HL5 := Lib.hid l5
            have HG5 := Lib.hid (HG4.out.stepP hG5.out s5)
            generalize S.write (recE ((j : Int) + 1) 0 t) [(j : Int)] [0] = S5 at *
            have CSG : Hid (∀ W, Below w5.heap.size w5 W → Calls Tryz.prog 18 #[.pointer (some ⟨w1.heap.size, 0, none⟩)] W fun e w' => e = .returned (.int .i64 ((S.A.length + 1 + 1 : Nat) : Int)) ∧ Below W.heap.size W w') := Lib.hid (fun W hW => by rw [← hAA]; exact segs_S (HL5.out.below hW))
            have hLZ : (rowsE S5.L).length - S5.y ≤ 800 := by have := HS5.out.sz; omega
            have CLO : Hid (∀ W, Below w5.heap.size w5 W → Calls Tryz.prog 20 #[.pointer (some ⟨p, 0, none⟩)] W fun e w' => e = .returned (.int .i64 (((rowsE S5.L).length - S5.y : Nat) : Int)) ∧ Below W.heap.size W w') := Lib.hid (fun W hW => loose_S (HL5.out.dr.below hW) HL5.out.ok)
            generalize (rowsE S5.L).length - S5.y = LZ at CLO hLZ
            clear l5 s5 CW hAA
            go_wp2_with fail
            refine (CSG.out w5 (Below.refl _ _)).mono ?_
            rintro e w6 ⟨rfl, b6⟩
            have HB6 := Lib.hid b6
            clear b6
            go_wp2_with fail
            refine (CSG.out w6 HB6.out).mono ?_
            rintro e w7 ⟨rfl, b7⟩
            have HB7 := Lib.hid (bn HB6.out b7)
            clear b7
            go_wp2_with fail
            refine (CLO.out w7 HB7.out).mono ?_
            rintro e w8 ⟨rfl, b8⟩
            have HB8 := Lib.hid (bn HB7.out b8)
            clear b8
            go_wp2_with fail
            refine (CSG.out w8 HB8.out).mono ?_
            rintro e w9 ⟨rfl, b9⟩
            have HB9 := Lib.hid (bn HB8.out b9)
            clear b9
            go_wp2_with fail
            case roundEnd => exact ⟨⟨j + 1, j, S5, own5, hjm, by go_num, by go_num, HS5, Lib.hid (HL5.out.below HB9.out), Lib.hid (HG5.out.below HB9.out)⟩, by simp [RowKit.intOf]; omega⟩
            have HSY := Lib.hid (sync_S (HL5.out.below HB9.out))
            clear CLO CSG hLZ
            refine HSY.out.mono ?_
            rintro e wa ⟨rfl, owna, la, sa⟩
            have HLa := Lib.hid la
            have HGa := Lib.hid ((HG5.out.below HB9.out).step sa)
            have HLO := Lib.hid (loose_S la.dr la.ok)
            have hyy : (rowsE S5.sync.L).length - S5.sync.y = 0 := by simp [Lg.sync]
            rw [hyy] at HLO
            clear la sa HSY hyy
            go_wp2_with fail
            refine HLO.out.mono ?_
            rintro e wb ⟨rfl, bb⟩
            have HSb := Lib.hid HS5.out.sync
            have HLb := Lib.hid (HLa.out.below bb)
            have HGb := Lib.hid (HGa.out.below bb)
            clear bb HLO
            go_wp2
            go_roundw
            case rel => exact ⟨j + 1, j + 1, S5.sync, owna, hjm, by go_num, by go_num, HSb, HLb, HGb⟩
            case measure => simp [RowKit.intOf]; omega
        · obtain rfl : j = M := by omega
          have e2 : decide ((j : Int) + 1 ≤ (j : Int)) = false := by simp; omega
          have ok := HLD.out.ok
          obtain ⟨c, hc1, hc2, hcp⟩ := Lg.crash_P ok 0
          have HCR := Lib.hid (dCrash HLD.out.dr 0 (by omega) (by rw [Lg.P_len]; have := ok.k2; omega))
          rw [show (0 : Int).toNat = 0 from rfl, hcp] at HCR
          have HOK := Lib.hid ok
          have HC := Lib.hid (And.intro hc1 hc2)
          clear ok hc1 hc2 hcp
          go_wp2_with fail
          refine HCR.out.mono ?_
          rintro e wa ⟨rfl, owna, da, sa⟩
          have HGa := Lib.hid (HGR.out.step sa)
          obtain ⟨wl, q1, q2, q3, q4, q5⟩ := open_crash da HOK.out (fun e => Nat.le_trans (HLS.out.y0 e) HC.out.1) HC.out.2 (by omega) (HGa.out.tabs HT0.out)
          have hSn := HLS.out.n
          rw [hSn] at q5
          have HOP := Lib.hid q5
          have hlo : f ≤ (plainE (S.torn wl).all).length := by
            rw [Lg.torn_all q4]
            obtain ⟨q, r1, r2, r3⟩ := HLS.out.fm
            have r4 := q3 q r1 (Nat.le_trans r2 HC.out.1)
            have r5 : S.L.take wl = S.L.take q ++ (S.L.take wl).drop q := by
              have := List.take_append_drop q (S.L.take wl)
              rw [List.take_take, Nat.min_eq_left r4] at this
              exact this.symm
            rw [r5, ← List.append_assoc, plainE_app, List.length_append]
            omega
          have hhi : (plainE (S.torn wl).all).length ≤ j := by
            rw [Lg.torn_all q4]
            have h1 := HLS.out.pl
            unfold Lg.all at h1
            have r5 := List.take_append_drop wl S.L
            rw [← r5, ← List.append_assoc, plainE_app, List.length_append] at h1
            omega
          have hal : (S.torn wl).all.length ≤ 100000 := by
            have h1 := (Lg.torn_ok HOK.out q4).len
            have h2 := (S.torn_n wl).2.2
            have h3 := HLS.out.A
            omega
          generalize S.torn wl = S9 at *
          clear da sa q1 q2 q3 q4 q5 hSn HCR
          go_wp2_with fail
          refine HOP.out.mono ?_
          rintro e wb ⟨vb, ys, ownb, rfl, ekb, esb, lb, sb⟩
          have HGb := Lib.hid (HGa.out.step sb)
          have hpl : (plainV ys).length = (plainE S9.all).length := by
            have h1 := congrArg List.length (plainV_e ys)
            rwa [List.length_map, esb] at h1
          have hyl : ys.length ≤ 100000 := by
            have h1 := congrArg List.length esb
            rw [List.length_map] at h1
            omega
          have HPC := Lib.hid (plain_c wb vb ys ekb.1.er hyl)
          obtain ⟨adb, capb, rfl, _, _⟩ := ekb.1.er
          clear ekb esb lb sb HOP
          go_wp2_with fail
          refine HPC.out.mono ?_
          rintro e wc ⟨vc, rfl, rc, bc⟩
          obtain ⟨adc, capc, rfl⟩ : ∃ adc capc, vc = .slice adc (plainV ys).length capc := by
            rcases rc.2 with ⟨rfl, h0⟩ | ⟨g', cap', cur, rfl, _⟩
            · exact ⟨none, 0, by rw [h0]⟩
            · exact ⟨_, _, rfl⟩
          have l1 : f ≤ (plainV ys).length := by omega
          have l2 : (plainV ys).length ≤ j := by omega
          generalize (plainV ys).length = Y at *
          have l1' : decide ((f : Int) ≤ (Y : Int)) = true := by simpa using l1
          have l2' : decide ((Y : Int) ≤ (j : Int)) = true := by simpa using l2
          have HAW := Lib.hid (awake_c wc ((HGb.out.below bc).tabs HT0.out))
          have HGc := Lib.hid (HGb.out.below bc)
          clear rc bc HPC hpl hyl hlo hhi hal
          go_wp2_with fail
          refine HAW.out.mono ?_
          rintro e wd ⟨rfl, bd⟩
          have HGd := Lib.hid (HGc.out.below bd)
          clear bd HAW
          go_wp2
          go_ret
          exact ⟨by first | rfl | simp, bn HB0.out HGd.out.bl⟩
end Go.Proofs.YtjdmgfcclpdmkaaGreatDoor
namespace Go.Proofs.YtjdmgfcclpdmkaaGreatDoor
open Go.RowKit Go.ChangeShapes Go.WideShapes Go.ChangeAt Go.Deep

set_option maxRecDepth 100000 in
theorem loose_lifted (os : Os) (started : os.Started) (H : Type) (enc : TypeId × Value → H) :
    ReturnsInHanded {} Tryz.checked os 7 .any (fun w args => (Rows.ledgerLooseSpec.pre enc Tryz.prog Tryz.f7 [] false w args ∧ laidMetH Tryz.prog Rows.ledgerLooseRow.laid w) ∧ sizedMet enc Tryz.prog Tryz.f7 (OpenSpec.ofChange Rows.ledgerLooseSpec) false w args)
      (Rows.ledgerLooseSpec.post enc Tryz.prog Tryz.f7 false true false false) := by
  refine laid_lift (C := Tryz.checked) (L := seatLaid) own started (by kernel_rfl) Tryz.func7
    (ChangeSpec.witness_shaped (enc := enc) (C := Tryz.checked) (os := os) (X := fun w _ => laidMetH Tryz.prog seatLaid w) false (World.laidAll Tryz.prog os seatLaid) #[.int .i64 0, .string ⟨#[]⟩, .int .i64 0] 8 (World.laidAll_os _ _ _)
      (World.shaped_of_ZipB (by kernel_rfl) (by kernel_rfl)) (by kernel_rfl) (by kernel_rfl) (by kernel_rfl) (laid_world os _)) laidOut
    (by rw [Tryz.params7]; exact of_decide_eq_true (by kernel_rfl)) rfl 4 Tryz.underlying4 (by kernel_rfl)
    (fun ds h => by
      rw [Tryz.params7] at h
      match ds, h with
      | [_, _, _], _ => rfl) ?_
  intro W base args ds ps hval hA hL
  rw [Tryz.params7] at hA hval
  have hT := tabs_of_laid W hL
  obtain ⟨v0, v1, v2, d0, d1, d2, p0, p1, p2, rfl, rfl, rfl, h0, h1, h2⟩ := trodAll_three hA
  obtain ⟨n, rfl, rfl, rfl, _⟩ := open_int Tryz.underlying3 (hval 0 3 v0 rfl rfl) h0
  obtain ⟨s, rfl, rfl, rfl, ws⟩ := Go.ChangeMaps.open_string Tryz.underlying9 (hval 1 9 v1 rfl rfl) h1
  obtain ⟨c, rfl, rfl, rfl, _⟩ := open_int Tryz.underlying3 (hval 2 3 v2 rfl rfl) h2
  exact loose_law n c s W (by unfold maxLen at ws; omega) hT

theorem loose_holds : Rows.LedgerLooseSaid :=
  OpenClaim.holds_of_wide 7 Tryz.f7 rfl rfl rfl rfl rfl rfl rfl ⟨rfl, rfl, rfl, rfl, rfl⟩ rfl rfl rfl rfl rfl (by kernel_rfl) Tryz.func7 (by kernel_rfl)
    (of_decide_eq_true (by kernel_rfl)) (by unfold Func.isWrapper; first | (rw [if_pos (by decide +kernel)]; kernel_rfl) | (rw [if_neg (by decide +kernel)]; exact ⟨rfl, rfl⟩))
    (fun os started H enc _ => loose_lifted os started H enc)

theorem loose_card : Rows.LedgerLooseCardSaid :=
  Claim7.holds_tied_plain_at .later [] _ _ _ _ loose_holds (fun _ h => by cases h) (by kernel_rfl) (fun _ h => by cases h) ledgerLoose_row_tie rfl ⟨rfl, rfl⟩ (by kernel_rfl) rfl
    (fun f fn hf hfn => by
      obtain rfl : f = 7 := Option.some.inj ((show Tryz.prog.funcNamed Rows.ledgerLooseRow.func = some 7 by kernel_rfl).symm.trans hf) |>.symm
      obtain rfl : fn = Tryz.f7 := (Option.some.inj (Tryz.func7.symm.trans hfn)).symm
      exact ⟨by kernel_rfl, fun j t ht => by
        rw [Tryz.params7] at ht
        have hm : t ∈ [3, 9, 3] := by simpa using Array.mem_of_getElem? ht
        have hall : ([3, 9, 3].all fun u => !Tryz.prog.wantsStandIn u) = true := by kernel_rfl
        exact (show Tryz.prog.wantsStandIn t = false by simpa using List.all_eq_true.1 hall t hm)⟩)
    (by kernel_rfl)
#print axioms loose_card
end Go.Proofs.YtjdmgfcclpdmkaaGreatDoor
