/-
  PROVED: LedgerFull answers true, whatever numbers it is given. Conditions: the seven listed variables of the library hold what the program's text, and the pinned table, lay (the card ties them).
-/
import Derived.Test.YtjdmgfcclpdmkaaGreatDoorPkLg
import Derived.Test.YtjdmgfcclpdmkaaGreatDoorPkLift
namespace Go.Proofs.YtjdmgfcclpdmkaaGreatDoor
open Go.RowKit Go.Lib
set_option maxRecDepth 100000

/-- A mark of zeros in a box, and its list, that nobody turns. -/
structure Kp (w : World) (own : Nat → Prop) (eb lk : Nat) : Prop where
  bx : Bx 43 w eb #[.int .i64 3, .slice none 0 0, .slice (some ⟨lk, 0, none⟩) 2 2, .int .i64 0, .int .i64 0, .int .i64 0, .int .i64 0, .string ⟨#[]⟩]
  ls : Bx 3 w lk #[.int .i64 0, .int .i64 0]
  ne : ¬ own eb
  nl : ¬ own lk
theorem Kp.step {w w' : World} {own own' : Nat → Prop} {eb lk : Nat} (h : Kp w own eb lk) (hs : Step w own w' own') : Kp w' own' eb lk :=
  ⟨(hs.turn.block _ h.bx.lt h.ne).trans h.bx, (hs.turn.block _ h.ls.lt h.nl).trans h.ls, hs.not h.ne h.bx.lt, hs.not h.nl h.ls.lt⟩
theorem Kp.below {w w' : World} {own : Nat → Prop} {eb lk : Nat} (h : Kp w own eb lk) (hb : Below w.heap.size w w') : Kp w' own eb lk := h.step (.ofBelow hb)
theorem Kp.list {w : World} {own : Nat → Prop} {eb lk : Nat} (h : Kp w own eb lk) : Nl w (.slice (some ⟨lk, 0, none⟩) 2 2) [0, 0] := by
  refine .inr ⟨_, 2, rfl, fun _ => ⟨lk, 0, rfl, fun k hk => ?_⟩⟩
  match k, hk with
  | 0, _ => exact h.ls.cell 0
  | 1, _ => exact h.ls.cell 1

set_option maxHeartbeats 16000000 in
theorem full_law (room many : Int) (w : World) (hT : Tabs w) : Calls Tryz.prog 6 #[.int .i64 room, .int .i64 many] w fun e w' => e = .returned (.bool true) ∧ Below w.heap.size w w' := by
  have HT := Lib.hid hT
  have HL := Lib.hid (low_c room 600 w (by omega) (by omega))
  have CL : Hid (∀ W, Calls Tryz.prog 25 #[.int .i64 many, .int .i64 30] W (lowT 30 W)) := Lib.hid (fun W => low_c many 30 W (by omega) (by omega))
  unfold lowT at HL CL
  clear hT
  go_enter Tryz.func6, Tryz.ntmps6
  go_wp2_with fail
  refine HL.out.mono ?_
  rintro e w' ⟨r, rfl, hr0, hr1, rfl⟩
  obtain ⟨R, rfl⟩ := Int.eq_ofNat_of_zero_le hr0
  have hR : R < 600 := by omega
  clear hr0 hr1
  have HN := Lib.hid (dNew w R (by omega))
  clear HL
  go_wp2_with fail
  refine HN.out.mono ?_
  rintro e w1 ⟨p, own1, rfl, d1, o1, b1⟩
  have HG1 : Hid (Gr w w1 own1) := Lib.hid ⟨b1, o1⟩
  have HO := Lib.hid (new_S 2 d1 (by omega) (by omega) (by omega) (fun W own' hs => (HG1.out.step hs).tabs HT.out))
  clear d1 o1 b1 HN
  by_cases hf : usedP (Lg.new 2).P ≤ R
  · go_wp2_with fail
    refine HO.out.mono ?_
    intro e w2 hh
    obtain ⟨v2, xs2, own2, rfl, ek2, es2, l2, s2⟩ := hh.1 hf
    obtain ⟨ad2, cap2, rfl, _, _⟩ := ek2.1.er
    have HL2 := Lib.hid l2
    have HG2 := Lib.hid (HG1.out.step s2)
    have hsz1 := HG1.out.bl.size
    have hA2 := alloc_below w2 (.cells #[.int .i64 0, .int .i64 0] 3)
    have hA3 := alloc_below (w2.alloc (.cells #[.int .i64 0, .int .i64 0] 3)) (.cells #[.int .i64 3, .slice none 0 0, .slice (some ⟨w2.heap.size, 0, none⟩) 2 2, .int .i64 0, .int .i64 0, .int .i64 0, .int .i64 0, .string ⟨#[]⟩] 43)
    have hzz : (w2.alloc (.cells #[.int .i64 0, .int .i64 0] 3)).heap.size = w2.heap.size + 1 := by simp
    have hgl := l2.lt
    have HK0 : Hid (Kp ((w2.alloc (.cells #[.int .i64 0, .int .i64 0] 3)).alloc (.cells #[.int .i64 3, .slice none 0 0, .slice (some ⟨w2.heap.size, 0, none⟩) 2 2, .int .i64 0, .int .i64 0, .int .i64 0, .int .i64 0, .string ⟨#[]⟩] 43)) (plusB own2 w1.heap.size) (w2.heap.size + 1) w2.heap.size) := Lib.hid ⟨by rw [← hzz]; exact Bx.new _ _ _, (Bx.new _ _ _).alloc _, fun k => by
      rcases k with k | k
      · have := l2.dr.up k; omega
      · omega, fun k => by
      rcases k with k | k
      · have := l2.dr.up k; omega
      · omega⟩
    have HL3 := Lib.hid ((l2.below hA2).below hA3)
    have HG3 := Lib.hid ((HG2.out.below hA2).below hA3)
    clear ek2 es2 l2 s2 hA2 hA3 hh HO HL2 HG2 hzz hgl
    go_wp2
    go_loopw [9, 11] (fun v9 v11 wr => ∃ (j : Nat) (S : Lg) (own : Nat → Prop), j ≤ 30 ∧ v9 = .int .i64 (j : Int) ∧ v11 = .int .i64 (j : Int) ∧ Hid (S.n = 2) ∧ Hid (S.k = 1) ∧ Hid (S.A.length ≤ j) ∧ Hid ((plainE S.all).length = j) ∧ Hid (Led wr w1.heap.size p R S own) ∧ Hid (Gr w wr own) ∧ Hid (Kp wr (plusB own w1.heap.size) (w2.heap.size + 1) w2.heap.size)) (fun _ v11 _ => 30 - (RowKit.intOf v11).toNat)
    case atStart => exact ⟨0, Lg.new 2, own2, by omega, rfl, rfl, Lib.hid rfl, Lib.hid rfl, Lib.hid (by simp [Lg.new]), Lib.hid (by simp [Lg.new, Lg.all, plainE, baseE]), HL3, HG3, HK0⟩
    case round =>
      obtain ⟨j, S, own, hj, rfl, rfl, HSn, HSk, HSA, HPL, HLD, HGR, HKP⟩ := hrel
      go_wp2_with fail
      refine (CL.out wr).mono ?_
      rintro e w' ⟨r, rfl, hr0, hr1, rfl⟩
      obtain ⟨M, rfl⟩ := Int.eq_ofNat_of_zero_le hr0
      have hM : M < 30 := by omega
      clear hr0 hr1
      by_cases hjm : j < M
      · have hkp := HKP.out
        obtain ⟨p0, p1, p2, p3, p4, p5, p6, p7⟩ := hkp.bx.eight
        have hbl := hkp.bx.lt
        have CW := Lib.hid (write_mark HLD.out HSn.out (.slice (some ⟨w2.heap.size, 0, none⟩) 2 2) hkp.list (HGR.out.tabs HT.out) (by have := HSk.out; have := HSA.out; omega) 3 3)
        have hjm' : decide ((j : Int) < (M : Int)) = true := by simpa using hjm
        clear hkp
        by_cases hfw : usedP S.P + S.adds (markE [0, 0]) [0, 0] [0, 0] ≤ R
        · go_wp2_with fail
          refine CW.out.mono ?_
          intro e w5 hh
          obtain ⟨rfl, own5, l5, s5⟩ := hh.1 hfw
          have HL5 := Lib.hid l5
          have HG5 := Lib.hid (HGR.out.stepP hsz1 s5)
          have HK5 := Lib.hid (HKP.out.step s5)
          have hus := l5.dr.us.1
          have HUS := Lib.hid (dUsed l5.dr)
          have hA5 : (S.write (markE [0, 0]) [0, 0] [0, 0]).A.length ≤ j + 1 := by have := Lg.write_A S (markE [0, 0]) [0, 0] [0, 0]; have := HSA.out; omega
          have hP5 : (plainE (S.write (markE [0, 0]) [0, 0] [0, 0]).all).length = j + 1 := by
            rw [Lg.plain_write _ _ _ _ (by decide), List.length_append, HPL.out]
            rfl
          have HA5 := Lib.hid hA5
          have HP5 := Lib.hid hP5
          have HN5 : Hid ((S.write (markE [0, 0]) [0, 0] [0, 0]).n = 2 ∧ (S.write (markE [0, 0]) [0, 0] [0, 0]).k = 1) := Lib.hid ⟨by rw [Lg.write_n]; exact HSn.out, by rw [Lg.write_k]; exact HSk.out⟩
          generalize S.write (markE [0, 0]) [0, 0] [0, 0] = S5 at *
          have hu : decide (R < usedP S5.P) = false := by simp; omega
          have hu2 : ¬ R < usedP S5.P := by omega
          clear l5 s5 hh CW hA5 hP5 hfw p0 p1 p2 p3 p4 p5 p6 p7 hbl hus
          go_wp2_with fail
          refine HUS.out.mono ?_
          rintro e w6 ⟨rfl, rfl⟩
          go_wp2
          go_roundw
          case rel => exact ⟨j + 1, S5, own5, by omega, by go_num, by go_num, Lib.hid HN5.out.1, Lib.hid HN5.out.2, HA5, HP5, HL5, HG5, HK5⟩
          case measure => simp [RowKit.intOf]; omega
        · go_wp2_with fail
          refine CW.out.mono ?_
          intro e w5 hh
          obtain ⟨rfl, b5⟩ := hh.2 (by omega)
          have HLD' := Lib.hid (HLD.out.below b5)
          have HGR' := Lib.hid (HGR.out.below b5)
          clear hh CW b5 HLD HGR p0 p1 p2 p3 p4 p5 p6 p7 hbl
          have HLD := HLD'
          have HGR := HGR'
          clear HLD' HGR'
          have HSY := Lib.hid (sync_S HLD.out)
          go_wp2_with fail
          refine HSY.out.mono ?_
          rintro e wa ⟨rfl, owna, la, sa⟩
          have HGa := Lib.hid (HGR.out.step sa)
          have hn2 : S.sync.n = 2 := HSn.out
          have HOP := Lib.hid (open_S la.dr la.ok (by omega) (HGa.out.tabs HT.out))
          rw [hn2] at HOP
          clear la sa HSY hn2
          go_wp2_with fail
          refine HOP.out.mono ?_
          rintro e wb ⟨vb, ys, ownb, rfl, ekb, esb, lb, sb⟩
          have HGb := Lib.hid (HGa.out.step sb)
          have hlen : (plainV ys).length = j := by
            have h1 := congrArg List.length (plainV_e ys)
            rw [List.length_map, esb] at h1
            have e : S.sync.all = S.all := rfl
            rw [e] at h1
            rw [h1]
            exact HPL.out
          have hyl : ys.length ≤ 100000 := by
            have h1 := congrArg List.length esb
            rw [List.length_map] at h1
            have h2 := lb.ok.len
            have h3 : (plainE S.sync.all).length = j := HPL.out
            have h4 : S.sync.A.length ≤ j := HSA.out
            omega
          have HPC := Lib.hid (plain_c wb vb ys ekb.1.er hyl)
          obtain ⟨adb, capb, rfl, _, _⟩ := ekb.1.er
          clear ekb esb lb sb HOP
          go_wp2_with fail
          refine HPC.out.mono ?_
          rintro e wc ⟨vc, rfl, rc, bc⟩
          obtain ⟨adc, capc, rfl⟩ : ∃ adc capc, vc = .slice adc (plainV ys).length capc := by
            rcases rc.2 with ⟨rfl, h0⟩ | ⟨g', cap', cur, rfl, _⟩
            · exact ⟨none, 0, by rw [h0]⟩
            · exact ⟨_, _, rfl⟩
          rw [hlen]
          have HAW := Lib.hid (awake_c wc ((HGb.out.below bc).tabs HT.out))
          have HGc := Lib.hid (HGb.out.below bc)
          clear rc bc HPC hlen hyl
          go_wp2_with fail
          refine HAW.out.mono ?_
          rintro e wd ⟨rfl, bd⟩
          have HGd := Lib.hid (HGc.out.below bd)
          clear bd HAW
          go_wp2
          go_ret
          exact ⟨by first | rfl | simp, HGd.out.bl⟩
      · have hjm' : decide ((j : Int) < (M : Int)) = false := by simpa using hjm
        have HSY := Lib.hid (sync_S HLD.out)
        go_wp2_with fail
        refine HSY.out.mono ?_
        rintro e wa ⟨rfl, owna, la, sa⟩
        have HGa := Lib.hid (HGR.out.step sa)
        have hn2 : S.sync.n = 2 := HSn.out
        have HOP := Lib.hid (open_S la.dr la.ok (by omega) (HGa.out.tabs HT.out))
        rw [hn2] at HOP
        clear la sa HSY hn2
        go_wp2_with fail
        refine HOP.out.mono ?_
        rintro e wb ⟨vb, ys, ownb, rfl, ekb, esb, lb, sb⟩
        have HGb := Lib.hid (HGa.out.step sb)
        have hlen : (plainV ys).length = j := by
          have h1 := congrArg List.length (plainV_e ys)
          rw [List.length_map, esb] at h1
          have e : S.sync.all = S.all := rfl
          rw [e] at h1
          rw [h1]
          exact HPL.out
        have hyl : ys.length ≤ 100000 := by
          have h1 := congrArg List.length esb
          rw [List.length_map] at h1
          have h2 := lb.ok.len
          have h3 : (plainE S.sync.all).length = j := HPL.out
          have h4 : S.sync.A.length ≤ j := HSA.out
          omega
        have HPC := Lib.hid (plain_c wb vb ys ekb.1.er hyl)
        obtain ⟨adb, capb, rfl, _, _⟩ := ekb.1.er
        clear ekb esb lb sb HOP
        go_wp2_with fail
        refine HPC.out.mono ?_
        rintro e wc ⟨vc, rfl, rc, bc⟩
        obtain ⟨adc, capc, rfl⟩ : ∃ adc capc, vc = .slice adc (plainV ys).length capc := by
          rcases rc.2 with ⟨rfl, h0⟩ | ⟨g', cap', cur, rfl, _⟩
          · exact ⟨none, 0, by rw [h0]⟩
          · exact ⟨_, _, rfl⟩
        rw [hlen]
        have HAW := Lib.hid (awake_c wc ((HGb.out.below bc).tabs HT.out))
        have HGc := Lib.hid (HGb.out.below bc)
        clear rc bc HPC hlen hyl
        go_wp2_with fail
        refine HAW.out.mono ?_
        rintro e wd ⟨rfl, bd⟩
        have HGd := Lib.hid (HGc.out.below bd)
        clear bd HAW
        go_wp2
        go_ret
        exact ⟨by first | rfl | simp, HGd.out.bl⟩
  · go_wp2_with fail
    refine HO.out.mono ?_
    intro e w2 hh
    obtain ⟨rfl, own2, d2, s2⟩ := hh.2 (by omega)
    have HG2 := Lib.hid (HG1.out.step s2)
    have HAW := Lib.hid (awake_c w2 (HG2.out.tabs HT.out))
    clear hh d2 s2 HO
    go_wp2_with fail
    refine HAW.out.mono ?_
    rintro e w3 ⟨rfl, b3⟩
    have HG3 := Lib.hid (HG2.out.below b3)
    clear b3
    go_wp2
    go_ret
    exact ⟨by first | rfl | simp, HG3.out.bl⟩
end Go.Proofs.YtjdmgfcclpdmkaaGreatDoor
namespace Go.Proofs.YtjdmgfcclpdmkaaGreatDoor
open Go.RowKit Go.ChangeShapes Go.WideShapes Go.ChangeAt Go.Deep

set_option maxRecDepth 100000 in
theorem full_lifted (os : Os) (started : os.Started) (H : Type) (enc : TypeId × Value → H) :
    ReturnsInHanded {} Tryz.checked os 6 .any (fun w args => (Rows.ledgerFullSpec.pre enc Tryz.prog Tryz.f6 [] false w args ∧ laidMetH Tryz.prog Rows.ledgerFullRow.laid w) ∧ sizedMet enc Tryz.prog Tryz.f6 (OpenSpec.ofChange Rows.ledgerFullSpec) false w args)
      (Rows.ledgerFullSpec.post enc Tryz.prog Tryz.f6 false true false false) := by
  refine laid_lift (C := Tryz.checked) (L := seatLaid) own started (by kernel_rfl) Tryz.func6
    (ChangeSpec.witness_shaped (enc := enc) (C := Tryz.checked) (os := os) (X := fun w _ => laidMetH Tryz.prog seatLaid w) false (World.laidAll Tryz.prog os seatLaid) #[.int .i64 0, .int .i64 0] 8 (World.laidAll_os _ _ _)
      (World.shaped_of_ZipB (by kernel_rfl) (by kernel_rfl)) (by kernel_rfl) (by kernel_rfl) (by kernel_rfl) (laid_world os _)) laidOut
    (by rw [Tryz.params6]; exact of_decide_eq_true (by kernel_rfl)) rfl 4 Tryz.underlying4 (by kernel_rfl)
    (fun ds h => by
      rw [Tryz.params6] at h
      match ds, h with
      | [_, _], _ => rfl) ?_
  intro W base args ds ps hval hA hL
  rw [Tryz.params6] at hA hval
  have hT := tabs_of_laid W hL
  obtain ⟨v0, v1, d0, d1, p0, p1, rfl, rfl, rfl, h0, h1⟩ := trodAll_two hA
  obtain ⟨n, rfl, rfl, rfl, _⟩ := open_int Tryz.underlying3 (hval 0 3 v0 rfl rfl) h0
  obtain ⟨c, rfl, rfl, rfl, _⟩ := open_int Tryz.underlying3 (hval 1 3 v1 rfl rfl) h1
  exact full_law n c W hT

theorem full_holds : Rows.LedgerFullSaid :=
  OpenClaim.holds_of_wide 6 Tryz.f6 rfl rfl rfl rfl rfl rfl rfl ⟨rfl, rfl, rfl, rfl, rfl⟩ rfl rfl rfl rfl rfl (by kernel_rfl) Tryz.func6 (by kernel_rfl)
    (of_decide_eq_true (by kernel_rfl)) (by unfold Func.isWrapper; first | (rw [if_pos (by decide +kernel)]; kernel_rfl) | (rw [if_neg (by decide +kernel)]; exact ⟨rfl, rfl⟩))
    (fun os started H enc _ => full_lifted os started H enc)

theorem full_card : Rows.LedgerFullCardSaid :=
  Claim7.holds_tied_plain_at .later [] _ _ _ _ full_holds (fun _ h => by cases h) (by kernel_rfl) (fun _ h => by cases h) ledgerFull_row_tie rfl ⟨rfl, rfl⟩ (by kernel_rfl) rfl
    (fun f fn hf hfn => by
      obtain rfl : f = 6 := Option.some.inj ((show Tryz.prog.funcNamed Rows.ledgerFullRow.func = some 6 by kernel_rfl).symm.trans hf) |>.symm
      obtain rfl : fn = Tryz.f6 := (Option.some.inj (Tryz.func6.symm.trans hfn)).symm
      exact ⟨by kernel_rfl, fun j t ht => by
        rw [Tryz.params6] at ht
        have hm : t ∈ [3, 3] := by simpa using Array.mem_of_getElem? ht
        have hall : ([3, 3].all fun u => !Tryz.prog.wantsStandIn u) = true := by kernel_rfl
        exact (show Tryz.prog.wantsStandIn t = false by simpa using List.all_eq_true.1 hall t hm)⟩)
    (by kernel_rfl)
#print axioms full_card
end Go.Proofs.YtjdmgfcclpdmkaaGreatDoor
