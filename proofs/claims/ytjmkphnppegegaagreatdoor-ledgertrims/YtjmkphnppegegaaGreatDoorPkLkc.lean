/-
  LedgerCrash: behind a crash there is a beginning of what was written, and all of it that was synced; and it goes on from there.
-/
import Derived.Test.YtjmkphnppegegaaGreatDoorPkLe
namespace Go.Proofs.YtjmkphnppegegaaGreatDoor
open Go.RowKit Go.Lib
set_option maxRecDepth 100000

theorem EvAt.parts {w : World} {b o : Nat} {d : En} {A B : Value} (h : EvAt w b o ⟨d, A, B⟩) : Nl w A d.v ∧ Nl w B d.w := h.2
/-- What an entry's lists are bounded by. -/
theorem may_lens {e : En} {n : Int} (h : mayE e n = true) : e.v.length ≤ 1000000 ∧ e.w.length ≤ 1000000 := by
  have := someE_len (mayE_some h)
  omega

set_option maxHeartbeats 16000000 in
theorem crash_law (ad : Option Addr) (cap : Nat) (l : List Ev) (bits stay : Int) (d : En) (adA : Option Addr) (capA : Nat) (adB : Option Addr) (capB : Nat) (w : World) (hE : Er w (.slice ad l.length cap) l) (hs : ∀ x ∈ l, x.e.r.t.size ≤ 9223372036854775807) (ha : Nl w (.slice adA d.v.length capA) d.v) (hb : Nl w (.slice adB d.w.length capB) d.w) (hms : d.r.t.size ≤ 9223372036854775807) (hT : Tabs w) :
    Calls Tryz.prog 4 #[.slice ad l.length cap, .int .i64 bits, .int .i64 stay, .agg #[.int .i64 d.k, .slice adA d.v.length capA, .slice adB d.w.length capB, .int .i64 d.r.o, .int .i64 d.r.s, .int .i64 d.r.w, .int .i64 d.r.c, .string d.r.t]] w fun e w' => e = .returned (.bool true) ∧ Below w.heap.size w w' := by
  have HT := Lib.hid hT
  have HHS := Lib.hid hs
  have HAL := Lib.hid (alloc_below w (.cells #[.int .i64 d.k, .slice adA d.v.length capA, .slice adB d.w.length capB, .int .i64 d.r.o, .int .i64 d.r.s, .int .i64 d.r.w, .int .i64 d.r.c, .string d.r.t] 43))
  have CG := Lib.hid (great_c (w.alloc (.cells #[.int .i64 d.k, .slice adA d.v.length capA, .slice adB d.w.length capB, .int .i64 d.r.o, .int .i64 d.r.s, .int .i64 d.r.w, .int .i64 d.r.c, .string d.r.t] 43)) (.slice ad l.length cap) l 30 (hE.below HAL.out) (by omega))
  have HE := Lib.hid hE
  have HA := Lib.hid ha
  have HB := Lib.hid hb
  clear hT hs hE ha hb
  cases hg : greatE l 30 with
  | true =>
    rw [hg] at CG
    have HAW := Lib.hid (awake_c _ (HT.out.below HAL.out))
    go_enter Tryz.func4, Tryz.ntmps4
    go_wp2_with fail
    refine CG.out.mono ?_
    rintro e w2 ⟨rfl, rfl⟩
    clear CG hg
    go_wp2_with fail
    refine HAW.out.mono ?_
    rintro e w3 ⟨rfl, b3⟩
    go_wp2
    go_ret
    exact ⟨rfl, bn HAL.out b3⟩
  | false =>
    rw [hg] at CG
    have HG := Lib.hid (great_no hg)
    have er1 := Er.one (w.alloc (.cells #[.int .i64 d.k, .slice adA d.v.length capA, .slice adB d.w.length capB, .int .i64 d.r.o, .int .i64 d.r.s, .int .i64 d.r.w, .int .i64 d.r.c, .string d.r.t] 43)) ⟨d, .slice adA d.v.length capA, .slice adB d.w.length capB⟩ 43 (HA.out.below HAL.out) (HB.out.below HAL.out)
    rw [show (w.alloc (.cells #[.int .i64 d.k, .slice adA d.v.length capA, .slice adB d.w.length capB, .int .i64 d.r.o, .int .i64 d.r.s, .int .i64 d.r.w, .int .i64 d.r.c, .string d.r.t] 43)).heap.size = w.heap.size + 1 by simp] at er1
    have bx1 : Bx 43 (w.alloc (.cells #[.int .i64 d.k, .slice adA d.v.length capA, .slice adB d.w.length capB, .int .i64 d.r.o, .int .i64 d.r.s, .int .i64 d.r.w, .int .i64 d.r.c, .string d.r.t] 43)) w.heap.size #[.int .i64 d.k, .slice adA d.v.length capA, .slice adB d.w.length capB, .int .i64 d.r.o, .int .i64 d.r.s, .int .i64 d.r.w, .int .i64 d.r.c, .string d.r.t] := Bx.new _ _ _
    have hal2 := alloc_below (w.alloc (.cells #[.int .i64 d.k, .slice adA d.v.length capA, .slice adB d.w.length capB, .int .i64 d.r.o, .int .i64 d.r.s, .int .i64 d.r.w, .int .i64 d.r.c, .string d.r.t] 43)) (.cells #[.int .i64 d.k, .slice adA d.v.length capA, .slice adB d.w.length capB, .int .i64 d.r.o, .int .i64 d.r.s, .int .i64 d.r.w, .int .i64 d.r.c, .string d.r.t] 43)
    have CG2 : Hid (Calls Tryz.prog 9 #[.slice (some ⟨w.heap.size + 1, 0, none⟩) 1 1, .int .i64 1] ((w.alloc (.cells #[.int .i64 d.k, .slice adA d.v.length capA, .slice adB d.w.length capB, .int .i64 d.r.o, .int .i64 d.r.s, .int .i64 d.r.w, .int .i64 d.r.c, .string d.r.t] 43)).alloc (.cells #[.int .i64 d.k, .slice adA d.v.length capA, .slice adB d.w.length capB, .int .i64 d.r.o, .int .i64 d.r.s, .int .i64 d.r.w, .int .i64 d.r.c, .string d.r.t] 43)) fun e w' => e = .returned (.bool (greatE [⟨d, .slice adA d.v.length capA, .slice adB d.w.length capB⟩] 1)) ∧ Below w.heap.size w w' ∧ Bx 43 w' w.heap.size #[.int .i64 d.k, .slice adA d.v.length capA, .slice adB d.w.length capB, .int .i64 d.r.o, .int .i64 d.r.s, .int .i64 d.r.w, .int .i64 d.r.c, .string d.r.t]) := Lib.hid ((great_c _ _ _ 1 er1 (by omega)).mono (by
      rintro e w' ⟨rfl, rfl⟩
      exact ⟨rfl, bn HAL.out hal2, bx1.below hal2⟩))
    clear er1 bx1 hal2
    cases hg2 : greatE [(⟨d, .slice adA d.v.length capA, .slice adB d.w.length capB⟩ : Ev)] 1 with
    | true =>
      rw [hg2] at CG2
      go_enter Tryz.func4, Tryz.ntmps4
      go_wp2_with fail
      refine CG.out.mono ?_
      rintro e w2 ⟨rfl, rfl⟩
      clear CG hg hg2
      go_wp2_with fail
      refine CG2.out.mono ?_
      rintro e w0 ⟨rfl, b0, _⟩
      have HB0 := Lib.hid b0
      have HAW := Lib.hid (awake_c w0 (HT.out.below b0))
      clear CG2 b0
      go_wp2_with fail
      refine HAW.out.mono ?_
      rintro e w3 ⟨rfl, b3⟩
      go_wp2
      go_ret
      exact ⟨rfl, bn HB0.out b3⟩
    | false =>
      rw [hg2] at CG2
      have HG2 := Lib.hid ((great_no hg2).2 _ (List.mem_singleton.2 rfl))
      clear hg hg2
      go_enter Tryz.func4, Tryz.ntmps4
      go_wp2_with fail
      refine CG.out.mono ?_
      rintro e w2 ⟨rfl, rfl⟩
      clear CG
      go_wp2_with fail
      refine CG2.out.mono ?_
      rintro e w0 ⟨rfl, b0, bx0⟩
      have HB0 := Lib.hid b0
      have HBX := Lib.hid bx0
      have HT0 := Lib.hid (HT.out.below b0)
      have HE0 := Lib.hid (HE.out.below b0)
      have HA0 := Lib.hid (HA.out.below b0)
      have HBB := Lib.hid (HB.out.below b0)
      have HN := Lib.hid (dNew w0 60000 (by omega))
      clear b0 bx0 CG2 HA HB HE HT HAL
      go_wp2_with fail
      refine HN.out.mono ?_
      rintro e w1 ⟨p, own1, rfl, d1, o1, b1⟩
      have HO : Hid (Calls Tryz.prog 12 #[.pointer (some ⟨p, 0, none⟩), .int .i64 3] (w1.alloc (.cells #[.int .i64 0, .int .i64 0, .int .i64 0] 3)) fun e w2 => ∃ A C own2, e = .returned (.tuple #[.pointer (some ⟨w1.heap.size + 1, 0, none⟩), .slice A 1 C, .int .i64 0]) ∧ Cr w0 w2 w1.heap.size (w1.heap.size + 1) p (Lg.new 3) own2 (.slice none 0 0) [] [0, 0, 0]) := Lib.hid (cr_start 3 (by omega) (by omega) [0, 0, 0] d1 o1 b1 HT0.out)
      clear d1 o1 b1 HN
      go_wp2_with fail
      refine HO.out.mono ?_
      rintro e w2 ⟨A2, C2, own2, rfl, c2⟩
      have HC2 := Lib.hid c2
      clear c2 HO
      go_wp2
      go_loopw [14, 15, 16] (fun v14 v15 v16 wr => ∃ (j f : Nat) (S : Lg) (own : Nat → Prop) (ys : List Ev), j ≤ l.length ∧ v16 = .int .i64 (j : Int) ∧ v15 = .int .i64 (f : Int) ∧ Hid (ys.length ≤ j) ∧ Hid (Cs 3 S (ys.map Ev.e) f) ∧ Hid (Cr w0 wr w1.heap.size (w1.heap.size + 1) p S own v14 ys [0, 0, 0])) (fun _ _ v16 _ => l.length - (RowKit.intOf v16).toNat)
      case atStart => exact ⟨0, 0, Lg.new 3, own2, [], by omega, rfl, rfl, Lib.hid (by simp), Lib.hid (Cs.new (by omega) (by omega)), HC2⟩
      case round =>
        obtain ⟨j, f, S, own, ys, hj, rfl, rfl, HYL, HCS, HCR⟩ := hrel
        have hll := HG.out.1
        by_cases hjl : j < l.length
        · obtain ⟨b, o, rfl, _, a1⟩ := HE0.out.cellsAt j hjl
          have hJ := Lib.hid hjl
          have hbig := HG.out.2 _ (List.getElem_mem hjl)
          have htx := HHS.out _ (List.getElem_mem hjl)
          generalize l[j] = X at a1 hbig htx
          obtain ⟨x, A, B⟩ := X
          simp only at hbig htx
          have HAT := Lib.hid a1
          have HN0 := Lib.hid a1.parts
          obtain ⟨aA, cA, rfl, _⟩ := a1.parts.1.form
          obtain ⟨aB, cB, rfl, _⟩ := a1.parts.2.form
          obtain ⟨⟨p0, p1, p2, p3, p4, p5, p6, p7⟩, hA, hB⟩ := a1.below HCR.out.gr.bl
          simp only at p0 p1 p2 p3 p4 p5 p6 p7 hA hB
          have hgl := World.block_lt_of_cell? wr _ p0
          have CM := Lib.hid (refmaye_c x _ _ 3 wr hA hB (by omega) (by omega) htx (HCR.out.gr.tabs HT0.out))
          clear hA hB a1 hbig htx
          cases hm : mayE x 3 with
          | false =>
            rw [hm] at CM
            clear hm
            go_wp2_with fail
            refine CM.out.mono ?_
            rintro e w3 ⟨rfl, b3⟩
            have HC3 := Lib.hid (HCR.out.below b3)
            clear b3 CM
            go_wp2
            go_roundw
            case rel => exact ⟨j + 1, f, S, own, ys, hJ.out, by go_num, rfl, Lib.hid (Nat.le_succ_of_le HYL.out), HCS, HC3⟩
            case measure => have := hJ.out; simp [RowKit.intOf]; omega
          | true =>
            rw [hm] at CM
            have HM := Lib.hid hm
            clear hm
            go_wp2_with fail
            refine CM.out.mono ?_
            rintro e w3 ⟨rfl, b3⟩
            have HC3 := Lib.hid (HCR.out.below b3)
            obtain ⟨⟨q0, q1, q2, q3, q4, q5, q6, q7⟩, _, _⟩ := HAT.out.below HC3.out.gr.bl
            simp only at q0 q1 q2 q3 q4 q5 q6 q7
            have hgl3 := World.block_lt_of_cell? w3 _ q0
            clear b3 CM HCR p0 p1 p2 p3 p4 p5 p6 p7 hgl
            cases hk : (x.k == 1) with
            | true =>
              go_wp2
              go_roundw
              case rel => exact ⟨j + 1, f, S, own, ys, hJ.out, by go_num, rfl, Lib.hid (Nat.le_succ_of_le HYL.out), HCS, HC3⟩
              case measure => have := hJ.out; simp [RowKit.intOf]; omega
            | false =>
              have hk1 : x.k ≠ 1 := by simpa using hk
              have hz3 : mayE (baseE [0, 0, 0] [0, 0, 0]) 3 = true := base_may (by decide)
              have hyl : ys.length ≤ 30 := by have := HYL.out; omega
              have cw := HC3.out.write HCS.out.n (by have h1 := HCS.out.k; have h2 := HCS.out.A; rw [List.length_map] at h2; omega) (by have h1 := HCS.out.us; rw [List.length_map] at h1; omega) ⟨x, .slice aA x.v.length cA, .slice aB x.w.length cB⟩ HN0.out.1 HN0.out.2 HT0.out _ _ [0, 0, 0] [0, 0, 0] (HC3.out.kz (by simp)).nl (HC3.out.kz (by simp)).nl hk1 HM.out hz3
              simp only [List.length_cons, List.length_nil, Nat.zero_add, Nat.reduceAdd] at cw
              have CW := Lib.hid cw
              have HCS5 : Hid (Cs 3 (S.write x [0, 0, 0] [0, 0, 0]) ((ys ++ [(⟨x, .slice aA x.v.length cA, .slice aB x.w.length cB⟩ : Ev)]).map Ev.e) f) := Lib.hid (by
                rw [List.map_append]
                exact HCS.out.write HC3.out.ld.ok HM.out hk1 hz3)
              clear hz3 cw hk1
              go_wp2_with fail
              refine CW.out.mono ?_
              rintro e w4 ⟨rfl, own4, c4, s4⟩
              obtain ⟨⟨r0, r1, r2, r3, r4, r5, r6, r7⟩, _, _⟩ := HAT.out.below c4.gr.bl
              simp only at r0 r1 r2 r3 r4 r5 r6 r7
              have hgl4 := World.block_lt_of_cell? w4 _ r0
              obtain ⟨A5, C5, w5, run5, c5⟩ := c4.push ⟨x, .slice aA x.v.length cA, .slice aB x.w.length cB⟩ HN0.out.1 HN0.out.2 (by omega) 22 43
              have HR5 := Lib.hid run5
              have HC5 := Lib.hid c5
              have HY5 : Hid ((ys ++ [(⟨x, .slice aA x.v.length cA, .slice aB x.w.length cB⟩ : Ev)]).length ≤ j + 1) := Lib.hid (by rw [List.length_append, List.length_singleton]; have := HYL.out; omega)
              have hji : (j : Int) ≤ 30 := by omega
              generalize S.write x [0, 0, 0] [0, 0, 0] = S5 at *
              clear c4 s4 c5 run5 CW HC3 HCS HYL q0 q1 q2 q3 q4 q5 q6 q7 hgl3 hk HM HAT
              go_wp2_with (at_builtin; refine wpList_append_run rfl _ _ 22 rfl _ _ HR5.out ?_; clear HR5)
              case roundEnd => exact ⟨⟨j + 1, f, S5, own4, _, hJ.out, by go_num, rfl, HY5, HCS5, HC5⟩, by have := hJ.out; simp [RowKit.intOf]; omega⟩
              have HSY := Lib.hid HC5.out.sync
              have HCS6 := Lib.hid HCS5.out.sync
              rw [List.length_map, List.length_append, List.length_singleton] at HCS6
              clear r0 r1 r2 r3 r4 r5 r6 r7 hgl4
              refine HSY.out.mono ?_
              rintro e w6 ⟨rfl, own6, c6, s6⟩
              have HC6 := Lib.hid c6
              clear c6 s6 HSY
              go_wp2
              go_roundw
              case rel => exact ⟨j + 1, ys.length + 1, S5.sync, own6, _, hJ.out, by go_num, by go_num, HY5, HCS6, HC6⟩
              case measure => have := hJ.out; simp [RowKit.intOf]; omega
        · obtain rfl : j = l.length := by omega
          have hyl : ys.length ≤ 30 := by have := HYL.out; omega
          have e2 : decide ((l.length : Int) < (l.length : Int)) = false := by simp
          have hlz : (rowsE S.L).length - S.y ≤ 60000 := by
            have h1 := HCR.out.ld.dr.us
            rw [Lg.used] at h1
            omega
          have HLO := Lib.hid (loose_S HCR.out.ld.dr HCR.out.ld.ok)
          have HDR : Hid (∀ W, Below wr.heap.size wr W → Dr W p S.P 60000 own) := Lib.hid (fun W hW => HCR.out.ld.dr.below hW)
          generalize (rowsE S.L).length - S.y = LZ at HLO hlz
          have CL : Hid (∀ W, Calls Tryz.prog 25 #[.int .i64 stay, .int .i64 ((LZ : Int) + 2)] W (lowT ((LZ : Int) + 2) W)) := Lib.hid (fun W => low_c stay _ W (by omega) (by omega))
          unfold lowT at CL
          go_wp2_with fail
          refine HLO.out.mono ?_
          rintro e w3 ⟨rfl, b3⟩
          have HC3 := Lib.hid (HCR.out.below b3)
          clear b3 HLO HCR
          go_wp2_with fail
          refine (CL.out w3).mono ?_
          rintro e w3' ⟨r, rfl, hr0, hr1, rfl⟩
          obtain ⟨c, hc1, hc2, hcp⟩ := Lg.crash_P HC3.out.ld.ok r.toNat
          have HCP := Lib.hid (dCrash HC3.out.ld.dr r (by omega) (by rw [Lg.P_len]; have := HC3.out.ld.ok.k2; omega))
          rw [hcp] at HCP
          have HCC := Lib.hid (And.intro hc1 hc2)
          clear hr0 hr1 hc1 hc2 hcp CL HDR
          go_wp2_with fail
          refine HCP.out.mono ?_
          rintro e wa ⟨rfl, owna, da, sa⟩
          have HOP := Lib.hid (HC3.out.torn HCS.out (by omega) da sa HCC.out.1 HCC.out.2 HT0.out)
          have HZA := Lib.hid (Nat.le_trans HC3.out.gr.bl.size sa.turn.size)
          clear da sa HCP HCC
          go_wp2_with fail
          refine HOP.out.mono ?_
          rintro e wb ⟨Ab, Cb, xs, S9, ownb, rfl, ekb, f1, f2, f3, f4, f5, crb, f6, f7, f8⟩
          have HCB := Lib.hid crb
          have HEK := Lib.hid ekb
          have HPC := Lib.hid (plain_c wb _ xs ekb.1.er f5)
          have HF3 := Lib.hid (And.intro f3 f4)
          have HF6 := Lib.hid (And.intro f6 (And.intro f7 f8))
          have HNS : Hid (noS (fun i => wb.heap.size ≤ i) (.slice Ab xs.length Cb) xs) := Lib.hid ⟨fun g hg k => by have := (ekb.1.lt.1 g hg).2; omega, fun u hu g hg k => by have := (ekb.1.lt.2 u hu g hg).2; omega⟩
          have HZB := Lib.hid crb.gr.bl.size
          clear crb ekb f3 f4 f6 f7 f8 HOP HCS
          go_wp2_with fail
          refine HPC.out.mono ?_
          rintro e wc ⟨vc, rfl, rc, bc⟩
          obtain ⟨adc, capc, rfl⟩ : ∃ adc capc, vc = .slice adc (plainV xs).length capc := by
            rcases rc.2 with ⟨rfl, h0⟩ | ⟨g', cap', cur, rfl, _⟩
            · exact ⟨none, 0, by rw [h0]⟩
            · exact ⟨_, _, rfl⟩
          have HCC := Lib.hid (HCB.out.below bc)
          have HEC : Hid (EK wc (plusB ownb wa.heap.size) (wa.heap.size + 1) (.slice Ab xs.length Cb) xs) := Lib.hid ⟨(HEK.out.below bc).1, fun g hg k => by
            rcases k with k | k
            · exact HEK.out.2.1 g hg k
            · have := (HEK.out.1.lt.1 g hg).1; omega, fun u hu g hg k => by
            rcases k with k | k
            · exact HEK.out.2.2 u hu g hg k
            · have := (HEK.out.1.lt.2 u hu g hg).1; omega⟩
          have HRC : Hid (Rk wc (plusB ownb wa.heap.size) wb.heap.size (.slice adc (plainV xs).length capc) (plainV xs)) := Lib.hid ⟨rc, fun g hg k => by
            have h1 := (World.ownsRow.lt rc g hg).1
            rcases k with k | k
            · have := HCB.out.ld.dr.up k; omega
            · have := HCB.out.ld.lt; omega⟩
          have HLC := Lib.hid bc.size
          have HSB : Hid (∀ x ∈ plainV xs, x ∈ xs) := Lib.hid (fun x hx => (List.mem_filter.1 hx).1)
          have HVL : Hid (∀ x ∈ plainV xs, x.e.v.length ≤ 1000000 ∧ x.e.w.length ≤ 1000000) := Lib.hid (fun x hx => by
            have h1 : x.e ∈ plainE S9.all := by rw [← HF3.out.2]; exact List.mem_map_of_mem hx
            have h2 := HCB.out.ld.ok.may x.e ((List.mem_filter.1 h1).1)
            exact may_lens h2)
          have erl : Er wc (.slice adc (plainV xs).length capc) (plainV xs) := ERow.er rc (fun x hx => HEC.out.1.er.nls x (HSB.out x hx))
          obtain ⟨a14, c14, e14, _, _⟩ := HCC.out.er
          subst e14
          have HSL : Hid (∀ W, (Instr.sliceAt 22 (.slice a14 ys.length c14) none (some (.int .i64 ((plainV xs).length : Int))) none).run Tryz.prog W = .ok (.slice a14 (plainV xs).length c14) W) := Lib.hid (fun W => slice_ents_run HCC.out.er _ f2 W)
          have HSM := Lib.hid (sames_c (plainV xs) (ys.take (plainV xs).length) _ _ wc erl (HCC.out.er.take _ f2) HF3.out.1 (by omega) HVL.out)
          have HRK := HRC
          clear rc bc HPC erl HCB HEK HRC
          generalize hY : plainV xs = P at *
          have HPX : Hid (P.map Ev.e = plainE S9.all) := Lib.hid HF3.out.2
          have HPL := Lib.hid f2
          have l1 : decide (P.length < f) = false := by simpa using f1
          have l2 : decide (ys.length < P.length) = false := by simpa using f2
          have l1' : ¬ P.length < f := by omega
          have l2' : ¬ ys.length < P.length := by omega
          clear hY HF3
          have hsl := HSL.out
          clear HSL
          go_wp2_with fail
          refine HSM.out.mono ?_
          rintro e wd ⟨rfl, bd⟩
          have HCD := Lib.hid (HCC.out.below bd)
          have HED := Lib.hid (HEC.out.below bd)
          have HRD := Lib.hid (HRK.out.below bd)
          have HLD := Lib.hid (Nat.le_trans HLC.out bd.size)
          obtain ⟨p0, p1, p2, p3, p4, p5, p6, p7⟩ := (HBX.out.below HCD.out.gr.bl).eight
          have hbl := (HBX.out.below HCD.out.gr.bl).lt
          have CM := Lib.hid (refmaye_c d _ _ 3 wd (HA0.out.below HCD.out.gr.bl) (HBB.out.below HCD.out.gr.bl) (by have := HG2.out; omega) (by have := HG2.out; omega) hms (HCD.out.gr.tabs HT0.out))
          clear bd HSM hsl HCC HEC HRK l1 l2 l1' l2'
          cases hm : mayE d 3 with
          | false =>
            rw [hm] at CM
            clear hm
            go_wp2_with fail
            refine CM.out.mono ?_
            rintro e we ⟨rfl, be⟩
            have HCE := Lib.hid (HCD.out.below be)
            have HAW := Lib.hid (awake_c we (HCE.out.gr.tabs HT0.out))
            clear be CM p0 p1 p2 p3 p4 p5 p6 p7 hbl
            go_wp2_with fail
            refine HAW.out.mono ?_
            rintro e wf ⟨rfl, bf⟩
            have HBF := Lib.hid (bn HB0.out (HCE.out.below bf).gr.bl)
            clear bf HAW
            go_wp2
            go_ret
            exact ⟨rfl, HBF.out⟩
          | true =>
            rw [hm] at CM
            have HM := Lib.hid hm
            clear hm
            go_wp2_with fail
            refine CM.out.mono ?_
            rintro e we ⟨rfl, be⟩
            have HCE := Lib.hid (HCD.out.below be)
            have HEE := Lib.hid (HED.out.below be)
            have HRE := Lib.hid (HRD.out.below be)
            have HLE := Lib.hid (Nat.le_trans HLD.out be.size)
            clear be CM p0 p1 p2 p3 p4 p5 p6 p7 hbl HCD HED HRD
            obtain ⟨p0, p1, p2, p3, p4, p5, p6, p7⟩ := (HBX.out.below HCE.out.gr.bl).eight
            have hbl := (HBX.out.below HCE.out.gr.bl).lt
            cases hk : (d.k == 1) with
            | true =>
              have HAW := Lib.hid (awake_c we (HCE.out.gr.tabs HT0.out))
              go_wp2_with fail
              refine HAW.out.mono ?_
              rintro e wf ⟨rfl, bf⟩
              have HBF := Lib.hid (bn HB0.out (HCE.out.below bf).gr.bl)
              clear bf HAW
              go_wp2
              go_ret
              exact ⟨rfl, HBF.out⟩
            | false =>
              have hk1 : d.k ≠ 1 := by simpa using hk
              have hz3 : mayE (baseE [0, 0, 0] [0, 0, 0]) 3 = true := base_may (by decide)
              have cw := HCE.out.write HF6.out.1 HF6.out.2.1 HF6.out.2.2 ⟨d, .slice adA d.v.length capA, .slice adB d.w.length capB⟩ HA0.out HBB.out HT0.out _ _ [0, 0, 0] [0, 0, 0] (HCE.out.kz (by simp)).nl (HCE.out.kz (by simp)).nl hk1 HM.out hz3
              simp only [List.length_cons, List.length_nil, Nat.zero_add, Nat.reduceAdd] at cw
              have CW := Lib.hid cw
              have HPW : Hid (plainE (S9.write d [0, 0, 0] [0, 0, 0]).all = (P ++ [(⟨d, .slice adA d.v.length capA, .slice adB d.w.length capB⟩ : Ev)]).map Ev.e) := Lib.hid (by
                rw [Lg.plain_write _ _ _ _ hk1, List.map_append, HPX.out]
                rfl)
              have HNW : Hid ((S9.write d [0, 0, 0] [0, 0, 0]).n = 3) := Lib.hid (by rw [Lg.write_n]; exact HF6.out.1)
              clear cw hz3 hk1
              go_wp2_with fail
              refine CW.out.mono ?_
              rintro e wf ⟨rfl, ownf, cf, sf⟩
              have HCF := Lib.hid cf
              have HEF := Lib.hid (HEE.out.step sf)
              have HRF := Lib.hid (HRE.out.step sf)
              have HLF := Lib.hid (Nat.le_trans HLE.out sf.turn.size)
              have HSY := Lib.hid cf.sync
              generalize S9.write d [0, 0, 0] [0, 0, 0] = S5 at *
              clear cf sf CW HCE HEE HRE p0 p1 p2 p3 p4 p5 p6 p7 hbl hk
              go_wp2_with fail
              refine HSY.out.mono ?_
              rintro e wg ⟨rfl, owng, cg, sg⟩
              have HCG := Lib.hid cg
              have HLG := Lib.hid (Nat.le_trans HLF.out sg.turn.size)
              have HEG : Hid (EK wg owng _ _ xs) := Lib.hid ⟨(HEF.out.step sg).1, fun g hg k => (HEF.out.step sg).2.1 g hg (.inl k), fun u hu g hg k => (HEF.out.step sg).2.2 u hu g hg (.inl k)⟩
              have HRG : Hid (Rk wg owng _ _ P) := Lib.hid ⟨(HRF.out.step sg).row, fun g hg k => (HRF.out.step sg).no g hg (.inl k)⟩
              have HOP2 := Lib.hid (cg.openC HT0.out (n := 3) HNW.out)
              clear cg sg HSY HCF HEF HRF
              go_wp2_with fail
              refine HOP2.out.mono ?_
              rintro e wh ⟨Az, Cz, zs, ownh, rfl, ekz, esz, ch, sh⟩
              have HCH := Lib.hid ch
              obtain ⟨p0, p1, p2, p3, p4, p5, p6, p7⟩ := (HBX.out.below ch.gr.bl).eight
              have hbl := (HBX.out.below ch.gr.bl).lt
              obtain ⟨Ai, Ci, wi, runi, eri, erz, bi⟩ := left_push (HRG.out.step sh).row (Nat.le_trans HLG.out sh.turn.size) (fun i hi => by have := (World.ownsRow.lt HRG.out.row i hi).2; omega) (HEG.out.step sh).1 HNS.out HSB.out ekz.1 ⟨d, .slice adA d.v.length capA, .slice adB d.w.length capB⟩ (HA0.out.below ch.gr.bl) (HBB.out.below ch.gr.bl) ch.gr.bl HZB.out HA0.out HBB.out (by have := HPL.out; omega) 22 43
              have HRI := Lib.hid runi
              have HBI := Lib.hid bi
              have HZ : Hid ((plainV zs).map Ev.e = (P ++ [(⟨d, .slice adA d.v.length capA, .slice adB d.w.length capB⟩ : Ev)]).map Ev.e) := Lib.hid (by
                rw [plainV_e, esz, ← HPW.out]
                rfl)
              have hzl : zs.length ≤ 100000 := by
                have h1 := congrArg List.length esz
                have h2 := HCG.out.ld.ok.len
                have h3 := HCG.out.ld.ok.k2
                have h4 := congrArg List.length HPW.out
                have h5 := HPL.out
                rw [List.length_map] at h1 h4
                rw [List.length_append, List.length_singleton] at h4
                have h6 : (plainE S5.sync.all).length = (plainE S5.all).length := rfl
                omega
              have HVZ : Hid (∀ x ∈ plainV zs, x.e.v.length ≤ 1000000 ∧ x.e.w.length ≤ 1000000) := Lib.hid (fun x hx => by
                have h1 : x.e ∈ zs.map Ev.e := List.mem_map_of_mem ((List.mem_filter.1 hx).1)
                rw [esz] at h1
                exact may_lens (HCG.out.ld.ok.may x.e h1))
              have HPZ := Lib.hid (plain_c wi _ zs erz hzl)
              have HEI := Lib.hid eri
              have HEZ := Lib.hid erz
              have hPl : P.length ≤ 30 := by have := HPL.out; omega
              clear ekz esz ch sh runi eri erz bi HOP2 HCG HEG HRG
              go_wp2_with (at_builtin; refine wpList_append_run rfl _ _ 22 rfl _ _ HRI.out ?_; clear HRI)
              refine HPZ.out.mono ?_
              rintro e wj ⟨vj, rfl, rj, bj⟩
              obtain ⟨adj, capj, rfl⟩ : ∃ adj capj, vj = .slice adj (plainV zs).length capj := by
                rcases rj.2 with ⟨rfl, h0⟩ | ⟨g', cap', cur, rfl, _⟩
                · exact ⟨none, 0, by rw [h0]⟩
                · exact ⟨_, _, rfl⟩
              have HSZ := Lib.hid (sames_c (plainV zs) _ _ _ wj (ERow.er rj (fun x hx => (HEZ.out.below bj).nls x ((List.mem_filter.1 hx).1))) (HEI.out.below bj) HZ.out (by have := plainV_len zs; omega) HVZ.out)
              have HBJ := Lib.hid (HBI.out.trans (bj.mono HBI.out.size))
              clear rj bj HPZ p0 p1 p2 p3 p4 p5 p6 p7 hbl
              go_wp2_with fail
              refine HSZ.out.mono ?_
              rintro e wk ⟨rfl, bk⟩
              have HBK := Lib.hid (bn HBJ.out bk)
              have HAW := Lib.hid (awake_c wk (HT0.out.below HBK.out))
              clear bk HSZ
              go_wp2_with fail
              refine HAW.out.mono ?_
              rintro e wl ⟨rfl, bl⟩
              have HBL := Lib.hid (bn HB0.out (bn HBK.out bl))
              clear bl HAW
              go_wp2
              go_ret
              exact ⟨by first | rfl | simp, HBL.out⟩
end Go.Proofs.YtjmkphnppegegaaGreatDoor
