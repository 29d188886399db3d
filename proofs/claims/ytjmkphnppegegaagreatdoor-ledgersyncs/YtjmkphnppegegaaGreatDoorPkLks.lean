/-
  LedgerSyncs: however often it is synced, and opened anew between, a ledger holds the same entries at last, in as many segments.
-/
import Derived.Test.YtjmkphnppegegaaGreatDoorPkLkc
import Derived.Test.YtjmkphnppegegaaGreatDoorPkLf
namespace Go.Proofs.YtjmkphnppegegaaGreatDoor
open Go.RowKit Go.Lib
set_option maxRecDepth 100000

set_option maxHeartbeats 16000000 in
theorem syncs_law (ad : Option Addr) (cap : Nat) (l : List Ev) (bits opens : Int) (w0 : World) (hE : Er w0 (.slice ad l.length cap) l) (hs : ∀ x ∈ l, x.e.r.t.size ≤ 9223372036854775807) (hT : Tabs w0) :
    Calls Tryz.prog 8 #[.slice ad l.length cap, .int .i64 bits, .int .i64 opens] w0 fun e w' => e = .returned (.bool true) ∧ Below w0.heap.size w0 w' := by
  have HT0 := Lib.hid hT
  have HHS := Lib.hid hs
  have CG := Lib.hid (great_c w0 (.slice ad l.length cap) l 30 hE (by omega))
  have HE0 := Lib.hid hE
  clear hT hs hE
  cases hg : greatE l 30 with
  | true =>
    rw [hg] at CG
    have HAW := Lib.hid (awake_c w0 HT0.out)
    go_enter Tryz.func8, Tryz.ntmps8
    go_wp2_with fail
    refine CG.out.mono ?_
    rintro e w2 ⟨rfl, rfl⟩
    clear CG hg
    go_wp2_with fail
    refine HAW.out.mono ?_
    rintro e w3 ⟨rfl, b3⟩
    go_wp2
    go_ret
    exact ⟨rfl, b3⟩
  | false =>
    rw [hg] at CG
    have HG := Lib.hid (great_no hg)
    clear hg
    have HN := Lib.hid (dNew w0 60000 (by omega))
    go_enter Tryz.func8, Tryz.ntmps8
    go_wp2_with fail
    refine CG.out.mono ?_
    rintro e w2 ⟨rfl, rfl⟩
    clear CG
    go_wp2_with fail
    refine HN.out.mono ?_
    rintro e wc ⟨p, oc, rfl, dc, oc0, bc⟩
    have HN2 := Lib.hid (dNew wc 60000 (by omega))
    have HDC := Lib.hid dc
    have HOC := Lib.hid oc0
    have HBC := Lib.hid bc
    clear dc oc0 bc HN
    go_wp2_with fail
    refine HN2.out.mono ?_
    rintro e wd ⟨q, od, rfl, dd, od0, bd⟩
    have HDD := Lib.hid dd
    have HOD := Lib.hid od0
    have HBD := Lib.hid bd
    have GD : Gr w0 wd oc := ⟨bn HBC.out bd, HOC.out⟩
    have HO : Hid (Calls Tryz.prog 12 #[.pointer (some ⟨p, 0, none⟩), .int .i64 2] wd (openS wd p 60000 (Lg.new 2) oc (Lg.new 2).all)) := Lib.hid ((new_S 2 (HDC.out.below bd) (by omega) (by omega) (by omega) (fun W own' hs => (GD.step hs).tabs HT0.out)).mono (fun e w' hh => hh.1 (by have := (new_used (n := 2) (by omega) (by omega)).1; omega)))
    have HGD := Lib.hid GD
    clear dd od0 bd HN2 GD
    go_wp2_with fail
    refine HO.out.mono ?_
    rintro e we ⟨v2, xs2, oe, rfl, ek2, es2, le, se⟩
    obtain ⟨ad2, cap2, rfl, _, _⟩ := ek2.1.er
    have HLE := Lib.hid le
    have HSE := Lib.hid se
    have HDE : Hid (Dr we q [] 60000 od) := Lib.hid (HDD.out.far se.turn (fun i hi k => by have h1 := HDC.out.up hi; have h2 := HOD.out i k; omega))
    have HGE : Hid (Gr w0 we od) := Lib.hid ⟨(HGD.out.step se).bl, fun i k => by have h1 := HOD.out i k; have h2 := HBC.out.size; omega⟩
    have HO2 : Hid (Calls Tryz.prog 12 #[.pointer (some ⟨q, 0, none⟩), .int .i64 2] we (openS we q 60000 (Lg.new 2) od (Lg.new 2).all)) := Lib.hid ((new_S 2 HDE.out (by omega) (by omega) (by omega) (fun W own' hs => (HGE.out.step hs).tabs HT0.out)).mono (fun e w' hh => hh.1 (by have := (new_used (n := 2) (by omega) (by omega)).1; omega)))
    clear ek2 es2 le se HO
    go_wp2_with fail
    refine HO2.out.mono ?_
    rintro e wf ⟨v3, xs3, of', rfl, ek3, es3, lf, sf⟩
    obtain ⟨ad3, cap3, rfl, _, _⟩ := ek3.1.er
    have tw0 := Tw.start (zl := [9, 9]) HDC.out HOC.out HBC.out HOD.out (fun i k => HDD.out.up k) HBD.out HLE.out HSE.out lf sf
    have HTW : Hid (Tw w0 (wf.alloc (.cells #[.int .i64 9, .int .i64 9] 3)) wf.heap.size [9, 9] wd.heap.size p (Lg.new 2) oe we.heap.size q (Lg.new 2) of') := Lib.hid tw0
    clear ek3 es3 lf sf tw0 HO2 HDC HDD HOC HOD HBC HBD HLE HSE HDE HGE HGD
    go_wp2
    go_loopw [9, 11, 16, 17] (fun v9 v11 v16 v17 wr => ∃ (j G N : Nat) (S T : Lg) (own own2 : Nat → Prop) (all : List En), j ≤ l.length ∧ v9 = .pointer (some ⟨G, 0, none⟩) ∧ v11 = .int .i64 0 ∧ v16 = .int .i64 (N : Int) ∧ v17 = .int .i64 (j : Int) ∧ N ≤ j ∧ Hid (all.length = N) ∧ Hid (∃ f, Cs 2 S all f) ∧ Hid (Cs 2 T all 0) ∧ Hid (Lk S T) ∧ Hid (Tw w0 wr wf.heap.size [9, 9] G p S own we.heap.size q T own2)) (fun _ _ _ v17 _ => l.length - (RowKit.intOf v17).toNat)
    case atStart => exact ⟨0, wd.heap.size, 0, Lg.new 2, Lg.new 2, oe, of', [], by omega, rfl, rfl, rfl, rfl, by omega, Lib.hid rfl, Lib.hid ⟨0, Cs.new (by omega) (by omega)⟩, Lib.hid (Cs.new (by omega) (by omega)), Lib.hid (.refl _), HTW⟩
    case round =>
      clear HTW
      obtain ⟨j, G, N, S, T, own, own2, all, hj, rfl, rfl, rfl, rfl, hNj, HAN, HCS, HCT, HLK, HTW⟩ := hrel
      have hll := HG.out.1
      by_cases hjl : j < l.length
      · obtain ⟨b, o, rfl, _, a1⟩ := HE0.out.cellsAt j hjl
        have hJ := Lib.hid hjl
        have hbig := HG.out.2 _ (List.getElem_mem hjl)
        have htx := HHS.out _ (List.getElem_mem hjl)
        generalize l[j] = X at a1 hbig htx
        obtain ⟨x, A, B⟩ := X
        simp only at hbig htx
        have HAT := Lib.hid a1
        have HN0 := Lib.hid a1.parts
        obtain ⟨aA, cA, rfl, _⟩ := a1.parts.1.form
        obtain ⟨aB, cB, rfl, _⟩ := a1.parts.2.form
        obtain ⟨⟨p0, p1, p2, p3, p4, p5, p6, p7⟩, hA, hB⟩ := a1.below HTW.out.g1.bl
        simp only at p0 p1 p2 p3 p4 p5 p6 p7 hA hB
        have hgl := World.block_lt_of_cell? wr _ p0
        have CM := Lib.hid (refmaye_c x _ _ 2 wr hA hB (by omega) (by omega) htx (HTW.out.g1.tabs HT0.out))
        clear hA hB a1 hbig htx
        cases hm : mayE x 2 with
        | false =>
          rw [hm] at CM
          clear hm
          go_wp2_with fail
          refine CM.out.mono ?_
          rintro e w3 ⟨rfl, b3⟩
          have HW3 := Lib.hid (HTW.out.below b3)
          clear b3 CM
          go_wp2
          go_roundw
          case rel => exact ⟨j + 1, G, N, S, T, own, own2, all, hJ.out, rfl, rfl, rfl, by go_num, by omega, HAN, HCS, HCT, HLK, HW3⟩
          case measure => have := hJ.out; simp [RowKit.intOf]; omega
        | true =>
          rw [hm] at CM
          have HM := Lib.hid hm
          clear hm
          go_wp2_with fail
          refine CM.out.mono ?_
          rintro e w3 ⟨rfl, b3⟩
          have HW3 := Lib.hid (HTW.out.below b3)
          obtain ⟨⟨q0, q1, q2, q3, q4, q5, q6, q7⟩, _, _⟩ := HAT.out.below HW3.out.g1.bl
          simp only at q0 q1 q2 q3 q4 q5 q6 q7
          have hgl3 := World.block_lt_of_cell? w3 _ q0
          clear b3 CM HTW p0 p1 p2 p3 p4 p5 p6 p7 hgl
          cases hk : (x.k == 1) with
          | true =>
            go_wp2
            go_roundw
            case rel => exact ⟨j + 1, G, N, S, T, own, own2, all, hJ.out, rfl, rfl, rfl, by go_num, by omega, HAN, HCS, HCT, HLK, HW3⟩
            case measure => have := hJ.out; simp [RowKit.intOf]; omega
          | false =>
            have hk1 : x.k ≠ 1 := by simpa using hk
            have hz2 : mayE (baseE [9, 9] [9, 9]) 2 = true := base_may (by decide)
            have hal : all.length ≤ 40 := by have := HAN.out; omega
            obtain ⟨f, hcs⟩ := HCS.out
            have cw := HW3.out.write hcs hal ⟨x, .slice aA x.v.length cA, .slice aB x.w.length cB⟩ HN0.out.1 HN0.out.2 HT0.out hk1 HM.out hz2
            simp only [List.length_cons, List.length_nil, Nat.zero_add, Nat.reduceAdd] at cw
            have CW := Lib.hid cw
            have HCS5 : Hid (∃ f, Cs 2 (S.write x [9, 9] [9, 9]) (all ++ [x]) f) := Lib.hid ⟨f, hcs.write HW3.out.l1.ok HM.out hk1 hz2⟩
            have HCT5 : Hid (Cs 2 (T.write x [9, 9] [9, 9]) (all ++ [x]) 0) := Lib.hid (HCT.out.write HW3.out.l2.ok HM.out hk1 hz2)
            have HLK5 := Lib.hid (HLK.out.write x [9, 9] [9, 9])
            have HAN5 : Hid ((all ++ [x]).length = N + 1) := Lib.hid (by rw [List.length_append, List.length_singleton, HAN.out])
            have HZ2 := Lib.hid (And.intro hk1 hz2)
            clear cw hcs hk1 hz2
            go_wp2_with fail
            refine CW.out.mono ?_
            rintro e w4 ⟨rfl, own4, t4⟩
            obtain ⟨⟨r0, r1, r2, r3, r4, r5, r6, r7⟩, _, _⟩ := HAT.out.below t4.g1.bl
            simp only at r0 r1 r2 r3 r4 r5 r6 r7
            have hgl4 := World.block_lt_of_cell? w4 _ r0
            have cw2 := t4.swap.write HCT.out hal ⟨x, .slice aA x.v.length cA, .slice aB x.w.length cB⟩ HN0.out.1 HN0.out.2 HT0.out HZ2.out.1 HM.out HZ2.out.2
            simp only [List.length_cons, List.length_nil, Nat.zero_add, Nat.reduceAdd] at cw2
            have CW2 := Lib.hid cw2
            clear t4 cw2 CW q0 q1 q2 q3 q4 q5 q6 q7 hgl3 hk
            go_wp2_with fail
            refine CW2.out.mono ?_
            rintro e w5 ⟨rfl, own5, t5⟩
            have HW5 := Lib.hid t5.swap
            generalize S.write x [9, 9] [9, 9] = S5 at *
            generalize T.write x [9, 9] [9, 9] = T5 at *
            generalize all ++ [x] = all5 at *
            have hji : (j : Int) ≤ 30 := by omega
            clear t5 CW2 HW3 HCS HCT HLK HAN HAT HM HZ2 HN0 r0 r1 r2 r3 r4 r5 r6 r7 hgl4
            have hn5 : S5.n = 2 := by obtain ⟨f5, h5⟩ := HCS5.out; exact h5.n
            have hop := HW5.out.openC HT0.out
            rw [hn5] at hop
            have HOP : Hid (Calls Tryz.prog 12 #[.pointer (some ⟨p, 0, none⟩), .int .i64 2] w5 _) := Lib.hid hop
            have HSY := Lib.hid HW5.out.sync
            have HN5 := Lib.hid hn5
            clear hop hn5
            go_wp2_with fail
            case roundEnd => exact ⟨⟨j + 1, G, N + 1, S5, T5, own4, own5, all5, hJ.out, rfl, rfl, by go_num, by go_num, by omega, HAN5, HCS5, HCT5, HLK5, HW5⟩, by have := hJ.out; simp [RowKit.intOf]; omega⟩
            · refine HSY.out.mono ?_
              rintro e w6 ⟨rfl, own6, t6⟩
              have HW6 := Lib.hid t6
              have HCS6 : Hid (∃ f, Cs 2 S5.sync all5 f) := Lib.hid (by obtain ⟨f5, h5⟩ := HCS5.out; exact ⟨_, h5.sync⟩)
              have HLK6 := Lib.hid HLK5.out.sync
              have hop := t6.openC HT0.out
              rw [show S5.sync.n = 2 from HN5.out] at hop
              have HOP6 : Hid (Calls Tryz.prog 12 #[.pointer (some ⟨p, 0, none⟩), .int .i64 2] w6 _) := Lib.hid hop
              clear t6 hop HOP HSY
              go_wp2_with fail
              case roundEnd => exact ⟨⟨j + 1, G, N + 1, S5.sync, T5, own6, own5, all5, hJ.out, rfl, rfl, by go_num, by go_num, by omega, HAN5, HCS6, HCT5, HLK6, HW6⟩, by have := hJ.out; simp [RowKit.intOf]; omega⟩
              refine HOP6.out.mono ?_
              rintro e w7 ⟨v7, xs7, own7, rfl, ek7, _, t7, _⟩
              obtain ⟨a7, c7, rfl, _, _⟩ := ek7.1.er
              have HW7 := Lib.hid t7
              clear ek7 t7 HOP6
              go_wp2
              go_roundw
              case rel => exact ⟨j + 1, _, N + 1, S5.sync, T5, own7, own5, all5, hJ.out, rfl, rfl, by go_num, by go_num, by omega, HAN5, HCS6, HCT5, HLK6, HW7⟩
              case measure => have := hJ.out; simp [RowKit.intOf]; omega
            · refine HOP.out.mono ?_
              rintro e w7 ⟨v7, xs7, own7, rfl, ek7, _, t7, _⟩
              obtain ⟨a7, c7, rfl, _, _⟩ := ek7.1.er
              have HW7 := Lib.hid t7
              clear ek7 t7 HOP HSY
              go_wp2
              go_roundw
              case rel => exact ⟨j + 1, _, N + 1, S5, T5, own7, own5, all5, hJ.out, rfl, rfl, by go_num, by go_num, by omega, HAN5, HCS5, HCT5, HLK5, HW7⟩
              case measure => have := hJ.out; simp [RowKit.intOf]; omega
      · obtain rfl : j = l.length := by omega
        have e2 : decide ((l.length : Int) < (l.length : Int)) = false := by simp
        have hn2 : S.n = 2 := by obtain ⟨f, h⟩ := HCS.out; exact h.n
        have hA2 : S.A.length ≤ 30 := by obtain ⟨f, h⟩ := HCS.out; have h1 := h.A; have := HAN.out; omega
        have hpl : (plainE S.all).length = N := by obtain ⟨f, h⟩ := HCS.out; rw [h.pl]; exact HAN.out
        have hTn : T.n = 2 := HCT.out.n
        have hall := HLK.out.all
        have HSG := Lib.hid (segs_S HTW.out.l2)
        rw [← HLK.out.A] at HSG
        clear HCS HCT
        go_wp2_with fail
        refine HSG.out.mono ?_
        rintro e w3 ⟨rfl, b3⟩
        have HW3 := Lib.hid (HTW.out.below b3)
        have HSG3 := Lib.hid (segs_S HW3.out.l1)
        clear b3 HSG HTW
        go_wp2_with fail
        refine HSG3.out.mono ?_
        rintro e w4 ⟨rfl, b4⟩
        have HW4 := Lib.hid (HW3.out.below b4)
        have HSY := Lib.hid HW4.out.sync
        clear b4 HSG3 HW3
        go_wp2_with fail
        refine HSY.out.mono ?_
        rintro e w5 ⟨rfl, own5, t5⟩
        have HSY5 := Lib.hid t5.swap.sync
        clear t5 HSY HW4
        go_wp2_with fail
        refine HSY5.out.mono ?_
        rintro e w6 ⟨rfl, own6, t6⟩
        have HW6 := Lib.hid t6.swap
        have hop := HW6.out.openC HT0.out
        rw [show S.sync.n = 2 from hn2] at hop
        have HOP : Hid (Calls Tryz.prog 12 #[.pointer (some ⟨p, 0, none⟩), .int .i64 2] w6 _) := Lib.hid hop
        clear t6 HSY5 hop
        go_wp2_with fail
        refine HOP.out.mono ?_
        rintro e w7 ⟨v7, xs, own7, rfl, ek7, es7, t7, s7⟩
        obtain ⟨a7, c7, rfl, _, _⟩ := ek7.1.er
        have HE7 : Hid (EK w7 own6 (w6.heap.size + 1) (.slice a7 xs.length c7) xs) := Lib.hid ⟨ek7.1, fun g hg k => by
          have h1 := (ek7.1.lt.1 g hg).1; have h2 := HW6.out.l2.dr.up k; omega, fun u hu g hg k => by
          have h1 := (ek7.1.lt.2 u hu g hg).1; have h2 := HW6.out.l2.dr.up k; omega⟩
        have hxa : xs.map Ev.e = S.all := es7
        have hxl : xs.length = N + (S.A.length + 1) := by
          have h1 := congrArg List.length hxa
          have h2 : S.sync.all.length = (plainE S.sync.all).length + (S.sync.A.length + 1) := t7.l1.ok.len
          have h3 : S.sync.all = S.all := rfl
          have h4 : S.sync.A = S.A := rfl
          rw [h3, h4] at h2
          rw [List.length_map] at h1
          omega
        have HXV : Hid (∀ x ∈ xs, x.e.v.length ≤ 1000000 ∧ x.e.w.length ≤ 1000000) := Lib.hid (fun x hx => by
          have h1 : x.e ∈ xs.map Ev.e := List.mem_map_of_mem hx
          rw [es7] at h1
          exact may_lens (t7.l1.ok.may x.e h1))
        have HXA := Lib.hid hxa
        have HW7 := Lib.hid t7.swap
        have hop := HW7.out.openC HT0.out
        rw [show T.sync.n = 2 from hTn] at hop
        have HOP7 : Hid (Calls Tryz.prog 12 #[.pointer (some ⟨q, 0, none⟩), .int .i64 2] w7 _) := Lib.hid hop
        have HXL := Lib.hid hxl
        have HPL := Lib.hid hpl
        have HALL := Lib.hid hall
        clear ek7 es7 t7 s7 hop HOP hxa HW6 hxl hpl hall hn2 hTn
        go_wp2_with fail
        refine HOP7.out.mono ?_
        rintro e w8 ⟨v8, zs, own8, rfl, ek8, es8, t8, s8⟩
        obtain ⟨a8, c8, rfl, _, _⟩ := ek8.1.er
        have HE8 := Lib.hid (HE7.out.step s8)
        have HZ8 := Lib.hid ek8.1
        have hxz : xs.map Ev.e = zs.map Ev.e := by
          rw [HXA.out, es8]
          exact HALL.out
        have HSM := Lib.hid (sames_c xs zs _ _ w8 HE8.out.1.er HZ8.out.er hxz (by have := HXL.out; omega) HXV.out)
        have HB8 := Lib.hid t8.g1.bl
        clear ek8 es8 t8 s8 hxz HOP7 HE7 HW7 HZ8
        go_wp2_with fail
        refine HSM.out.mono ?_
        rintro e w9 ⟨rfl, b9⟩
        have HE9 := Lib.hid (HE8.out.below b9)
        have HB9 := Lib.hid (bn HB8.out b9)
        have HPC := Lib.hid (plain_c w9 _ xs HE9.out.1.er (by have := HXL.out; omega))
        clear b9 HSM HE8 HB8
        go_wp2_with fail
        refine HPC.out.mono ?_
        rintro e wa ⟨va, rfl, ra, ba⟩
        have hpn : (plainV xs).length = N := by
          have h1 := congrArg List.length (plainV_e xs)
          rw [List.length_map, HXA.out] at h1
          have := HPL.out
          omega
        obtain ⟨ada, capa, rfl⟩ : ∃ ada capa, va = .slice ada N capa := by
          rcases ra.2 with ⟨rfl, h0⟩ | ⟨g', cap', cur, rfl, _⟩
          · exact ⟨none, 0, by rw [← hpn, h0]⟩
          · exact ⟨_, _, by rw [hpn]⟩
        have HBA := Lib.hid (bn HB9.out ba)
        have hq1 : (xs.length : Int) = (N : Int) + ((S.A.length + 1 : Nat) : Int) := by have := HXL.out; omega
        have HAW := Lib.hid (awake_c wa (HT0.out.below HBA.out))
        clear ra ba HPC hpn
        go_wp2_with fail
        refine HAW.out.mono ?_
        rintro e wb ⟨rfl, bb⟩
        have HBB := Lib.hid (bn HBA.out bb)
        clear bb HAW
        go_wp2
        go_ret
        exact ⟨by first | rfl | simp, HBB.out⟩
end Go.Proofs.YtjmkphnppegegaaGreatDoor
