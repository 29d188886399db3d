/-
  TreeParts, walked.
-/
import Derived.Test.YthamhbbgmibmoaaDoorTrPaP
import Derived.Test.YthamhbbgmibmoaaDoorTrOrLaw
import Derived.Test.YthamhbbgmibmoaaDoorWDigRefAll
namespace Go.Proofs.YthamhbbgmibmoaaDoor
open Go.RowKit Go.Lib Go.Maps
set_option maxRecDepth 100000
set_option linter.unusedSimpArgs false

set_option maxHeartbeats 64000000 in
theorem parts_law (l : List R.Rc) (v : Value) (oi Li ii : Int) (w : World) (h : R.Rl w v l) (hs : ∀ r ∈ l, r.t.size ≤ 9223372036854775807 ∧ okKy (kyR r)) (hl : l.length ≤ maxLen) (hT : R.Tabs w) :
    Calls Tryd.prog 5 #[v, .int .i64 oi, .int .i64 Li, .int .i64 ii] w fun e w' => e = .returned (.bool true) ∧ Below w.heap.size w w' := by
  have mixed : Tryd.prog.follows .mixedOrders = true := by kernel_rfl
  have HG := Lib.hid (R.great_c l v 25 w h (by omega) hl)
  have HT := Lib.hid hT
  cases hg : R.greatB l 25 with
  | true =>
    rw [hg] at HG
    clear hg h hs hl hT
    go_enter Tryd.func5, Tryd.ntmps5
    go_wp2_with fail
    refine HG.out.mono ?_
    rintro e w1 ⟨rfl, b1⟩
    go_wp2_with fail
    refine (awake_c w1 (HT.out.below b1)).mono ?_
    rintro e w2 ⟨rfl, b2⟩
    go_wp2
    go_ret
    exact ⟨rfl, bn b1 b2⟩
  | false =>
    rw [hg] at HG
    have hln : l.length ≤ 25 := (R.greatB_no hg).1
    have HSM := Lib.hid (R.greatB_no hg).2
    obtain ⟨ad, cap, rfl, _, _⟩ := id h.form
    have HRL := Lib.hid h
    have HSZ := Lib.hid hs
    clear hg h hs hl hT
    go_enter Tryd.func5, Tryd.ntmps5
    go_wp2_with fail
    refine HG.out.mono ?_
    rintro e w1 ⟨rfl, b1⟩
    have B1 := Lib.hid b1
    clear b1 HG
    go_wp2_with fail
    refine (new_c w1).mono ?_
    rintro e w2 ⟨p, own, rfl, h2, o2, b2⟩
    have H2 := Lib.hid h2
    have B2 := Lib.hid (bn B1.out b2)
    have O2 : Hid (∀ i, own i → w.heap.size ≤ i) := Lib.hid (fun i hi => Nat.le_trans B1.out.size (o2 i hi))
    clear h2 o2 b2 B1
    go_wp2_with fail
    refine (put_c p [] own (.slice ad l.length cap) l w2 H2.out (fun W hW => HRL.out.below (B2.out.trans (hW.below B2.out.size O2.out))) HSZ.out (by omega) (by simp) (fun W hW => HT.out.below (B2.out.trans (hW.below B2.out.size O2.out)))).mono ?_
    rintro e w3 ⟨own3, rfl, h3, t3, o3⟩
    have H3 := Lib.hid h3
    have B3 : Hid (Below w.heap.size w w3) := Lib.hid (B2.out.trans (t3.below B2.out.size O2.out))
    clear h3 t3 o3 H2 B2 O2
    obtain ⟨S0, hS0e⟩ : ∃ S0, S0 = putSs [] l := ⟨_, rfl⟩
    have HS0 := Lib.hid hS0e
    have hS0 : (putSs [] l).length ≤ 25 := by
      have := putSs_len [] l
      simp only [List.length_nil] at this
      omega
    rw [← hS0e] at H3 hS0
    rw [← hS0e]
    clear hS0e
    go_wp2_with fail
    refine (D.low_c oi 8 w3 (by omega) (by omega)).mono ?_
    rintro e w4 ⟨z, rfl, hz0, hz8, rfl⟩
    obtain ⟨wo, rfl⟩ := Int.eq_ofNat_of_zero_le hz0
    have hwo : wo < 8 := by omega
    clear hz0 hz8
    go_wp2_with fail
    refine (D.low_c Li 5 w3 (by omega) (by omega)).mono ?_
    rintro e w4 ⟨z, rfl, hz0, hz8, rfl⟩
    obtain ⟨Ln, rfl⟩ := Int.eq_ofNat_of_zero_le hz0
    have hLn : Ln ≤ 4 := by omega
    clear hz0 hz8
    go_wp2_with fail
    go_loopw [10, 11] (fun v10 v11 wr => ∃ (k : Nat), k ≤ Ln ∧ v10 = .int .i64 ((wd k : Nat) : Int) ∧ v11 = .int .i64 (k : Int) ∧ wr = w3) (fun _ v11 _ => Ln - (RowKit.intOf v11).toNat)
    case atStart => exact ⟨0, by omega, rfl, rfl, rfl⟩
    case round =>
      obtain ⟨k, hk, rfl, rfl, rfl⟩ := hrel
      have hwd := (wd_pl k (by omega)).2.2
      by_cases hp : k < Ln
      · have HP := Lib.hid hp
        have HE : Hid (wd (k + 1) = 4 * wd k) := Lib.hid rfl
        generalize wd k = z at *
        go_wp2_with fail
        go_roundw
        case rel => exact ⟨k + 1, HP.out, by rw [HE.out]; go_num, by go_num, trivial⟩
        case measure => have := HP.out; simp [RowKit.intOf]; omega
      · obtain rfl : k = Ln := by omega
        have hwd0 : wd k ≤ 1024 ∧ 0 < wd k := hwd
        go_wp2_with fail
        refine (D.low_c ii ((wd k : Nat) : Int) wr (by omega) (by omega)).mono ?_
        rintro e w4 ⟨z, rfl, hz0, hz8, rfl⟩
        obtain ⟨n, rfl⟩ := Int.eq_ofNat_of_zero_le hz0
        have hn : n < wd k := by omega
        have HALL := Lib.hid (rowP_all (S := S0) hwo hLn hn)
        have HIN := Lib.hid (sumB_in hwo (show k ≤ 5 by omega) hn)
        have HINP : Hid (∀ j, j < 4 → sumB (wo : Int) ((k + 1 : Nat) : Int) ((4 * n + j : Nat) : Int) = true) := Lib.hid (fun j hj => sumB_in hwo (by omega) (by show 4 * n + j < 4 * wd k; omega))
        have hn1 : n < 1024 := by omega
        clear hz0 hz8 hwd hwd0 hn
        go_wp2_with fail
        refine (sumT_c p S0 own3 (wo : Int) (k : Int) (n : Int) wr H3.out).mono ?_
        rintro e w5 ⟨rfl, rfl⟩
        rw [HALL.out, HIN.out]
        have R0 : Hid (DRow w5 w5.heap.size (.slice none 0 0) (rowP S0 wo k n 0)) := Lib.hid (by show World.ownsRow _ _ _ _ _ _ _; exact World.ownsRow_nil _ _ _ _)
        have W0 : Hid (Below w5.heap.size w5 w5) := Lib.hid (Below.refl _ _)
        generalize hALLe : D.allD (rowP S0 wo k n 4) = whole at *
        have HWE := Lib.hid hALLe
        clear hALLe HALL
        go_wp2_with fail
        go_loopw [14, 15] (fun v14 v15 wq => ∃ (j : Nat), j ≤ 4 ∧ v15 = .int .i64 (j : Int) ∧ Hid (DRow wq w5.heap.size v14 (rowP S0 wo k n j)) ∧ Hid (Below w5.heap.size w5 wq)) (fun _ v15 _ => 4 - (RowKit.intOf v15).toNat)
        case atStart => exact ⟨0, by omega, rfl, R0, W0⟩
        case round =>
          obtain ⟨j, hj, rfl, RK, BK⟩ := hrel
          clear R0 W0
          by_cases hp2 : j < 4
          · have HP2 := Lib.hid hp2
            obtain ⟨A, C, rfl⟩ := row_form0 RK.out
            have hp21 : (j : Int) < 4 := by omega
            have e1 : (((k + 1 : Nat) : Int)) = (k : Int) + 1 := by omega
            have e2 : (((4 * n + j : Nat) : Int)) = (n : Int) * 4 + (j : Int) := by omega
            have hi := HINP.out j hp2
            have hrn := rowP_next S0 wo k n j
            rw [e1, e2] at hi hrn
            have HRN := Lib.hid hrn
            have HI := Lib.hid hi
            clear hi hrn e1 e2
            go_wp2_with fail
            refine (sumT_c p S0 own3 (wo : Int) ((k : Int) + 1) ((n : Int) * 4 + (j : Int)) wr (H3.out.below BK.out)).mono ?_
            rintro e w6 ⟨rfl, rfl⟩
            rw [HI.out]
            generalize sumV (treeF S0) (wo : Int) ((k : Int) + 1) ((n : Int) * 4 + (j : Int)) = x at *
            have b6 := alloc_below w6 (.cells #[.int .u64 x] 44)
            obtain ⟨A7, C7, w7, run7, r7, gr7⟩ := dapp_run (rowP S0 wo k n j) x (.slice A (rowP S0 wo k n j).length C) w6.heap.size (w6.alloc (.cells #[.int .u64 x] 44)) 53 w5.heap.size (RK.out.below b6) ((cell_cells (heap_alloc_new w6 _) 0).trans rfl) (by rw [rowP_len]; omega) (Nat.le_trans BK.out.size b6.size)
            have HR7 := Lib.hid run7
            have B67 : Hid (Below w5.heap.size w5 w7) := Lib.hid ((bn BK.out b6).trans (D.below_of_grown gr7 (Nat.le_trans BK.out.size b6.size) (fun g hg => (World.ownsRow.lt RK.out g hg).1)))
            have R7 : Hid (DRow w7 w5.heap.size (.slice A7 ((rowP S0 wo k n j).length + 1) C7) (rowP S0 wo k n (j + 1))) := Lib.hid (by rw [HRN.out]; exact r7)
            clear run7 r7 gr7 b6
            go_wp2_with (at_builtin; refine D.wpList_append_run rfl _ _ 53 rfl _ _ HR7.out ?_; clear HR7)
            go_roundw
            case rel => exact ⟨j + 1, HP2.out, by go_num, R7, B67⟩
            case measure => have := HP2.out; simp [RowKit.intOf]; omega
          · obtain rfl : j = 4 := by omega
            obtain ⟨wq, hwq⟩ : ∃ wq, wq = wr := ⟨_, rfl⟩
            subst hwq
            obtain ⟨g8, c8, rfl⟩ := row_form RK.out (by rw [rowP_len]; omega)
            have H8 := Lib.hid (H3.out.below BK.out)
            have B8 : Hid (Below w.heap.size w wq) := Lib.hid (bn B3.out BK.out)
            have R8 := Lib.hid (row_dl RK.out)
            clear BK H3 B3 RK HIN HINP
            generalize hds : rowP S0 wo k n 4 = ds at *
            have hdl : ds.length = 4 := by rw [← hds, rowP_len]
            rw [hdl] at R8 ⊢
            have HDL := Lib.hid hdl
            clear hdl
            have C0 : Hid (Below wq.heap.size wq wq) := Lib.hid (Below.refl _ _)
            clear hds
            go_wp2_with fail
            go_loopw [18] (fun v18 wr => ∃ (i : Nat), i ≤ l.length ∧ v18 = .int .i64 (i : Int) ∧ Hid (Below wq.heap.size wq wr)) (fun v18 _ => l.length - (RowKit.intOf v18).toNat)
            case atStart => exact ⟨0, by omega, rfl, C0⟩
            case round =>
              obtain ⟨i, hi, rfl, CI⟩ := hrel
              clear C0
              have BI : Hid (Below w.heap.size w wr) := Lib.hid (bn B8.out CI.out)
              have HI8 := Lib.hid (H8.out.below CI.out)
              have HLI := Lib.hid (HRL.out.below BI.out)
              obtain ⟨ad2, cap2, e, _, hc⟩ := HLI.out.form
              simp only [Value.slice.injEq, true_and] at e
              obtain ⟨rfl, rfl⟩ := e
              by_cases hp3 : i < l.length
              · have HP3 := Lib.hid hp3
                obtain ⟨b, o, rfl, hrc⟩ := hc (by omega)
                obtain ⟨x0, x1, x2, x3, x4⟩ := hrc i hp3
                have HMEM := Lib.hid (List.getElem_mem hp3)
                have HRC : Hid (∀ W, Below wr.heap.size wr W → W.cell? ⟨b, o + i * 5, none⟩ = some (.int .i64 l[i].o) ∧ W.cell? ⟨b, o + i * 5 + 1, none⟩ = some (.int .i64 l[i].s) ∧ W.cell? ⟨b, o + i * 5 + 2, none⟩ = some (.int .i64 l[i].w) ∧ W.cell? ⟨b, o + i * 5 + 3, none⟩ = some (.int .i64 l[i].c) ∧ W.cell? ⟨b, o + i * 5 + 4, none⟩ = some (.string l[i].t)) := Lib.hid (fun W hW => ⟨(hW.cell (World.block_lt_of_cell? _ _ x0)).trans x0, (hW.cell (World.block_lt_of_cell? _ _ x1)).trans x1, (hW.cell (World.block_lt_of_cell? _ _ x2)).trans x2, (hW.cell (World.block_lt_of_cell? _ _ x3)).trans x3, (hW.cell (World.block_lt_of_cell? _ _ x4)).trans x4⟩)
                have hgl := World.block_lt_of_cell? _ _ x0
                have SG := Lib.hid (fun W (hW : Below wr.heap.size wr W) => single_c l (some ⟨b, o, none⟩) cap i hp3 W (HLI.out.below hW) (by unfold maxLen; omega))
                have HSUM := Lib.hid (sum_once (l := l) HMEM.out)
                have HGO := Lib.hid (fun a bb => get_once (l := l) (a := a) (b := bb) HMEM.out)
                have HZI := Lib.hid (HSZ.out _ HMEM.out)
                have HSMI := Lib.hid (HSM.out _ HMEM.out)
                clear hc hrc x2 x3 x4
                generalize l[i] = r at *
                have HLS : Hid (∀ x ∈ S0, ∃ r, R.mayR r = true ∧ x = (kyR r, R.layL r)) := Lib.hid (fun x hx => by
                  rw [HS0.out] at hx
                  rcases putSs_laid l [] x hx with h | ⟨r, _, h1, h2⟩
                  · cases h
                  · exact ⟨r, h1, h2⟩)
                have HGO : Hid (∀ a bb, onceN (kyR r) l = 1 → GetS S0 (kyR r) a bb → bb = R.mayR r ∧ (bb = true → a = r)) := Lib.hid (fun a bb h1 hg => HGO.out a bb h1 (by rw [← HS0.out]; exact hg))
                cases hk : R.keyB r.o r.s with
                | false =>
                  go_wp2_with fail
                  refine (R.maykey_c r.o r.s wr).mono ?_
                  rintro e w6 ⟨rfl, b6⟩
                  rw [hk]
                  go_wp2_with fail
                  go_roundw
                  case rel =>
                    repeat apply Exists.intro
                    refine ⟨?r2, rfl⟩
                    exact ⟨i + 1, HP3.out, by go_num, Lib.hid (bn CI.out b6)⟩
                  case measure => have := HP3.out; simp [RowKit.intOf]; omega
                | true =>
                  go_wp2_with fail
                  refine (R.maykey_c r.o r.s wr).mono ?_
                  rintro e w6 ⟨rfl, b6⟩
                  rw [hk]
                  clear x0 x1 hgl
                  go_wp2_with fail
                  refine (SG.out w6 b6).mono ?_
                  rintro e w7 ⟨rfl, b7⟩
                  have B7 := Lib.hid (bn b6 b7)
                  clear b6 b7 SG
                  by_cases h1 : onceN (kyR r) l = 1
                  · rw [decide_eq_true h1]
                    obtain ⟨y0, y1, y2, y3, y4⟩ := HRC.out w7 B7.out
                    have hgl7 := World.block_lt_of_cell? _ _ y0
                    have HSUMI := Lib.hid (HSUM.out hk h1)
                    have HGET := Lib.hid (fun a bb hg => HGO.out a bb h1 hg)
                    go_wp2_with fail
                    refine (R.reflay_c r w7 HZI.out.1 (HT.out.below (bn BI.out B7.out))).mono ?_
                    rintro e w8 ⟨v8, rfl, r8, b8⟩
                    clear y0 y1 y2 y3 y4 hgl7
                    cases hm : R.mayR r with
                    | true =>
                      rw [hm, if_pos rfl] at r8
                      rw [if_pos rfl]
                      have HSUMI : Hid (sumV (treeF S0) r.o 5 r.s = D.fnv 14695981039346656037 (R.layL r)) := Lib.hid (by rw [HS0.out, HSUMI.out, if_pos hm])
                      have CO := Lib.hid (D.one_c (R.layL r) v8 w8 (bl_of_row r8) (by rw [R.layL_len]; have := HSMI.out; omega))
                      have B8c := Lib.hid (bn B7.out b8)
                      clear r8 b8
                      go_wp2_with fail
                      refine CO.out.mono ?_
                      rintro e w9 ⟨rfl, b9⟩
                      have B9 := Lib.hid (bn B8c.out b9)
                      clear b9 CO B8c
                      generalize D.fnv 14695981039346656037 (R.layL r) = want at *
                      obtain ⟨y0, y1, _, _, _⟩ := HRC.out w9 B9.out
                      have hgl9 := World.block_lt_of_cell? _ _ y0
                      have HSQ : ∀ nn, Calls Tryd.prog 14 #[.pointer (some ⟨p, 0, none⟩), .int .i64 r.o, .int .i64 5, .int .i64 r.s] (w9.drewN nn) fun e w' => e = .returned (.tuple #[.int .u64 want, .bool (sumB r.o 5 r.s)]) ∧ w' = w9.drewN nn := fun nn => by
                        have := sumT_c p S0 own3 r.o 5 r.s (w9.drewN nn) (HI8.out.below (below_drewN B9.out nn))
                        rwa [HSUMI.out] at this
                      go_wp2_with fail
                      go_quiet (first | (go_at_call 14; refine Calls.quiet_of_same (HSQ _)))
                      obtain ⟨w10, hw10⟩ : ∃ w10, w10 = w9.drewN nq := ⟨_, rfl⟩
                      have B10 : Hid (Below wr.heap.size wr w10) := Lib.hid (by rw [hw10]; exact below_drewN B9.out _)
                      rw [← hw10]
                      clear hw10 HSQ y0 y1 hgl9 B9
                      obtain ⟨y0, y1, _, _, _⟩ := HRC.out w10 B10.out
                      have hgl10 := World.block_lt_of_cell? _ _ y0
                      generalize sumB r.o 5 r.s = sb at *
                      go_wp2_with fail
                      refine (get_c p S0 own3 r.o r.s w10 (HI8.out.below B10.out) HLS.out HZI.out.2 (HT.out.below (bn BI.out B10.out))).mono ?_
                      rintro e w11 ⟨a, bb, rfl, hg, b11⟩
                      have B11 := Lib.hid (bn B10.out b11)
                      clear b11 y0 y1 hgl10 B10
                      obtain rfl : bb = true := (HGET.out a bb hg).1.trans hm
                      obtain rfl : a = r := (HGET.out a true hg).2 rfl
                      clear hg HGET
                      obtain ⟨y0, y1, y2, y3, y4⟩ := HRC.out w11 B11.out
                      have hgl11 := World.block_lt_of_cell? _ _ y0
                      go_wp2_with fail
                      obtain ⟨w12, hw12⟩ : ∃ w12, w12 = w11.alloc (.cells #[.int .i64 a.o, .int .i64 a.s, .int .i64 a.w, .int .i64 a.c, .string a.t] 36) := ⟨_, rfl⟩
                      have B12 : Hid (Below wr.heap.size wr w12) := Lib.hid (by rw [hw12]; exact bn B11.out (alloc_below _ _))
                      have X12 : R.Bx 36 w12 w11.heap.size #[.int .i64 a.o, .int .i64 a.s, .int .i64 a.w, .int .i64 a.c, .string a.t] := by rw [hw12]; exact R.Bx.new _ w11 _
                      rw [← hw12]
                      clear hw12 y0 y1 y2 y3 y4 hgl11
                      obtain ⟨y0, y1, y2, y3, y4⟩ := HRC.out w12 B12.out
                      have hgl12 := World.block_lt_of_cell? _ _ y0
                      obtain ⟨z0, z1, z2, z3, z4⟩ := X12.five
                      have hlz := X12.lt
                      go_quiet (fail)
                      go_wp2_with fail
                      go_roundw
                      case rel =>
                        repeat apply Exists.intro
                        refine ⟨?r3, rfl⟩
                        exact ⟨i + 1, HP3.out, by go_num, Lib.hid (bn CI.out (below_drewN B12.out _))⟩
                      case measure => have := HP3.out; simp [RowKit.intOf]; omega
                    | false =>
                      rw [if_neg (by simp)]
                      have HSUMI : Hid (sumV (treeF S0) r.o 5 r.s = 0) := Lib.hid (by rw [HS0.out, HSUMI.out, if_neg (by rw [hm]; simp)])
                      obtain ⟨w9, hw9⟩ : ∃ w9, w9 = w8 := ⟨_, rfl⟩
                      have B9 : Hid (Below wr.heap.size wr w9) := Lib.hid (by rw [hw9]; exact bn B7.out b8)
                      rw [← hw9]
                      clear b8 r8 hw9
                      obtain ⟨y0, y1, _, _, _⟩ := HRC.out w9 B9.out
                      have hgl9 := World.block_lt_of_cell? _ _ y0
                      have HSQ : ∀ nn, Calls Tryd.prog 14 #[.pointer (some ⟨p, 0, none⟩), .int .i64 r.o, .int .i64 5, .int .i64 r.s] (w9.drewN nn) fun e w' => e = .returned (.tuple #[.int .u64 0, .bool (sumB r.o 5 r.s)]) ∧ w' = w9.drewN nn := fun nn => by
                        have := sumT_c p S0 own3 r.o 5 r.s (w9.drewN nn) (HI8.out.below (below_drewN B9.out nn))
                        rwa [HSUMI.out] at this
                      go_wp2_with fail
                      go_quiet (first | (go_at_call 14; refine Calls.quiet_of_same (HSQ _)))
                      obtain ⟨w10, hw10⟩ : ∃ w10, w10 = w9.drewN nq := ⟨_, rfl⟩
                      have B10 : Hid (Below wr.heap.size wr w10) := Lib.hid (by rw [hw10]; exact below_drewN B9.out _)
                      rw [← hw10]
                      clear hw10 HSQ y0 y1 hgl9 B9
                      obtain ⟨y0, y1, _, _, _⟩ := HRC.out w10 B10.out
                      have hgl10 := World.block_lt_of_cell? _ _ y0
                      generalize sumB r.o 5 r.s = sb at *
                      go_wp2_with fail
                      refine (get_c p S0 own3 r.o r.s w10 (HI8.out.below B10.out) HLS.out HZI.out.2 (HT.out.below (bn BI.out B10.out))).mono ?_
                      rintro e w11 ⟨a, bb, rfl, hg, b11⟩
                      have B11 := Lib.hid (bn B10.out b11)
                      clear b11 y0 y1 hgl10 B10
                      obtain rfl : bb = false := (HGET.out a bb hg).1.trans hm
                      clear hg HGET
                      obtain ⟨y0, y1, y2, y3, y4⟩ := HRC.out w11 B11.out
                      have hgl11 := World.block_lt_of_cell? _ _ y0
                      go_wp2_with fail
                      obtain ⟨w12, hw12⟩ : ∃ w12, w12 = w11.alloc (.cells #[.int .i64 a.o, .int .i64 a.s, .int .i64 a.w, .int .i64 a.c, .string a.t] 36) := ⟨_, rfl⟩
                      have B12 : Hid (Below wr.heap.size wr w12) := Lib.hid (by rw [hw12]; exact bn B11.out (alloc_below _ _))
                      have X12 : R.Bx 36 w12 w11.heap.size #[.int .i64 a.o, .int .i64 a.s, .int .i64 a.w, .int .i64 a.c, .string a.t] := by rw [hw12]; exact R.Bx.new _ w11 _
                      rw [← hw12]
                      clear hw12 y0 y1 y2 y3 y4 hgl11
                      obtain ⟨y0, y1, y2, y3, y4⟩ := HRC.out w12 B12.out
                      have hgl12 := World.block_lt_of_cell? _ _ y0
                      obtain ⟨z0, z1, z2, z3, z4⟩ := X12.five
                      have hlz := X12.lt
                      go_quiet (fail)
                      go_wp2_with fail
                      go_roundw
                      case rel =>
                        repeat apply Exists.intro
                        refine ⟨?r4, rfl⟩
                        exact ⟨i + 1, HP3.out, by go_num, Lib.hid (bn CI.out (below_drewN B12.out _))⟩
                      case measure => have := HP3.out; simp [RowKit.intOf]; omega
                  · rw [decide_eq_false h1]
                    go_wp2_with fail
                    go_roundw
                    case rel =>
                      repeat apply Exists.intro
                      refine ⟨?r5, rfl⟩
                      exact ⟨i + 1, HP3.out, by go_num, Lib.hid (bn CI.out B7.out)⟩
                    case measure => have := HP3.out; simp [RowKit.intOf]; omega
              · have hil : i = l.length := by omega
                subst hil
                clear hc
                go_wp2_with fail
                refine (D.refall_c ds _ wr (R8.out.below CI.out) (by have := HDL.out; omega)).mono ?_
                rintro e w9 ⟨rfl, b9⟩
                rw [HWE.out]
                have B9 := Lib.hid (bn BI.out b9)
                clear b9
                go_wp2_with fail
                refine (awake_c _ (HT.out.below B9.out)).mono ?_
                rintro e w10 ⟨rfl, b10⟩
                go_wp2
                go_ret
                exact ⟨rfl, bn B9.out b10⟩
end Go.Proofs.YthamhbbgmibmoaaDoor
