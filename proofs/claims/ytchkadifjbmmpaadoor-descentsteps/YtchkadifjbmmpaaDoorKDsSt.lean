/-
  PROVED: DescentSteps answers true, whatever two lists of records and range it is given. Conditions: the library's two listed tables hold what the program's text, and the pinned table, lay (the card ties them).
-/
import Derived.Test.YtchkadifjbmmpaaDoorPkDs
import Derived.Test.YtchkadifjbmmpaaDoorWDigAwake
namespace Go.Proofs.YtchkadifjbmmpaaDoor
open Go.RowKit Go.Lib Go.Maps
set_option maxRecDepth 100000
set_option linter.unusedSimpArgs false

set_option maxHeartbeats 64000000 in
theorem steps_law (xs ys : List R.Rc) (v1 v2 : Value) (ro rl ri : Int) (w : World) (h1 : R.Rl w v1 xs) (h2 : R.Rl w v2 ys) (hs1 : ∀ x ∈ xs, x.t.size ≤ 9223372036854775807 ∧ okKy (kyR x)) (hs2 : ∀ x ∈ ys, x.t.size ≤ 9223372036854775807 ∧ okKy (kyR x)) (hl1 : xs.length ≤ maxLen) (hl2 : ys.length ≤ maxLen) (hT : R.Tabs w) :
    Calls Tryd.prog 8 #[v1, v2, .agg #[.int .i64 ro, .int .i64 rl, .int .i64 ri]] w fun e w' => e = .returned (.bool true) ∧ Below w.heap.size w w' := by
  have mixed : Tryd.prog.follows .mixedOrders = true := by kernel_rfl
  have AL0 := alloc_below w (.cells #[.int .i64 ro, .int .i64 rl, .int .i64 ri] 75)
  have HBX0 := R.Bx.new 75 w #[.int .i64 ro, .int .i64 rl, .int .i64 ri]
  obtain ⟨w0, hw0⟩ : ∃ w0, w0 = w.alloc (.cells #[.int .i64 ro, .int .i64 rl, .int .i64 ri] 75) := ⟨_, rfl⟩
  obtain ⟨bx, hbx⟩ : ∃ bx, bx = w.heap.size := ⟨_, rfl⟩
  rw [← hw0] at HBX0 AL0
  rw [← hbx] at HBX0
  have HBX := Lib.hid HBX0
  have AL0 := Lib.hid AL0
  have HW0 := Lib.hid hw0
  have HQ0 := Lib.hid hbx
  have h1 := h1.below AL0.out
  have h2 := h2.below AL0.out
  have hT := hT.below AL0.out
  clear hw0 hbx HBX0
  have HG1 := Lib.hid (fun W (hb : Below w0.heap.size w0 W) => R.great_c xs v1 20 W (h1.below hb) (by omega) hl1)
  have HG2 := Lib.hid (fun W (hb : Below w0.heap.size w0 W) => R.great_c ys v2 20 W (h2.below hb) (by omega) hl2)
  have HAW := Lib.hid (fun W (hb : Below w0.heap.size w0 W) => awake13_c W (hT.below hb))
  have HT := Lib.hid hT
  cases hg1 : R.greatB xs 20 with
  | true =>
    rw [hg1] at HG1
    clear hg1 HG2 h1 h2 hs1 hs2 hl1 hl2 hT
    go_enter Tryd.func8, Tryd.ntmps8
    go_wp2_with fail
    rw [← HW0.out, ← HQ0.out]
    clear HW0 HQ0
    refine (HG1.out _ (Below.refl _ _)).mono ?_
    rintro e w1 ⟨rfl, b1⟩
    have B1 := Lib.hid (bn (Below.refl _ _) b1)
    clear b1
    go_wp2_with fail
    refine (HAW.out w1 B1.out).mono ?_
    rintro e w2 ⟨rfl, b2⟩
    go_wp2
    go_ret
    exact ⟨rfl, bn AL0.out (bn B1.out b2)⟩
  | false =>
    rw [hg1] at HG1
    cases hg2 : R.greatB ys 20 with
    | true =>
      rw [hg2] at HG2
      clear hg1 hg2 h1 h2 hs1 hs2 hl1 hl2 hT
      go_enter Tryd.func8, Tryd.ntmps8
      go_wp2_with fail
      rw [← HW0.out, ← HQ0.out]
      clear HW0 HQ0
      refine (HG1.out _ (Below.refl _ _)).mono ?_
      rintro e w1 ⟨rfl, b1⟩
      have B1 := Lib.hid (bn (Below.refl _ _) b1)
      clear b1
      go_wp2_with fail
      refine (HG2.out w1 B1.out).mono ?_
      rintro e w2 ⟨rfl, b2⟩
      have B2 := Lib.hid (bn B1.out b2)
      clear b2
      go_wp2_with fail
      refine (HAW.out w2 B2.out).mono ?_
      rintro e w3 ⟨rfl, b3⟩
      go_wp2
      go_ret
      exact ⟨rfl, bn AL0.out (bn B2.out b3)⟩
    | false =>
      rw [hg2] at HG2
      have hx : xs.length ≤ 20 := (R.greatB_no hg1).1
      have hy : ys.length ≤ 20 := (R.greatB_no hg2).1
      have HB1 := Lib.hid (fun W (hb : Below w0.heap.size w0 W) => both_c xs v1 W (h1.below hb) hs1 (by omega) (hT.below hb))
      have HB2 := Lib.hid (fun W (hb : Below w0.heap.size w0 W) => both_c ys v2 W (h2.below hb) hs2 (by omega) (hT.below hb))
      have HF1 : Hid (Once (refPuts [] xs)) := Lib.hid (puts_facts xs [] ⟨by simp, by simp⟩)
      have HF2 : Hid (Once (refPuts [] ys)) := Lib.hid (puts_facts ys [] ⟨by simp, by simp⟩)
      have hL : (refPuts [] xs).length ≤ 20 := by have := (refPuts_len xs []).2; simp only [List.length_nil] at this; omega
      have hM : (refPuts [] ys).length ≤ 20 := by have := (refPuts_len ys []).2; simp only [List.length_nil] at this; omega
      generalize refPuts [] xs = L at *
      generalize refPuts [] ys = M at *
      clear hg1 hg2 h1 h2 hs1 hs2 hl1 hl2 hT hx hy
      go_enter Tryd.func8, Tryd.ntmps8
      go_wp2_with fail
      rw [← HW0.out, ← HQ0.out]
      clear HW0 HQ0
      refine (HG1.out _ (Below.refl _ _)).mono ?_
      rintro e w1 ⟨rfl, b1⟩
      have B1 := Lib.hid (bn (Below.refl _ _) b1)
      clear b1 HG1
      go_wp2_with fail
      refine (HG2.out w1 B1.out).mono ?_
      rintro e w2 ⟨rfl, b2⟩
      have B2 := Lib.hid (bn B1.out b2)
      clear b2 HG2 B1
      go_wp2_with fail
      refine (HB1.out w2 B2.out).mono ?_
      rintro e w3 ⟨p, q, ot, rfl, a3⟩
      have A3 := Lib.hid a3
      have B3 := Lib.hid (bn B2.out a3.b)
      clear a3 HB1 B2
      go_wp2_with fail
      refine (HB2.out w3 B3.out).mono ?_
      rintro e w4 ⟨u, y, ou, rfl, a4⟩
      have M4 := Lib.hid a4
      have L4 := Lib.hid (A3.out.below a4.b)
      have B4 := Lib.hid (bn B3.out a4.b)
      clear a4 HB2 B3 A3
      have R4 := Lib.hid (HBX.out.below B4.out)
      have CV := Lib.hid (fun (o l i : Int) W (hb : Below w4.heap.size w4 W) => refSum_c q L _ o l i W (L4.out.below hb).r HF1.out.2 (by omega) (HT.out.below (bn B4.out hb)))
      have CW := Lib.hid (fun (o l i : Int) W (hb : Below w4.heap.size w4 W) => refSum_c y M _ o l i W (M4.out.below hb).r HF2.out.2 (by omega) (HT.out.below (bn B4.out hb)))
      have CS := Lib.hid (fun W (hb : Below w4.heap.size w4 W) => step_c p u (sx L) (sx M) ot ou ro rl ri W (L4.out.t.below hb) (M4.out.t.below hb))
      have HST : Hid (difB (sx L) (sx M) (ro, rl, ri) = false → stepL (difB (sx L) (sx M)) (ro, rl, ri) = []) := Lib.hid (fun h => by unfold stepL; rw [h]; rfl)
      have HS5 : Hid (¬ rl < 5 → stepL (difB (sx L) (sx M)) (ro, rl, ri) = []) := Lib.hid (fun h => by
        cases hd : difB (sx L) (sx M) (ro, rl, ri) with
        | false => unfold stepL; rw [hd]; rfl
        | true => exact step_five (dif_deep _ _) (by have := (dif_deep _ _ _ hd).2; simp only at this ⊢; omega))
      have HSY : Hid (difB (sx L) (sx M) (ro, rl, ri) = true → stepL (difB (sx L) (sx M)) (ro, rl, ri) = (partsR (ro, rl, ri)).filter (difB (sx L) (sx M))) := Lib.hid (fun h => by unfold stepL; rw [h]; rfl)
      have HDS := Lib.hid (fun (o l i : Int) => dif_sum (sx L) (sx M) o l i)
      have HDI := Lib.hid (fun (o l i : Int) (h : difB (sx L) (sx M) (o, l, i) = true) => dif_in h)
      have hsl : (stepL (difB (sx L) (sx M)) (ro, rl, ri)).length ≤ 4 := by
        unfold stepL
        split
        · have := List.length_filter_le (difB (sx L) (sx M)) (partsR (ro, rl, ri))
          rw [partsR_len] at this
          exact this
        · simp
      have HDD := Lib.hid (show difB (sx L) (sx M) (ro, rl, ri) = (sumB ro rl ri && (sumV (treeF (sx L)) ro rl ri != sumV (treeF (sx M)) ro rl ri)) from rfl)
      generalize stepL (difB (sx L) (sx M)) (ro, rl, ri) = st at *
      generalize difB (sx L) (sx M) = Df at *
      generalize treeF (sx L) = F at *
      generalize treeF (sx M) = G at *
      have r0 := R4.out.cell 0
      have r1 := R4.out.cell 1
      have r2 := R4.out.cell 2
      simp only [List.getElem?_toArray, List.getElem?_cons_succ, List.getElem?_cons_zero] at r0 r1 r2
      have hrl := R4.out.lt
      clear HF1 HF2 L4 M4
      have CV0 := Lib.hid (CV.out ro rl ri w4 (Below.refl _ _))
      have CW0 := Lib.hid (fun W hb => CW.out ro rl ri W hb)
      generalize sumV F ro rl ri = sx1 at *
      generalize sumV G ro rl ri = sx2 at *
      generalize sumB ro rl ri = sb at *
      go_wp2_with fail
      refine CV0.out.mono ?_
      rintro e w5 ⟨rfl, b5⟩
      have B5 := Lib.hid b5
      have R5 := Lib.hid (R4.out.below b5)
      clear b5 r0 r1 r2 hrl CV0
      have r0 := R5.out.cell 0
      have r1 := R5.out.cell 1
      have r2 := R5.out.cell 2
      simp only [List.getElem?_toArray, List.getElem?_cons_succ, List.getElem?_cons_zero] at r0 r1 r2
      have hrl := R5.out.lt
      go_wp2_with fail
      refine (CW0.out w5 B5.out).mono ?_
      rintro e w6 ⟨rfl, b6⟩
      have B6 := Lib.hid (bn B5.out b6)
      clear b6 r0 r1 r2 hrl CW0
      have HRX := Lib.hid (fun W (hb : Below w4.heap.size w4 W) => R4.out.below hb)
      have G6 : Hid (GRow w6 w4.heap.size (.slice none 0 0) (if Df (ro, rl, ri) = true ∧ rl < 5 then ((partsR (ro, rl, ri)).take 0).filter Df else [])) := Lib.hid (by
        split <;> exact GRow.nil _ _)
      go_wp2_with fail
      go_loopw [11, 16] (fun v11 v16 wr => ∃ (k : Nat), k ≤ 4 ∧ v16 = .int .i64 (k : Int) ∧ Hid (GRow wr w4.heap.size v11 (if Df (ro, rl, ri) = true ∧ rl < 5 then ((partsR (ro, rl, ri)).take k).filter Df else [])) ∧ Hid (Below w4.heap.size w4 wr)) (fun _ v16 _ => 4 - (RowKit.intOf v16).toNat)
      case atStart => exact ⟨0, by omega, rfl, G6, B6⟩
      case round =>
        obtain ⟨k, hk, rfl, GK, BK⟩ := hrel
        clear G6
        have hb := HRX.out wr BK.out
        have r0 := hb.cell 0
        have r1 := hb.cell 1
        have r2 := hb.cell 2
        simp only [List.getElem?_toArray, List.getElem?_cons_succ, List.getElem?_cons_zero] at r0 r1 r2
        have hrl := hb.lt
        clear hb
        by_cases hp : k < 4 ∧ Df (ro, rl, ri) = true ∧ rl < 5
        · obtain ⟨hp4, hd, hl5⟩ := hp
          have hsb : sb = true ∧ (sx1 != sx2) = true := by
            have := HDD.out
            rw [hd, eq_comm, Bool.and_eq_true] at this
            exact this
          obtain ⟨on, ln, kn, rfl, rfl, rfl, _, hln, hkn⟩ := HDI.out ro rl ri hd
          obtain ⟨rfl, hne⟩ := hsb
          rw [if_pos ⟨hd, hl5⟩] at GK
          have HP := Lib.hid hp4
          have HCN := Lib.hid (And.intro hd hl5)
          have hjl : k < (partsR ((on : Int), (ln : Int), (kn : Int))).length := by rw [partsR_len]; exact hp4
          have hpe : (partsR ((on : Int), (ln : Int), (kn : Int)))[k] = ((on : Int), (ln : Int) + 1, (kn : Int) * 4 + (k : Int)) := by simp [partsR, partR]
          have HN : Hid (((partsR ((on : Int), (ln : Int), (kn : Int))).take (k + 1)).filter Df = ((partsR ((on : Int), (ln : Int), (kn : Int))).take k).filter Df ++ if Df ((on : Int), (ln : Int) + 1, (kn : Int) * 4 + (k : Int)) = true then [((on : Int), (ln : Int) + 1, (kn : Int) * 4 + (k : Int))] else []) := Lib.hid (by
            rw [List.take_succ_eq_append_getElem hjl, List.filter_append, hpe]
            congr 1
            by_cases hd : Df ((on : Int), (ln : Int) + 1, (kn : Int) * 4 + (k : Int)) = true
            · rw [if_pos hd, List.filter_cons_of_pos hd]
              rfl
            · rw [if_neg hd, List.filter_cons_of_neg hd]
              rfl)
          have hlen : (((partsR ((on : Int), (ln : Int), (kn : Int))).take k).filter Df).length ≤ 4 := by
            have := List.length_filter_le Df ((partsR ((on : Int), (ln : Int), (kn : Int))).take k)
            rw [List.length_take] at this
            omega
          have CV1 := Lib.hid (CV.out (on : Int) ((ln : Int) + 1) ((kn : Int) * 4 + (k : Int)) wr BK.out)
          have CW1 := Lib.hid (fun W hb => CW.out (on : Int) ((ln : Int) + 1) ((kn : Int) * 4 + (k : Int)) W hb)
          have HD1 := Lib.hid (HDS.out (on : Int) ((ln : Int) + 1) ((kn : Int) * 4 + (k : Int)))
          generalize sumV F (on : Int) ((ln : Int) + 1) ((kn : Int) * 4 + (k : Int)) = x1 at *
          generalize sumV G (on : Int) ((ln : Int) + 1) ((kn : Int) * 4 + (k : Int)) = x2 at *
          generalize ((partsR ((on : Int), (ln : Int), (kn : Int))).take k).filter Df = done at *
          obtain ⟨A, C, rfl⟩ := GK.out.form
          clear hd hjl hpe HST HS5 HSY
          go_wp2_with fail
          refine CV1.out.mono ?_
          rintro e w7 ⟨rfl, b7⟩
          have B7 := Lib.hid (bn BK.out b7)
          have G7 := Lib.hid (GK.out.below b7)
          clear b7 r0 r1 r2 hrl CV1 hne
          have hb := HRX.out w7 B7.out
          have r0 := hb.cell 0
          have r1 := hb.cell 1
          have r2 := hb.cell 2
          simp only [List.getElem?_toArray, List.getElem?_cons_succ, List.getElem?_cons_zero] at r0 r1 r2
          have hrl := hb.lt
          clear hb
          go_wp2_with fail
          refine (CW1.out w7 B7.out).mono ?_
          rintro e w8 ⟨rfl, b8⟩
          have B8 := Lib.hid (bn B7.out b8)
          have G8 := Lib.hid (G7.out.below b8)
          clear b8 r0 r1 r2 hrl CW1
          have hb := HRX.out w8 B8.out
          have r0 := hb.cell 0
          have r1 := hb.cell 1
          have r2 := hb.cell 2
          simp only [List.getElem?_toArray, List.getElem?_cons_succ, List.getElem?_cons_zero] at r0 r1 r2
          have hrl := hb.lt
          clear hb
          cases hx : (x1 != x2) with
          | false =>
            have HX := HD1.out
            rw [hx] at HX
            rw [HX, if_neg (by decide), List.append_nil] at HN
            clear HX
            go_wp2_with fail
            go_roundw
            case rel => exact ⟨k + 1, HP.out, by go_num, by rw [if_pos HCN.out, HN.out]; exact G8, B8⟩
            case measure => have := HP.out; simp [RowKit.intOf]; omega
          | true =>
            have HX := HD1.out
            rw [hx] at HX
            rw [HX, if_pos rfl] at HN
            clear HX
            obtain ⟨A', C', w9, run9, g9, b9⟩ := gapp_run done ((on : Int), (ln : Int) + 1, (kn : Int) * 4 + (k : Int)) A C w4.heap.size w8 76 G8.out (by omega) B8.out.size
            have HR := Lib.hid run9
            have B9 := Lib.hid (B8.out.trans b9)
            have G9 : Hid (GRow w9 w4.heap.size (.slice A' (done.length + 1) C') (done ++ [((on : Int), (ln : Int) + 1, (kn : Int) * 4 + (k : Int))])) := Lib.hid g9
            clear run9 g9 b9
            go_wp2_with (at_builtin; refine D.wpList_append_run rfl _ _ 76 rfl _ _ HR.out ?_; clear HR)
            go_roundw
            case rel => exact ⟨k + 1, HP.out, by go_num, by rw [if_pos HCN.out, HN.out]; exact G9, B9⟩
            case measure => have := HP.out; simp [RowKit.intOf]; omega
        · have GS : Hid (GRow wr w4.heap.size _ st) := Lib.hid (by
            have g := GK.out
            by_cases hc : Df (ro, rl, ri) = true ∧ rl < 5
            · have hk4 : k = 4 := by have : ¬ k < 4 := fun h => hp ⟨h, hc⟩; omega
              rw [if_pos hc, hk4, show 4 = (partsR (ro, rl, ri)).length from (partsR_len _).symm, List.take_length, ← HSY.out hc.1] at g
              exact g
            · rw [if_neg hc] at g
              have : st = [] := by
                by_cases hd : Df (ro, rl, ri) = true
                · exact HS5.out (by have : ¬ rl < 5 := fun h => hc ⟨hd, h⟩; omega)
                · exact HST.out (by simpa using hd)
              rw [this]
              exact g)
          have hcase : ¬ (k < 4) ∨ (k < 4 ∧ sb = false) ∨ (k < 4 ∧ sb = true ∧ (sx1 != sx2) = false) ∨ (k < 4 ∧ sb = true ∧ (sx1 != sx2) = true ∧ ¬ rl < 5) := by
            by_cases h4 : k < 4
            · have := HDD.out
              cases sb with
              | false => exact .inr (.inl ⟨h4, rfl⟩)
              | true =>
                cases hx : (sx1 != sx2) with
                | false => exact .inr (.inr (.inl ⟨h4, rfl, rfl⟩))
                | true =>
                  refine .inr (.inr (.inr ⟨h4, rfl, rfl, fun hl => hp ⟨h4, ?_, hl⟩⟩))
                  rw [this, hx]
                  rfl
            · exact .inl h4
          obtain ⟨A, C, rfl⟩ := GS.out.form
          clear hp GK HST HS5 HSY HDD HDI HDS CV CW
          rcases hcase with h4 | ⟨h4, rfl⟩ | ⟨h4, rfl, hx⟩ | ⟨h4, rfl, hx, h5⟩
          all_goals
            go_wp2_with fail
            refine (CS.out wr BK.out).mono ?_
            rintro e w7 ⟨A7, C7, rfl, g7, b7⟩
            have GA := Lib.hid (GS.out.below b7)
            have GB := Lib.hid g7
            have B7 := Lib.hid (bn BK.out b7)
            have C0 : Hid (Below w7.heap.size w7 w7) := Lib.hid (Below.refl _ _)
            have hs4 := hsl
            clear g7 b7 r0 r1 r2 hrl
            go_wp2_with fail
            go_loopw [22] (fun v22 wz => ∃ (i : Nat), i ≤ st.length ∧ v22 = .int .i64 (i : Int) ∧ Hid (Below w7.heap.size w7 wz)) (fun v22 _ => st.length - (RowKit.intOf v22).toNat)
            case atStart => exact ⟨0, by omega, rfl, C0⟩
            case round =>
              obtain ⟨i, hi, rfl, CI⟩ := hrel
              clear C0
              by_cases hp2 : i < st.length
              · have HP2 := Lib.hid hp2
                obtain ⟨g1, rfl, x0, x1, x2⟩ := (GA.out.below CI.out).at i hp2
                obtain ⟨g2, rfl, z0, z1, z2⟩ := (GB.out.below CI.out).at i hp2
                have hg1 := World.block_lt_of_cell? _ _ x0
                have hg2 := World.block_lt_of_cell? _ _ z0
                generalize st[i] = e at *
                obtain ⟨eo, el, ei⟩ := e
                simp only at x0 x1 x2 z0 z1 z2
                have qe : ∀ W, (Op.equalIn 10000 75 (.agg #[.int .i64 eo, .int .i64 el, .int .i64 ei]) (.agg #[.int .i64 eo, .int .i64 el, .int .i64 ei])).run Tryd.prog W = .ok true W := fun W => by rw [eq_rg]; simp
                go_wp2_with fail
                go_quiet (fail)
                go_wp2_with fail
                go_roundw
                case rel => exact ⟨i + 1, HP2.out, by go_num, Lib.hid (below_drewN CI.out _)⟩
                case measure => have := HP2.out; simp [RowKit.intOf]; omega
              · obtain rfl : i = st.length := by omega
                go_wp2_with fail
                refine (HAW.out _ (bn (bn B4.out B7.out) CI.out)).mono ?_
                rintro e w9 ⟨rfl, b9⟩
                go_wp2_with fail
                go_ret
                exact ⟨rfl, bn AL0.out (bn (bn (bn B4.out B7.out) CI.out) b9)⟩
end Go.Proofs.YtchkadifjbmmpaaDoor
namespace Go.Proofs.YtchkadifjbmmpaaDoor
open Go.RowKit Go.ChangeShapes Go.WideShapes Go.ChangeAt Go.Deep

set_option maxRecDepth 100000 in
theorem rg_cells {H : Type} {enc : TypeId × Value → H} {W : World} {base : Nat} {spare : Nat → Bool} {held : Bool} {fuel : Nat} {cs : List Value} {x : DataW H × List MemPlace}
    (h : DataW.trod enc Tryd.prog W base spare held fuel 75 cs = some x) : ∃ a b c : Int, cs = [.int .i64 a, .int .i64 b, .int .i64 c] := by
  obtain ⟨y0, y1, y2, n, _, hl, h0, h1, h2⟩ := trod_struct3 Tryd.underlying75 h
  have c3 : Tryd.prog.cellsOf 3 = 1 := by kernel_rfl
  have cr : Tryd.prog.cellsOf 75 = 3 := by kernel_rfl
  rw [cr] at hl
  match cs, hl with
  | [u0, u1, u2], _ =>
    obtain ⟨a, e0, _, _⟩ := DataW.trod_int (t := 3) Tryd.underlying3 h0
    obtain ⟨b, e1, _, _⟩ := DataW.trod_int (t := 3) Tryd.underlying3 h1
    obtain ⟨c, e2, _, _⟩ := DataW.trod_int (t := 3) Tryd.underlying3 h2
    simp [c3] at e0 e1 e2
    exact ⟨a, b, c, by rw [e0, e1, e2]⟩
set_option maxRecDepth 100000 in
theorem open_rg {H : Type} {enc : TypeId × Value → H} {W : World} {r : Reach} {b0 base : Nat} {spare : Nat → Bool} {held : Bool} {v : Value} {d : DataW H} {p : List MemPlace}
    (hv : Value.okWide Tryd.prog W r b0 75 v) (h : DataW.Trod enc Tryd.prog W base spare held 75 v d p) : ∃ a b c : Int, v = .agg #[.int .i64 a, .int .i64 b, .int .i64 c] := by
  obtain ⟨cs, rfl, hsz⟩ := okWide_struct Tryd.underlying75 hv
  obtain ⟨fuel, hf⟩ := h
  obtain ⟨a, b, c, e⟩ := rg_cells hf
  refine ⟨a, b, c, ?_⟩
  have e2 : cs.toList = [.int .i64 a, .int .i64 b, .int .i64 c] := e
  rw [show cs = #[.int .i64 a, .int .i64 b, .int .i64 c] from by cases cs; simpa using e2]

set_option maxRecDepth 100000 in
theorem steps_lifted (os : Os) (started : os.Started) (H : Type) (enc : TypeId × Value → H) :
    ReturnsInHanded {} Tryd.checked os 8 .any (fun w args => (Rows.descentStepsSpec.pre enc Tryd.prog Tryd.f8 [] false w args ∧ laidMetH Tryd.prog Rows.descentStepsRow.laid w) ∧ sizedMet enc Tryd.prog Tryd.f8 (OpenSpec.ofChange Rows.descentStepsSpec) false w args)
      (Rows.descentStepsSpec.post enc Tryd.prog Tryd.f8 false true false false) := by
  refine laid_lift (C := Tryd.checked) (L := seatLaid) own started (by kernel_rfl) Tryd.func8
    (ChangeSpec.witness_shaped (enc := enc) (C := Tryd.checked) (os := os) (X := fun w _ => laidMetH Tryd.prog seatLaid w) false (World.laidAll Tryd.prog os seatLaid) #[.slice none 0 0, .slice none 0 0, .agg #[.int .i64 0, .int .i64 0, .int .i64 0]] 8 (World.laidAll_os _ _ _)
      (World.shaped_of_ZipB (by kernel_rfl) (by kernel_rfl)) (by kernel_rfl) (by kernel_rfl) (by kernel_rfl) (laid_world os _)) laidOut
    (by rw [Tryd.params8]; exact of_decide_eq_true (by kernel_rfl)) rfl 4 Tryd.underlying4 (by kernel_rfl)
    (fun ds h => by
      rw [Tryd.params8] at h
      match ds, h with
      | [_, _, _], _ => rfl) ?_
  intro W base args ds ps hval hA hL
  rw [Tryd.params8] at hA hval
  have hT := tabs_of_laid W hL
  obtain ⟨v0, v1, v2, d0, d1, d2, p0, p1, p2, rfl, rfl, rfl, h0, h1, h2⟩ := trodAll_three hA
  obtain ⟨l0, hl0, hs0, hm0⟩ := open_recs (hval 0 28 v0 rfl rfl) h0
  obtain ⟨l1, hl1, hs1, hm1⟩ := open_recs (hval 1 28 v1 rfl rfl) h1
  obtain ⟨ra, rb, rc, rfl⟩ := open_rg (hval 2 75 v2 rfl rfl) h2
  exact steps_law l0 l1 v0 v1 ra rb rc W hl0 hl1 hs0 hs1 hm0 hm1 hT

theorem steps_holds : Rows.DescentStepsSaid :=
  OpenClaim.holds_of_wide 8 Tryd.f8 rfl rfl rfl rfl rfl rfl rfl ⟨rfl, rfl, rfl, rfl, rfl⟩ rfl rfl rfl rfl rfl (by kernel_rfl) Tryd.func8 (by kernel_rfl)
    (of_decide_eq_true (by kernel_rfl)) (by unfold Func.isWrapper; first | (rw [if_pos (by decide +kernel)]; kernel_rfl) | (rw [if_neg (by decide +kernel)]; exact ⟨rfl, rfl⟩))
    (fun os started H enc _ => steps_lifted os started H enc)

theorem steps_card : Rows.DescentStepsCardSaid :=
  Claim7.holds_tied_plain_at .later [] _ _ _ _ steps_holds (fun _ h => by cases h) (by kernel_rfl) (fun _ h => by cases h) descentSteps_row_tie rfl ⟨rfl, rfl⟩ (by kernel_rfl) rfl
    (fun f fn hf hfn => by
      obtain rfl : f = 8 := Option.some.inj ((show Tryd.prog.funcNamed Rows.descentStepsRow.func = some 8 by kernel_rfl).symm.trans hf) |>.symm
      obtain rfl : fn = Tryd.f8 := (Option.some.inj (Tryd.func8.symm.trans hfn)).symm
      exact ⟨by kernel_rfl, fun j t ht => by
        rw [Tryd.params8] at ht
        have hm : t ∈ [28, 28, 75] := by simpa using Array.mem_of_getElem? ht
        have hall : ([28, 28, 75].all fun u => !Tryd.prog.wantsStandIn u) = true := by kernel_rfl
        exact (show Tryd.prog.wantsStandIn t = false by simpa using List.all_eq_true.1 hall t hm)⟩)
    (by kernel_rfl)
#print axioms steps_card
end Go.Proofs.YtchkadifjbmmpaaDoor
