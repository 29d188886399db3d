/-
  TreeOrigins, walked.
-/
import Derived.Test.YtchkadifjbmmpaaDoorTrOrP
namespace Go.Proofs.YtchkadifjbmmpaaDoor
open Go.RowKit Go.Lib Go.Maps
set_option maxRecDepth 100000
set_option linter.unusedSimpArgs false

def rowL (S : Sb) (L i : Int) (k : Nat) : List Int := (List.range k).map fun (o : Nat) => sumV (treeF S) (o : Int) L i
theorem rowL_len (S : Sb) (L i : Int) (k : Nat) : (rowL S L i k).length = k := by simp [rowL]
theorem rowL_next (S : Sb) (L i : Int) (k : Nat) : rowL S L i (k + 1) = rowL S L i k ++ [sumV (treeF S) (k : Int) L i] := by simp [rowL, List.range_succ]
theorem rowL_at (S : Sb) (L i : Int) (k j : Nat) (h : j < (rowL S L i k).length) : (rowL S L i k)[j] = sumV (treeF S) (j : Int) L i := by simp [rowL]
theorem row_form {w : World} {B : Nat} {v : Value} {l : List Int} (h : DRow w B v l) (h0 : 0 < l.length) : ∃ g cap, v = .slice (some ⟨g, 0, none⟩) l.length cap := by
  rcases h.2 with ⟨_, h1⟩ | ⟨g2, cap, cur, rfl, _⟩
  · omega
  · exact ⟨_, _, rfl⟩
theorem row_form0 {w : World} {B : Nat} {v : Value} {l : List Int} (h : DRow w B v l) : ∃ A cap, v = .slice A l.length cap := by
  rcases h.2 with ⟨rfl, h1⟩ | ⟨g2, cap, cur, rfl, _⟩
  · exact ⟨none, 0, by rw [h1]⟩
  · exact ⟨_, _, rfl⟩
set_option maxHeartbeats 32000000 in
theorem origins_law (l : List R.Rc) (v : Value) (wi L i : Int) (w : World) (h : R.Rl w v l) (hs : ∀ r ∈ l, r.t.size ≤ 9223372036854775807 ∧ okKy (kyR r)) (hl : l.length ≤ maxLen) (hT : R.Tabs w) :
    Calls Tryd.prog 6 #[v, .int .i64 wi, .int .i64 L, .int .i64 i] w fun e w' => e = .returned (.bool true) ∧ Below w.heap.size w w' := by
  have mixed : Tryd.prog.follows .mixedOrders = true := by kernel_rfl
  have HG := Lib.hid (R.great_c l v 20 w h (by omega) hl)
  have HT := Lib.hid hT
  cases hg : R.greatB l 20 with
  | true =>
    rw [hg] at HG
    clear hg h hs hl hT
    go_enter Tryd.func6, Tryd.ntmps6
    go_wp2_with fail
    refine HG.out.mono ?_
    rintro e w1 ⟨rfl, b1⟩
    go_wp2_with fail
    refine (awake_c w1 (HT.out.below b1)).mono ?_
    rintro e w2 ⟨rfl, b2⟩
    go_wp2
    go_ret
    exact ⟨rfl, bn b1 b2⟩
  | false =>
    rw [hg] at HG
    have hln : l.length ≤ 20 := (R.greatB_no hg).1
    obtain ⟨ad, cap, rfl, _, _⟩ := id h.form
    have HRL := Lib.hid h
    have HSZ := Lib.hid hs
    clear hg h hs hl hT
    go_enter Tryd.func6, Tryd.ntmps6
    go_wp2_with fail
    refine HG.out.mono ?_
    rintro e w1 ⟨rfl, b1⟩
    have B1 := Lib.hid b1
    clear b1 HG
    go_wp2_with fail
    refine (new_c w1).mono ?_
    rintro e w2 ⟨p, own, rfl, h2, o2, b2⟩
    have H2 := Lib.hid h2
    have B2 := Lib.hid (bn B1.out b2)
    have O2 : Hid (∀ i, own i → w.heap.size ≤ i) := Lib.hid (fun i hi => Nat.le_trans B1.out.size (o2 i hi))
    clear h2 o2 b2 B1
    go_wp2_with fail
    refine (put_c p [] own (.slice ad l.length cap) l w2 H2.out (fun W hW => HRL.out.below (B2.out.trans (hW.below B2.out.size O2.out))) HSZ.out (by omega) (by simp) (fun W hW => HT.out.below (B2.out.trans (hW.below B2.out.size O2.out)))).mono ?_
    rintro e w3 ⟨own3, rfl, h3, t3, o3⟩
    have H3 := Lib.hid h3
    have B3 : Hid (Below w.heap.size w w3) := Lib.hid (B2.out.trans (t3.below B2.out.size O2.out))
    have O3 : Hid (∀ i, own3 i → w.heap.size ≤ i) := Lib.hid (fun i hi => (o3 i hi).elim (O2.out i) (fun h => Nat.le_trans B2.out.size h))
    have hS0 : (putSs [] l).length ≤ 20 := by
      have := putSs_len [] l
      simp only [List.length_nil] at this
      omega
    clear h3 t3 o3 H2 B2 O2
    obtain ⟨S0, hS0e⟩ : ∃ S0, S0 = putSs [] l := ⟨_, rfl⟩
    have HS0 := Lib.hid hS0e
    rw [← hS0e] at H3 hS0
    rw [← hS0e]
    clear hS0e
    go_wp2_with fail
    refine (D.low_c wi 8 w3 (by omega) (by omega)).mono ?_
    rintro e w4 ⟨z, rfl, hz0, hz8, rfl⟩
    obtain ⟨wh, rfl⟩ := Int.eq_ofNat_of_zero_le hz0
    have hwh : wh < 8 := by omega
    clear hz0 hz8
    have R0 : Hid (DRow w3 w3.heap.size (.slice none 0 0) (rowL S0 L i 0)) := Lib.hid (by show World.ownsRow _ _ _ _ _ _ _; exact World.ownsRow_nil _ _ _ _)
    have W0 : Hid (Below w3.heap.size w3 w3) := Lib.hid (Below.refl _ _)
    go_wp2_with fail
    go_loopw [10, 11] (fun v10 v11 wr => ∃ (k : Nat), k ≤ 8 ∧ v11 = .int .i64 (k : Int) ∧ Hid (DRow wr w3.heap.size v10 (rowL S0 L i k)) ∧ Hid (Below w3.heap.size w3 wr)) (fun _ v11 _ => 8 - (RowKit.intOf v11).toNat)
    case atStart => exact ⟨0, by omega, rfl, R0, W0⟩
    case round =>
      obtain ⟨k, hk, rfl, RK, BK⟩ := hrel
      clear R0 W0
      by_cases hp : k < 8
      · have HP := Lib.hid hp
        obtain ⟨A, C, rfl⟩ := row_form0 RK.out
        have hp1 : (k : Int) < 8 := by omega
        have HRN := Lib.hid (rowL_next S0 L i k)
        go_wp2_with fail
        refine (sumT_c p S0 own3 (k : Int) L i wr (H3.out.below BK.out)).mono ?_
        rintro e w5 ⟨rfl, rfl⟩
        generalize sumV (treeF S0) (k : Int) L i = x at *
        have b6 := alloc_below w5 (.cells #[.int .u64 x] 44)
        obtain ⟨A7, C7, w7, run7, r7, gr7⟩ := dapp_run (rowL S0 L i k) x (.slice A (rowL S0 L i k).length C) w5.heap.size (w5.alloc (.cells #[.int .u64 x] 44)) 53 w3.heap.size (RK.out.below b6) ((cell_cells (heap_alloc_new w5 _) 0).trans rfl) (by rw [rowL_len]; omega) (Nat.le_trans BK.out.size b6.size)
        have HR7 := Lib.hid run7
        have B67 : Hid (Below w3.heap.size w3 w7) := Lib.hid ((bn BK.out b6).trans (D.below_of_grown gr7 (Nat.le_trans BK.out.size b6.size) (fun g hg => (World.ownsRow.lt RK.out g hg).1)))
        have R7 : Hid (DRow w7 w3.heap.size (.slice A7 ((rowL S0 L i k).length + 1) C7) (rowL S0 L i (k + 1))) := Lib.hid (by rw [HRN.out]; exact r7)
        clear run7 r7 gr7 b6
        go_wp2_with (at_builtin; refine D.wpList_append_run rfl _ _ 53 rfl _ _ HR7.out ?_; clear HR7)
        go_roundw
        case rel => exact ⟨k + 1, HP.out, by go_num, R7, B67⟩
        case measure => have := HP.out; simp [RowKit.intOf]; omega
      · obtain rfl : k = 8 := by omega
        obtain ⟨g8, c8, rfl⟩ := row_form RK.out (by rw [rowL_len]; omega)
        have H8 := Lib.hid (H3.out.below BK.out)
        have B8 : Hid (Below w.heap.size w wr) := Lib.hid (bn B3.out BK.out)
        have HUP : Hid (∀ j, own3 j → j < w3.heap.size) := Lib.hid H3.out.up
        clear BK H3 B3
        go_wp2_with fail
        refine (len_c p S0 own3 wr H8.out).mono ?_
        rintro e w9 ⟨rfl, rfl⟩
        have T9 : Hid (Tr w9 p (dropW (wh : Int) S0 (l.take 0)) own3) := Lib.hid H8.out
        have U9 : Hid (Turn own3 w9 w9) := Lib.hid (Turn.refl _ _)
        go_wp2_with fail
        go_loopw [15, 16] (fun v15 v16 wq => ∃ (k : Nat), k ≤ l.length ∧ v15 = .int .i64 ((S0.length : Int) - ((dropW (wh : Int) S0 (l.take k)).length : Int)) ∧ v16 = .int .i64 (k : Int) ∧ Hid (Tr wq p (dropW (wh : Int) S0 (l.take k)) own3) ∧ Hid (Turn own3 w9 wq)) (fun _ v16 _ => l.length - (RowKit.intOf v16).toNat)
        case atStart => exact ⟨0, by omega, by simp [dropW], rfl, T9, U9⟩
        case round =>
          obtain ⟨k, hk, rfl, rfl, TQ, UQ⟩ := hrel
          clear T9 U9
          have BQ : Hid (Below w.heap.size w wr) := Lib.hid (B8.out.trans (UQ.out.below B8.out.size O3.out))
          obtain ⟨ad2, cap2, e, _, hc⟩ := (HRL.out.below BQ.out).form
          simp only [Value.slice.injEq, true_and] at e
          obtain ⟨rfl, rfl⟩ := e
          by_cases hp2 : k < l.length
          · obtain ⟨b, o, rfl, hrc⟩ := hc (by omega)
            obtain ⟨x0, x1, _, _, _⟩ := hrc k hp2
            have HKY := Lib.hid (HSZ.out _ (List.getElem_mem hp2)).2
            have HNX := Lib.hid (dropW_next (wh : Int) S0 l k hp2)
            have HP2 := Lib.hid hp2
            have hgl := World.block_lt_of_cell? _ _ x0
            have hd0 := dropW_len (wh : Int) (l.take k) S0
            clear hc hrc
            generalize l[k] = r at x0 x1 HKY HNX
            generalize dropW (wh : Int) S0 (l.take k) = Sk at *
            by_cases hw : r.o = (wh : Int)
            · have CD := Lib.hid (drop1_c p Sk own3 r.o r.s wr TQ.out HKY.out (by omega))
              have hd1 : (dropSs Sk [(r.o, r.s)]).length ≤ Sk.length := dropSs_len _ _
              have HNY : Hid (dropW (wh : Int) S0 (l.take (k + 1)) = dropSs Sk [(r.o, r.s)]) := Lib.hid (by rw [HNX.out, if_pos hw]; rfl)
              rw [hw] at x0 CD hd1 HNY
              go_wp2_with fail
              refine CD.out.mono ?_
              rintro e w12 ⟨rfl, h12, t12⟩
              have T12 : Hid (Tr w12 p (dropW (wh : Int) S0 (l.take (k + 1))) own3) := Lib.hid (by rw [HNY.out]; exact h12)
              have U12 := Lib.hid (UQ.out.trans t12)
              clear h12 t12 CD x0 x1 hgl
              go_wp2_with fail
              go_roundw
              case rel => exact ⟨k + 1, HP2.out, by rw [HNY.out]; go_num, by go_num, T12, U12⟩
              case measure => have := HP2.out; simp [RowKit.intOf]; omega
            · have HNY : Hid (dropW (wh : Int) S0 (l.take (k + 1)) = Sk) := Lib.hid (by rw [HNX.out, if_neg hw])
              have hwb : (r.o == (wh : Int)) = false := by simpa using hw
              go_wp2_with fail
              go_roundw
              case rel => exact ⟨k + 1, HP2.out, by rw [HNY.out], by go_num, Lib.hid (by rw [HNY.out]; exact TQ.out), UQ⟩
              case measure => have := HP2.out; simp [RowKit.intOf]; omega
          · have hkl : k = l.length := by omega
            subst hkl
            rw [List.take_length] at TQ ⊢
            have hd0 := dropW_len (wh : Int) l S0
            have RQ : Hid (DRow wr w3.heap.size (.slice (some ⟨g8, 0, none⟩) (rowL S0 L i 8).length c8) (rowL S0 L i 8)) := Lib.hid (ownsRow_of_block RK.out fun g hg => UQ.out.block g (World.ownsRow.lt RK.out g hg).2 (fun ho => by have h1 := HUP.out g ho; have h2 := (World.ownsRow.lt RK.out g hg).1; omega))
            have HFAR : Hid (∀ o : Nat, (o : Int) ≠ (wh : Int) → sumV (treeF (dropW (wh : Int) S0 l)) (o : Int) L i = sumV (treeF S0) (o : Int) L i) := Lib.hid (fun o ho => sumV_far _ l S0 o ho L i)
            have HGON : Hid (∀ L i, sumV (treeF (dropW (wh : Int) S0 l)) (wh : Int) L i = 0) := Lib.hid (fun L i => by rw [HS0.out]; exact sumV_gone wh l L i)
            clear hc RK UQ B8
            generalize dropW (wh : Int) S0 l = S1 at *
            go_wp2_with fail
            go_loopw [17] (fun v17 wq => ∃ (k : Nat), k ≤ 8 ∧ v17 = .int .i64 (k : Int) ∧ wq = wr) (fun v17 _ => 8 - (RowKit.intOf v17).toNat)
            case atStart => exact ⟨0, by omega, rfl, rfl⟩
            case round =>
              obtain ⟨k, hk8, rfl, rfl⟩ := hrel
              by_cases hp3 : k < 8
              · have HP3 := Lib.hid hp3
                have hp31 : (k : Int) < 8 := by omega
                go_wp2_with fail
                refine (sumT_c p S1 own3 (k : Int) L i wr TQ.out).mono ?_
                rintro e w12 ⟨rfl, rfl⟩
                have c1 : w12.cell? ⟨g8, k, none⟩ = some (.int .u64 (sumV (treeF S0) (k : Int) L i)) := by
                  rw [RQ.out.at k (by rw [rowL_len]; omega), rowL_at]
                have hgl := World.block_lt_of_cell? _ _ c1
                have hk9 : (k : Int) < ((rowL S0 L i 8).length : Int) := by rw [rowL_len]; omega
                by_cases hkw : (k : Int) = (wh : Int)
                · have e0 := HGON.out L i
                  rw [← hkw] at e0
                  rw [e0]
                  have hkb : ((k : Int) == (wh : Int)) = true := by simpa using hkw
                  rw [← hkw]
                  go_wp2_with fail
                  rw [hkw]
                  go_roundw
                  case rel => exact ⟨k + 1, HP3.out, by go_num, trivial⟩
                  case measure => have := HP3.out; simp [RowKit.intOf]; omega
                · rw [HFAR.out k hkw]
                  have hkb : ((k : Int) == (wh : Int)) = false := by simpa using hkw
                  generalize sumV (treeF S0) (k : Int) L i = x at *
                  go_wp2_with fail
                  go_roundw
                  case rel => exact ⟨k + 1, HP3.out, by go_num, trivial⟩
                  case measure => have := HP3.out; simp [RowKit.intOf]; omega
              · obtain rfl : k = 8 := by omega
                have hST := sumB_top wh hwh
                go_wp2_with fail
                refine (sumT_c p S1 own3 (wh : Int) 0 0 wr TQ.out).mono ?_
                rintro e w12 ⟨rfl, rfl⟩
                rw [HGON.out 0 0, hST]
                have hw2 : IntKind.i64.wrap ((S0.length : Int) - ((S0.length : Int) - (S1.length : Int))) = (S1.length : Int) := by rw [IntKind.wrap_i64]; omega
                go_wp2_with fail
                refine (len_c p S1 own3 w12 TQ.out).mono ?_
                rintro e w13 ⟨rfl, rfl⟩
                by_cases h0 : 0 < S1.length
                · have hgt : (S0.length : Int) - (S1.length : Int) < (S0.length : Int) := by omega
                  go_wp2_with fail
                  refine (awake_c _ (HT.out.below BQ.out)).mono ?_
                  rintro e w14 ⟨rfl, b14⟩
                  go_wp2
                  go_ret
                  exact ⟨rfl, bn BQ.out b14⟩
                · have hgt : ¬ (S0.length : Int) - (S1.length : Int) < (S0.length : Int) := by omega
                  have hnil : S1 = [] := List.length_eq_zero_iff.1 (by omega)
                  go_wp2_with fail
                  refine (rootT_c p S1 own3 w13 TQ.out).mono ?_
                  rintro e w14 ⟨rfl, b14⟩
                  rw [show D.allD (rootL (treeF S1)) = 0 by rw [hnil]; exact nil_root]
                  have B14 := Lib.hid (bn BQ.out b14)
                  clear b14
                  go_wp2_with fail
                  refine (awake_c _ (HT.out.below B14.out)).mono ?_
                  rintro e w15 ⟨rfl, b15⟩
                  go_wp2
                  go_ret
                  exact ⟨rfl, bn B14.out b15⟩
end Go.Proofs.YtchkadifjbmmpaaDoor
