/-
  StampOld, as a call, where a tick would run over.
-/
import Derived.Test.YtmhonaelkcllhaaStmOldLaw
namespace Go.Proofs.Ytmhonaelkcllhaa
open Go.RowKit Go.Lib

set_option maxHeartbeats 8000000 in
theorem old_four (la lc s t n : Int) (w : World) (h : mayB la lc = true) (h1 : mayB s t = true) (h2 : lessB la lc s t = false) (h3 : 0 ≤ n) (h4 : n ≤ 1099511627776) (h5 : ¬ 1000 < s - n) (h6 : (tick la lc n).e = 4) :
    Calls Try.prog 9 #[.agg #[.int .i64 la, .int .i64 lc], .agg #[.int .i64 s, .int .i64 t], .int .i64 n] w fun e w' => e = .returned (.bool true) ∧ Below w.heap.size w w' := by
  have HN : Hid (∀ W : World, Calls Try.prog 17 #[.agg #[.int .i64 la, .int .i64 lc]] W fun e w' => ∃ g, e = .returned (.pointer (some ⟨g, 0, none⟩)) ∧ W.heap.size ≤ g ∧ Clk 57 w' g la lc ∧ Below W.heap.size W w') := Lib.hid (fun W => new_c la lc W h)
  have HL := Lib.hid h
  have HM := Lib.hid h1
  have HLs := Lib.hid h2
  have H6 := Lib.hid h6
  clear h h1 h2 h6
  go_enter Try.func9, Try.ntmps9
  go_wp2_with fail
  obtain ⟨W0, hW0⟩ : ∃ W0, W0 = (w.alloc (.cells #[.int .i64 la, .int .i64 lc] 23)).alloc (.cells #[.int .i64 s, .int .i64 t] 23) := ⟨_, rfl⟩
  have HS0 : Hid (∀ w' : World, Below W0.heap.size W0 w' → w'.cell? ⟨w.heap.size, 0, none⟩ = some (.int .i64 la) ∧ w'.cell? ⟨w.heap.size, 1, none⟩ = some (.int .i64 lc) ∧ w'.cell? ⟨w.heap.size + 1, 0, none⟩ = some (.int .i64 s) ∧ w'.cell? ⟨w.heap.size + 1, 1, none⟩ = some (.int .i64 t)) := Lib.hid (by
    rw [hW0]
    exact box_cells w la lc s t _ _ _ _ rfl rfl)
  have hz : w.heap.size + 2 ≤ W0.heap.size := by rw [hW0]; simp
  have HB0 : Hid (Below w.heap.size w W0) := Lib.hid (by rw [hW0]; exact below_two _ _ _)
  rw [← hW0]
  clear hW0
  go_region_held3 (fun w' => w'.cell? ⟨w.heap.size, 0, none⟩ = some (.int .i64 la) ∧ w'.cell? ⟨w.heap.size, 1, none⟩ = some (.int .i64 lc)) (exact ⟨(HS0.out _ (by first | assumption | exact (Below.refl _ _).drew | exact Below.refl _ _)).1, (HS0.out _ (by first | assumption | exact (Below.refl _ _).drew | exact Below.refl _ _)).2.1⟩)
    (first
    | (go_at_call 17; refine (HN.out _).mono ?_; rintro e w2 ⟨g2, rfl, hg2, hk2, c2⟩; have b2 : Below W0.heap.size W0 w2 := Below.next (by exact b1) c2; have HC2 := Lib.hid c2; have HK2 := Lib.hid hk2; clear hk2 c2)
    | (go_at_call 17; refine (HN.out _).mono ?_; rintro e w1 ⟨g1, rfl, hg1, hk1, c1⟩; have b1 : Below W0.heap.size W0 w1 := Below.next (by exact (Below.refl _ _).drew) c1; have HK1 := Lib.hid hk1; clear hk1 c1))
  have HK12 : Hid (Clk 57 w2 g1 la lc) := Lib.hid (HK1.out.below HC2.out)
  have hlt1 : g1 < w1.heap.size := HK1.out.lt
  have hz1 : W0.heap.size ≤ g1 := hg1
  have HNE : Hid (g1 ≠ g2) := Lib.hid (by omega)
  clear HC2 HN
  obtain ⟨x0, x1, x2, x3⟩ := HS0.out w2 b2
  have hsz2 := b2.size
  go_wp2_with fail
  have cM := may_c s t w2
  rw [HM.out] at cM
  refine cM.mono ?_
  rintro e w3 ⟨rfl, b3⟩
  have b3' := Below.next b2 b3
  obtain ⟨y0, y1, y2, y3⟩ := HS0.out w3 b3'
  clear x0 x1 x2 x3 cM
  go_wp2_with fail
  have cL := less_c la lc s t w3
  rw [HLs.out] at cL
  refine cL.mono ?_
  rintro e w4 ⟨rfl, b4⟩
  clear y0 y1 y2 y3 cL
  have b4' := Below.next b3' b4
  obtain ⟨z0, z1, z2, z3⟩ := HS0.out w4 b4'
  have hz4 := b4'.size
  have e0 : decide (n < 0) = false := by simpa using h3
  have e1 : decide (n > 1099511627776) = false := by simpa using h4
  have e1' : decide (1099511627776 < n) = false := by simpa using h4
  have k4a : Clk 57 w4 g1 la lc := (HK12.out.below b3).below b4
  have k4b : Clk 57 w4 g2 la lc := (HK2.out.below b3).below b4
  have hcc := (mayB_iff HL.out).2
  have hne := HNE.out
  have hst := see_tick la lc s t n HL.out HM.out HLs.out (by omega) (by omega)
  clear HNE HK12 HK2 HK1 HS0 HM HLs HL b3 b4
  go_wp2_with fail
  obtain ⟨_, _, he, hka, hkc, _⟩ := hst.resolve_left (fun h => by have := h.1; omega)
  have cS : Calls Try.prog 20 #[.pointer (some ⟨g1, 0, none⟩), .agg #[.int .i64 s, .int .i64 t], .int .i64 n] w4 (seenT g1 57 ⟨(tick la lc n).e, 0, 0, (tick la lc n).ka, (tick la lc n).kc⟩ w4) :=
    (see_c _ _ _ _ _ _ _ _ k4a hcc).mono fun e w' ⟨h1, h2, h3⟩ => ⟨by rw [h1, he], h2, by rw [hka, hkc] at h3; exact h3⟩
  have HT : Hid (∀ W : World, Clk 57 W g2 la lc → Calls Try.prog 22 #[.pointer (some ⟨g2, 0, none⟩), .int .i64 n] W (tellT g2 57 (tick la lc n) W)) := Lib.hid (fun W h => tick_c _ _ _ _ _ _ h hcc.2 hcc.1)
  clear he hka hkc k4a hst
  generalize tick la lc n = TT at cS HT H6
  obtain ⟨te, ra, rc, ka, kc⟩ := TT
  obtain rfl : te = 4 := H6.out
  clear H6
  simp only at cS
  refine cS.mono ?_
  rintro e w5 ⟨rfl, g5, k5⟩
  have k5b : Clk 57 w5 g2 la lc := k4b.far g5 (by omega)
  have z5 := g5.size
  have q5 : Below w.heap.size w w5 := (HB0.out.trans (b4'.mono (by omega))).trans (below_of_grown g5 (by omega) (by omega))
  have K5 := Lib.hid k5
  have K5B := Lib.hid k5b
  have Q5 := Lib.hid q5
  clear cS k5 k5b q5 z0 z1 z2 z3 g5
  go_wp2_with fail
  refine (HT.out w5 K5B.out).mono ?_
  rintro e w6 ⟨rfl, g6, k6⟩
  have k6a : Clk 57 w6 g1 (ka) (kc) := K5.out.far g6 (by omega)
  have z6 := g6.size
  have q6 : Below w.heap.size w w6 := Q5.out.trans (below_of_grown g6 (by omega) (by omega))
  have K6A := Lib.hid k6a
  have K6 := Lib.hid k6
  have Q6 := Lib.hid q6
  clear HT k6 k6a q6 g6
  go_wp2_with fail
  obtain ⟨W7, hW7⟩ : ∃ W7, W7 = w6.alloc (.cells #[.int .i64 ra, .int .i64 rc] 23) := ⟨_, rfl⟩
  have K7 : Hid (∀ w' : World, Below W7.heap.size W7 w' → Clk 57 w' g1 ka kc ∧ Clk 57 w' g2 ka kc) := Lib.hid (by rw [hW7]; exact fun w' hb => ⟨(K6A.out.alloc _).below hb, (K6.out.alloc _).below hb⟩)
  have HS7 : Hid (∀ w' : World, Below W7.heap.size W7 w' → w'.cell? ⟨w6.heap.size, 0, none⟩ = some (.int .i64 ra) ∧ w'.cell? ⟨w6.heap.size, 1, none⟩ = some (.int .i64 rc)) := Lib.hid (by
    rw [hW7]
    exact fun w' hb => ⟨(hb.cell (by simp)).trans (by simp [go_sem]), (hb.cell (by simp)).trans (by simp [go_sem])⟩)
  have Q7 : Hid (Below w.heap.size w W7) := Lib.hid (by rw [hW7]; exact Q6.out.alloc (by omega) _)
  have z7 : w.heap.size ≤ W7.heap.size := Q7.out.size
  rw [← hW7]
  clear hW7
  
  first | (go_region_with (first
    | (go_at_call_of 18 (Value.pointer (some (Addr.mk g2 0 none))); refine (last_c 57 g2 ka kc _ (by exact (K7.out _ (by first | assumption | exact (Below.refl _ _).drew)).2)).mono ?_; rintro e w8 ⟨rfl, b8⟩; have b8' : Below W7.heap.size W7 w8 := Below.next (by first | assumption | exact (Below.refl _ _).drew) b8)
    | (go_at_call_of 18 (Value.pointer (some (Addr.mk g1 0 none))); refine (last_c 57 g1 ka kc _ (by exact (K7.out _ (by first | assumption | exact (Below.refl _ _).drew)).1)).mono ?_; rintro e w8 ⟨rfl, b8⟩; have b8' : Below W7.heap.size W7 w8 := Below.next (by first | assumption | exact (Below.refl _ _).drew) b8)
    | (go_at_call 10; refine (awake_c _).mono ?_; rintro e w9 ⟨rfl, b9⟩; have b9' : Below W7.heap.size W7 w9 := Below.next (by assumption) b9))) | fail
  all_goals go_wp2
  all_goals go_ret
  all_goals exact ⟨rfl, Q7.out.trans (b9'.mono z7)⟩

theorem old_c (la lc s t n : Int) (w : World) :
    Calls Try.prog 9 #[.agg #[.int .i64 la, .int .i64 lc], .agg #[.int .i64 s, .int .i64 t], .int .i64 n] w fun e w' => e = .returned (.bool true) ∧ Below w.heap.size w w' := by
  cases h : mayB la lc
  · exact old_no la lc s t n w h
  · by_cases hx : mayB s t = true ∧ lessB la lc s t = false ∧ 0 ≤ n ∧ n ≤ 1099511627776 ∧ ¬ 1000 < s - n ∧ (tick la lc n).e = 4
    · obtain ⟨h1, h2, h3, h4, h5, h6⟩ := hx
      exact old_four la lc s t n w h h1 h2 h3 h4 h5 h6
    · exact old_yes la lc s t n w h (Lib.hid fun h1 h2 h3 h4 h5 h6 => hx ⟨h1, h2, h3, h4, h5, h6⟩)

end Go.Proofs.Ytmhonaelkcllhaa
