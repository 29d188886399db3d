/-
  StampOld, as a call: it answers true, whatever it is given.
-/
import Derived.Test.YtmhonaelkcllhaaStmMax
import Derived.IntWalk
namespace Go.Proofs.Ytmhonaelkcllhaa
open Go.RowKit Go.Lib

theorem box_cells (w : World) (a c b d : Int) (T T' : TypeId) (n m : Nat) (hn : n = w.heap.size) (hm : m = w.heap.size + 1) : ∀ w' : World, Below ((w.alloc (.cells #[.int .i64 a, .int .i64 c] T)).alloc (.cells #[.int .i64 b, .int .i64 d] T')).heap.size ((w.alloc (.cells #[.int .i64 a, .int .i64 c] T)).alloc (.cells #[.int .i64 b, .int .i64 d] T')) w' →
    w'.cell? ⟨n, 0, none⟩ = some (.int .i64 a) ∧ w'.cell? ⟨n, 1, none⟩ = some (.int .i64 c) ∧ w'.cell? ⟨m, 0, none⟩ = some (.int .i64 b) ∧ w'.cell? ⟨m, 1, none⟩ = some (.int .i64 d) := by
  subst hn hm
  intro w' h
  exact ⟨(h.cell (by simp; omega)).trans (by simp [go_sem]), (h.cell (by simp; omega)).trans (by simp [go_sem]), (h.cell (by simp)).trans (by simp [go_sem]), (h.cell (by simp)).trans (by simp [go_sem])⟩

/-- What is seen of a stamp that is not above, and what is ticked. -/
theorem see_tick (a c s t n : Int) (h1 : mayB a c = true) (h2 : mayB s t = true) (h3 : lessB a c s t = false) (h4 : 0 ≤ n) (h5 : n ≤ 1099511627776) :
    (1000 < s - n ∧ see a c s t n = ⟨5, 0, 0, a, c⟩) ∨ (¬ 1000 < s - n ∧ (see a c s t n).e ≠ 5 ∧ (see a c s t n).e = (tick a c n).e ∧ (see a c s t n).ka = (tick a c n).ka ∧ (see a c s t n).kc = (tick a c n).kc ∧ ((tick a c n).e = 4 ∨ ((tick a c n).e = 0 ∧ (tick a c n).ra = (tick a c n).ka ∧ (tick a c n).rc = (tick a c n).kc))) := by
  have hn : inB n 1099511627776 = true := by simp [inB, h4, h5]
  obtain ⟨⟨b1, b2⟩, b3, b4⟩ := mayB_iff h1
  obtain ⟨⟨c1, c2⟩, c3, c4⟩ := mayB_iff h2
  have h3' : ¬ (a < s ∨ (a = s ∧ c < t)) := by
    unfold lessB at h3
    simp at h3
    omega
  unfold see
  rw [h2, hn]
  by_cases hk : 1000 < s - n
  · left
    refine ⟨hk, ?_⟩
    simp [hk]
  · right
    refine ⟨hk, ?_⟩
    rw [cnt_two _ _ _ _ _ c3]
    unfold tick
    rw [hn]
    by_cases han : a < n
    · have hm : mx3 n s a = n := by unfold mx3; split <;> split <;> omega
      rw [hm]
      have e1 : ¬ s = n := by omega
      have e2 : ¬ a = n := by omega
      simp [hk, han, e1, e2]
    · have hm : mx3 n s a = a := by unfold mx3; repeat' split <;> omega
      rw [hm]
      have hcnt : (if s = a then (if a = a then (if t < c then c + 1 else t + 1) else t + 1) else if a = a then (if 0 ≤ c then c + 1 else 0) else 0) = c + 1 := by
        rw [if_pos rfl, if_pos rfl, if_pos b3]
        split
        · split <;> omega
        · rfl
      rw [hcnt]
      by_cases hc : 65535 ≤ c
      · have : 65535 < c + 1 := by omega
        simp [hk, han, hc, this]
      · have : ¬ 65535 < c + 1 := by omega
        simp [hk, han, hc, this]

set_option maxHeartbeats 4000000 in
theorem old_no (la lc s t n : Int) (w : World) (h : mayB la lc = false) :
    Calls Try.prog 9 #[.agg #[.int .i64 la, .int .i64 lc], .agg #[.int .i64 s, .int .i64 t], .int .i64 n] w fun e w' => e = .returned (.bool true) ∧ Below w.heap.size w w' := by
  have HN : Hid (∀ W : World, Calls Try.prog 17 #[.agg #[.int .i64 la, .int .i64 lc]] W fun e w' => e = .returned (.pointer none) ∧ Below W.heap.size W w') := Lib.hid (fun W => new_nil la lc W h)
  clear h
  go_enter Try.func9, Try.ntmps9
  go_wp2_with fail
  obtain ⟨W0, hW0⟩ : ∃ W0, W0 = (w.alloc (.cells #[.int .i64 la, .int .i64 lc] 23)).alloc (.cells #[.int .i64 s, .int .i64 t] 23) := ⟨_, rfl⟩
  have HS : Hid (∀ w' : World, Below W0.heap.size W0 w' → w'.cell? ⟨w.heap.size, 0, none⟩ = some (.int .i64 la) ∧ w'.cell? ⟨w.heap.size, 1, none⟩ = some (.int .i64 lc)) := Lib.hid (by
    rw [hW0]
    exact fun w' h => ⟨(box_cells w la lc s t _ _ _ _ rfl rfl w' h).1, (box_cells w la lc s t _ _ _ _ rfl rfl w' h).2.1⟩)
  have hz : w.heap.size ≤ W0.heap.size := by rw [hW0]; simp; omega
  have HB0 : Hid (Below w.heap.size w W0) := Lib.hid (by rw [hW0]; exact below_two _ _ _)
  rw [← hW0]
  clear hW0
  go_region_held3 (fun w' => w'.cell? ⟨w.heap.size, 0, none⟩ = some (.int .i64 la) ∧ w'.cell? ⟨w.heap.size, 1, none⟩ = some (.int .i64 lc)) (exact HS.out _ (by first | assumption | exact (Below.refl _ _).drew | exact Below.refl _ _))
    ((go_at_call 17; refine (HN.out _).mono ?_; rintro e w3 ⟨rfl, b3⟩; have b3' : Below W0.heap.size W0 w3 := Below.next (by first | assumption | exact (Below.refl _ _).drew) b3))
  go_wp2_with fail
  refine (awake_c _).mono ?_
  rintro e w4 ⟨rfl, b4⟩
  go_wp2
  go_ret
  exact ⟨rfl, HB0.out.trans (((Below.next b3' b4)).mono hz)⟩

set_option maxHeartbeats 8000000 in
theorem old_yes (la lc s t n : Int) (w : World) (h : mayB la lc = true) (hx : Hid (mayB s t = true → lessB la lc s t = false → 0 ≤ n → n ≤ 1099511627776 → ¬ 1000 < s - n → (tick la lc n).e ≠ 4)) :
    Calls Try.prog 9 #[.agg #[.int .i64 la, .int .i64 lc], .agg #[.int .i64 s, .int .i64 t], .int .i64 n] w fun e w' => e = .returned (.bool true) ∧ Below w.heap.size w w' := by
  have HN : Hid (∀ W : World, Calls Try.prog 17 #[.agg #[.int .i64 la, .int .i64 lc]] W fun e w' => ∃ g, e = .returned (.pointer (some ⟨g, 0, none⟩)) ∧ W.heap.size ≤ g ∧ Clk 57 w' g la lc ∧ Below W.heap.size W w') := Lib.hid (fun W => new_c la lc W h)
  have HL := Lib.hid h
  clear h
  go_enter Try.func9, Try.ntmps9
  go_wp2_with fail
  obtain ⟨W0, hW0⟩ : ∃ W0, W0 = (w.alloc (.cells #[.int .i64 la, .int .i64 lc] 23)).alloc (.cells #[.int .i64 s, .int .i64 t] 23) := ⟨_, rfl⟩
  have HS0 : Hid (∀ w' : World, Below W0.heap.size W0 w' → w'.cell? ⟨w.heap.size, 0, none⟩ = some (.int .i64 la) ∧ w'.cell? ⟨w.heap.size, 1, none⟩ = some (.int .i64 lc) ∧ w'.cell? ⟨w.heap.size + 1, 0, none⟩ = some (.int .i64 s) ∧ w'.cell? ⟨w.heap.size + 1, 1, none⟩ = some (.int .i64 t)) := Lib.hid (by
    rw [hW0]
    exact box_cells w la lc s t _ _ _ _ rfl rfl)
  have hz : w.heap.size + 2 ≤ W0.heap.size := by rw [hW0]; simp
  have HB0 : Hid (Below w.heap.size w W0) := Lib.hid (by rw [hW0]; exact below_two _ _ _)
  rw [← hW0]
  clear hW0
  go_region_held3 (fun w' => w'.cell? ⟨w.heap.size, 0, none⟩ = some (.int .i64 la) ∧ w'.cell? ⟨w.heap.size, 1, none⟩ = some (.int .i64 lc)) (exact ⟨(HS0.out _ (by first | assumption | exact (Below.refl _ _).drew | exact Below.refl _ _)).1, (HS0.out _ (by first | assumption | exact (Below.refl _ _).drew | exact Below.refl _ _)).2.1⟩)
    (first
    | (go_at_call 17; refine (HN.out _).mono ?_; rintro e w2 ⟨g2, rfl, hg2, hk2, c2⟩; have b2 : Below W0.heap.size W0 w2 := Below.next (by exact b1) c2; have HC2 := Lib.hid c2; have HK2 := Lib.hid hk2; clear hk2 c2)
    | (go_at_call 17; refine (HN.out _).mono ?_; rintro e w1 ⟨g1, rfl, hg1, hk1, c1⟩; have b1 : Below W0.heap.size W0 w1 := Below.next (by exact (Below.refl _ _).drew) c1; have HK1 := Lib.hid hk1; clear hk1 c1))
  have HK12 : Hid (Clk 57 w2 g1 la lc) := Lib.hid (HK1.out.below HC2.out)
  have hlt1 : g1 < w1.heap.size := HK1.out.lt
  have hz1 : W0.heap.size ≤ g1 := hg1
  have HNE : Hid (g1 ≠ g2) := Lib.hid (by omega)
  clear HC2 HN
  obtain ⟨x0, x1, x2, x3⟩ := HS0.out w2 b2
  have hsz2 := b2.size
  go_wp2_with fail
  have cM := may_c s t w2
  cases hM : mayB s t
  · rw [hM] at cM
    refine cM.mono ?_
    rintro e w3 ⟨rfl, b3⟩
    have b3' := Below.next b2 b3
    go_wp2_with fail
    refine (awake_c _).mono ?_
    rintro e w9 ⟨rfl, b9⟩
    go_wp2
    go_ret
    exact ⟨rfl, HB0.out.trans ((Below.next b3' b9).mono (by omega))⟩
  · rw [hM] at cM
    refine cM.mono ?_
    rintro e w3 ⟨rfl, b3⟩
    have b3' := Below.next b2 b3
    have HM := Lib.hid hM
    obtain ⟨y0, y1, y2, y3⟩ := HS0.out w3 b3'
    clear hM x0 x1 x2 x3
    go_wp2_with fail
    have cL := less_c la lc s t w3
    cases hLs : lessB la lc s t
    · rw [hLs] at cL
      refine cL.mono ?_
      rintro e w4 ⟨rfl, b4⟩
      have HLs := Lib.hid hLs
      clear hLs y0 y1 y2 y3
      have b4' := Below.next b3' b4
      obtain ⟨z0, z1, z2, z3⟩ := HS0.out w4 b4'
      have hz4 := b4'.size
      by_cases n0 : n < 0
      · have e0 : decide (n < 0) = true := by simpa using n0
        go_wp2_with fail
        refine (awake_c _).mono ?_
        rintro e w9 ⟨rfl, b9⟩
        go_wp2
        go_ret
        exact ⟨rfl, HB0.out.trans ((Below.next b4' b9).mono (by omega))⟩
      · have e0 : decide (n < 0) = false := by simpa using n0
        by_cases n1 : n > 1099511627776
        · have e1 : decide (n > 1099511627776) = true := by simpa using n1
          have e1' : decide (1099511627776 < n) = true := by simpa using n1
          go_wp2_with fail
          refine (awake_c _).mono ?_
          rintro e w9 ⟨rfl, b9⟩
          go_wp2
          go_ret
          exact ⟨rfl, HB0.out.trans ((Below.next b4' b9).mono (by omega))⟩
        · have e1 : decide (n > 1099511627776) = false := by simpa using n1
          have e1' : decide (1099511627776 < n) = false := by simpa using n1
          have k4a : Clk 57 w4 g1 la lc := (HK12.out.below b3).below b4
          have k4b : Clk 57 w4 g2 la lc := (HK2.out.below b3).below b4
          have hcc := (mayB_iff HL.out).2
          have hne := HNE.out
          have hst := see_tick la lc s t n HL.out HM.out HLs.out (by omega) (by omega)
          have hx' := hx.out HM.out HLs.out (by omega) (by omega)
          clear HNE HK12 HK2 HK1 HS0 HM HLs HL b3 b4 hx
          go_wp2_with fail
          rcases hst with ⟨h10, hfar⟩ | hst
          · skip
            clear hx'
            have cS : Calls Try.prog 20 #[.pointer (some ⟨g1, 0, none⟩), .agg #[.int .i64 s, .int .i64 t], .int .i64 n] w4 (seenT g1 57 ⟨5, 0, 0, la, lc⟩ w4) := by rw [← hfar]; exact see_c _ _ _ _ _ _ _ _ k4a hcc
            refine cS.mono ?_
            rintro e w5 ⟨rfl, g5, k5⟩
            clear cS
            have u0 := (grown_cell g5 (p := ⟨w.heap.size, 0, none⟩) (by show w.heap.size < _; omega) (by show w.heap.size ≠ g1; omega)).trans z0
            have u1 := (grown_cell g5 (p := ⟨w.heap.size, 1, none⟩) (by show w.heap.size < _; omega) (by show w.heap.size ≠ g1; omega)).trans z1
            have u2 := (grown_cell g5 (p := ⟨w.heap.size + 1, 0, none⟩) (by show w.heap.size + 1 < _; omega) (by show w.heap.size + 1 ≠ g1; omega)).trans z2
            have k5b : Clk 57 w5 g2 la lc := k4b.far g5 (by omega)
            have z5 := g5.size
            have q5 : Below w.heap.size w w5 := (HB0.out.trans (b4'.mono (by omega))).trans (below_of_grown g5 (by omega) (by omega))
            have K5 := Lib.hid k5
            have K5B := Lib.hid k5b
            have Q5 := Lib.hid q5
            clear k5 k5b q5 z0 z1 z2 g5
            go_wp2_with fail
            have cT : Calls Try.prog 22 #[.pointer (some ⟨g2, 0, none⟩), .int .i64 n] w5 (tellT g2 57 (tick la lc n) w5) := tick_c _ _ _ _ _ _ K5B.out hcc.2 hcc.1
            refine cT.mono ?_
            rintro e w6 ⟨rfl, g6, k6⟩
            clear cT
            have v0 := (grown_cell g6 (p := ⟨w.heap.size, 0, none⟩) (by show w.heap.size < _; omega) (by show w.heap.size ≠ g2; omega)).trans u0
            have v1 := (grown_cell g6 (p := ⟨w.heap.size, 1, none⟩) (by show w.heap.size < _; omega) (by show w.heap.size ≠ g2; omega)).trans u1
            have v2 := (grown_cell g6 (p := ⟨w.heap.size + 1, 0, none⟩) (by show w.heap.size + 1 < _; omega) (by show w.heap.size + 1 ≠ g2; omega)).trans u2
            have k6a : Clk 57 w6 g1 (la) (lc) := K5.out.far g6 (by omega)
            have z6 := g6.size
            have q6 : Below w.heap.size w w6 := Q5.out.trans (below_of_grown g6 (by omega) (by omega))
            have K6A := Lib.hid k6a
            have K6 := Lib.hid k6
            have Q6 := Lib.hid q6
            clear k6 k6a q6 u0 u1 u2 g6
            go_wp2_with fail
            
            obtain ⟨W7, hW7⟩ : ∃ W7, W7 = w6.alloc (.cells #[.int .i64 (tick la lc n).ra, .int .i64 (tick la lc n).rc] 23) := ⟨_, rfl⟩
            have HS7 : Hid (∀ w' : World, Below W7.heap.size W7 w' → w'.cell? ⟨w.heap.size, 0, none⟩ = some (.int .i64 la) ∧ w'.cell? ⟨w.heap.size, 1, none⟩ = some (.int .i64 lc) ∧ w'.cell? ⟨w.heap.size + 1, 0, none⟩ = some (.int .i64 s)) := Lib.hid (fun w' hb => by
              have kk : ∀ {a : Addr} {v : Value}, w6.cell? a = some v → w'.cell? a = some v := fun {a v} hc => by
                have h7 : W7.cell? a = some v := by rw [hW7, World.cell?_alloc_lt _ _ _ (World.block_lt_of_cell? w6 a hc)]; exact hc
                exact (hb.cell (World.block_lt_of_cell? W7 a h7)).trans h7
              exact ⟨kk v0, kk v1, kk v2⟩)
            have K7 : Hid (Clk 57 W7 g1 la lc) := Lib.hid (by rw [hW7]; exact K6A.out.alloc _)
            have Q7 : Hid (Below w.heap.size w W7) := Lib.hid (by rw [hW7]; exact Q6.out.alloc (by omega) _)
            have z7 : w.heap.size ≤ W7.heap.size := Q7.out.size
            have hs1 : decide (n + 1000 < s) = true := by simp; omega
            have hwr : IntKind.i64.wrap (n + 1000) = n + 1000 := IntWalk.i64_in _ (by omega)
            rw [← hW7]
            clear hW7 v0 v1 v2
            go_region_held3 (fun w' => w'.cell? ⟨w.heap.size, 0, none⟩ = some (.int .i64 la) ∧ w'.cell? ⟨w.heap.size, 1, none⟩ = some (.int .i64 lc) ∧ w'.cell? ⟨w.heap.size + 1, 0, none⟩ = some (.int .i64 s)) (exact HS7.out _ (by first | assumption | exact (Below.refl _ _).drew | exact Below.refl _ _))
              (first
              | (go_at_call 18; refine (last_c 57 g1 la lc _ (by exact K7.out)).mono ?_; rintro e w8 ⟨rfl, b8⟩; have b8' : Below W7.heap.size W7 w8 := Below.next (by exact (Below.refl _ _).drew) b8)
              | (go_at_call 10; refine (awake_c _).mono ?_; rintro e w9 ⟨rfl, b9⟩; have b9' : Below W7.heap.size W7 w9 := Below.next (by exact b8') b9))
            all_goals go_wp2
            all_goals go_ret
            all_goals exact ⟨rfl, Q7.out.trans (b9'.mono z7)⟩
          · obtain ⟨nk, n5, he, hka, hkc, hor⟩ := hst
            have cS : Calls Try.prog 20 #[.pointer (some ⟨g1, 0, none⟩), .agg #[.int .i64 s, .int .i64 t], .int .i64 n] w4 (seenT g1 57 ⟨(tick la lc n).e, 0, 0, (tick la lc n).ka, (tick la lc n).kc⟩ w4) :=
              (see_c _ _ _ _ _ _ _ _ k4a hcc).mono fun e w' ⟨h1, h2, h3⟩ => ⟨by rw [h1, he], h2, by rw [hka, hkc] at h3; exact h3⟩
            have HT : Hid (∀ W : World, Clk 57 W g2 la lc → Calls Try.prog 22 #[.pointer (some ⟨g2, 0, none⟩), .int .i64 n] W (tellT g2 57 (tick la lc n) W)) := Lib.hid (fun W h => tick_c _ _ _ _ _ _ h hcc.2 hcc.1)
            have hx4 := hx' nk
            clear he hka hkc k4a n5 hx'
            generalize tick la lc n = TT at cS HT hor hx4
            obtain ⟨te, ra, rc, ka, kc⟩ := TT
            simp only at cS hor hx4
            obtain ⟨rfl, rfl, rfl⟩ : te = 0 ∧ ra = ka ∧ rc = kc := by
              rcases hor with h | h
              · exact absurd h hx4
              · exact h
            clear hor hx4
            refine cS.mono ?_
            rintro e w5 ⟨rfl, g5, k5⟩
            have k5b : Clk 57 w5 g2 la lc := k4b.far g5 (by omega)
            have z5 := g5.size
            have q5 : Below w.heap.size w w5 := (HB0.out.trans (b4'.mono (by omega))).trans (below_of_grown g5 (by omega) (by omega))
            have K5 := Lib.hid k5
            have K5B := Lib.hid k5b
            have Q5 := Lib.hid q5
            clear cS k5 k5b q5 z0 z1 z2 z3 g5
            go_wp2_with fail
            refine (HT.out w5 K5B.out).mono ?_
            rintro e w6 ⟨rfl, g6, k6⟩
            have k6a : Clk 57 w6 g1 (ra) (rc) := K5.out.far g6 (by omega)
            have z6 := g6.size
            have q6 : Below w.heap.size w w6 := Q5.out.trans (below_of_grown g6 (by omega) (by omega))
            have K6A := Lib.hid k6a
            have K6 := Lib.hid k6
            have Q6 := Lib.hid q6
            clear HT k6 k6a q6 g6
            go_wp2_with fail
            obtain ⟨W7, hW7⟩ : ∃ W7, W7 = w6.alloc (.cells #[.int .i64 ra, .int .i64 rc] 23) := ⟨_, rfl⟩
            have K7 : Hid (∀ w' : World, Below W7.heap.size W7 w' → Clk 57 w' g1 ra rc ∧ Clk 57 w' g2 ra rc) := Lib.hid (by rw [hW7]; exact fun w' hb => ⟨(K6A.out.alloc _).below hb, (K6.out.alloc _).below hb⟩)
            have HS7 : Hid (∀ w' : World, Below W7.heap.size W7 w' → w'.cell? ⟨w6.heap.size, 0, none⟩ = some (.int .i64 ra) ∧ w'.cell? ⟨w6.heap.size, 1, none⟩ = some (.int .i64 rc)) := Lib.hid (by
              rw [hW7]
              exact fun w' hb => ⟨(hb.cell (by simp)).trans (by simp [go_sem]), (hb.cell (by simp)).trans (by simp [go_sem])⟩)
            have Q7 : Hid (Below w.heap.size w W7) := Lib.hid (by rw [hW7]; exact Q6.out.alloc (by omega) _)
            have z7 : w.heap.size ≤ W7.heap.size := Q7.out.size
            rw [← hW7]
            clear hW7
            
            go_region_held3 (fun w' => w'.cell? ⟨w6.heap.size, 0, none⟩ = some (.int .i64 ra) ∧ w'.cell? ⟨w6.heap.size, 1, none⟩ = some (.int .i64 rc)) (exact HS7.out _ (by first | assumption | exact (Below.refl _ _).drew | exact Below.refl _ _))
              (first
              | (go_at_call_of 18 (Value.pointer (some (Addr.mk g2 0 none))); refine (last_c 57 g2 ra rc _ (by exact (K7.out _ (by first | assumption | exact (Below.refl _ _).drew)).2)).mono ?_; rintro e w8 ⟨rfl, b8⟩; have b8' : Below W7.heap.size W7 w8 := Below.next (by first | assumption | exact (Below.refl _ _).drew) b8)
              | (go_at_call_of 18 (Value.pointer (some (Addr.mk g1 0 none))); refine (last_c 57 g1 ra rc _ (by exact (K7.out _ (by first | assumption | exact (Below.refl _ _).drew)).1)).mono ?_; rintro e w8 ⟨rfl, b8⟩; have b8' : Below W7.heap.size W7 w8 := Below.next (by first | assumption | exact (Below.refl _ _).drew) b8)
              | (go_at_call 10; refine (awake_c _).mono ?_; rintro e w9 ⟨rfl, b9⟩; have b9' : Below W7.heap.size W7 w9 := Below.next (by assumption) b9))
            all_goals go_wp2
            all_goals go_ret
            all_goals exact ⟨rfl, Q7.out.trans (b9'.mono z7)⟩
    · rw [hLs] at cL
      refine cL.mono ?_
      rintro e w4 ⟨rfl, b4⟩
      clear hLs
      have b4' := Below.next b3' b4
      go_wp2_with fail
      refine (awake_c _).mono ?_
      rintro e w9 ⟨rfl, b9⟩
      go_wp2
      go_ret
      exact ⟨rfl, HB0.out.trans ((Below.next b4' b9).mono (by omega))⟩

end Go.Proofs.Ytmhonaelkcllhaa
