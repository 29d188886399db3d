/-
  See of chapter 2's own answer, by contract: it is 'see'.
-/
import Derived.Test.YtmhonaelkcllhaaStmSee
namespace Go.Proofs.Ytmhonaelkcllhaa
open Go.RowKit Go.Lib

set_option maxHeartbeats 2000000 in
theorem refsee_arg (T : TypeId) (g : Nat) (a c s t n : Int) (w : World) (hk : Clk T w g a c) (h : (mayB s t && inB n 1099511627776) = false) :
    Calls Try.prog 21 #[.pointer (some ⟨g, 0, none⟩), .agg #[.int .i64 s, .int .i64 t], .int .i64 n] w (seenT g T ⟨2, 0, 0, a, c⟩ w) := by
  have cm := fun W => refmay_c s t W
  have cw := fun W => in_c n 1099511627776 W
  generalize mayB s t = M at cm h
  generalize inB n 1099511627776 = N at cw h
  have HM := Lib.hid cm
  have HW := Lib.hid cw
  have HK := Lib.hid hk
  clear cm cw hk
  cases M
  · clear h HW
    go_enter Try.func21, Try.ntmps21
    go_wp2_with (go_at_call 12; refine (HM.out _).mono ?_; rintro e w' ⟨rfl, hb⟩)
    go_ret
    exact ⟨rfl, grown_trans (grown_alloc (grown_refl _ _) _) (grown_below hb _), (HK.out.alloc _).below hb⟩
  · cases N
    · clear h
      go_enter Try.func21, Try.ntmps21
      go_wp2_with (first | (go_at_call 12; refine (HM.out _).mono ?_; rintro e w' ⟨rfl, hb⟩) | (go_at_call 26; refine (HW.out _).mono ?_; rintro e w2 ⟨rfl, rfl⟩))
      go_ret
      exact ⟨rfl, grown_trans (grown_alloc (grown_refl _ _) _) (grown_below hb _), (HK.out.alloc _).below hb⟩
    · cases h

set_option maxHeartbeats 2000000 in
theorem refsee_far (T : TypeId) (g : Nat) (a c s t n : Int) (w : World) (hk : Clk T w g a c) (h1 : mayB s t = true) (h2 : inB n 1099511627776 = true) (h3 : 1000 < s - n) (h4 : s ≤ 1099511627776) (h5 : 0 ≤ n) :
    Calls Try.prog 21 #[.pointer (some ⟨g, 0, none⟩), .agg #[.int .i64 s, .int .i64 t], .int .i64 n] w (seenT g T ⟨5, 0, 0, a, c⟩ w) := by
  have cm := fun W => refmay_c s t W
  have cw := fun W => in_c n 1099511627776 W
  rw [h1] at cm
  rw [h2] at cw
  have HM := Lib.hid cm
  have HW := Lib.hid cw
  have HK := Lib.hid hk
  clear cm cw hk h1 h2
  go_enter Try.func21, Try.ntmps21
  go_wp2_with fail
  refine (HM.out _).mono ?_
  rintro e w1 ⟨rfl, hb⟩
  have hz : w.heap.size + 1 ≤ w1.heap.size := by have := hb.size; simpa using this
  have d0 : w1.cell? ⟨w.heap.size, 0, none⟩ = some (.int .i64 s) := (hb.cell (by simp)).trans (by simp [go_sem])
  have d1 : w1.cell? ⟨w.heap.size, 1, none⟩ = some (.int .i64 t) := (hb.cell (by simp)).trans (by simp [go_sem])
  go_wp2_with (go_at_call 26; refine (HW.out _).mono ?_; rintro e w2 ⟨rfl, rfl⟩)
  go_ret
  exact ⟨rfl, grown_trans (grown_alloc (grown_refl _ _) _) (grown_below hb _), (HK.out.alloc _).below hb⟩

/-- The count behind, by which of the two stand at m. -/
theorem cnt_two (m s t a c : Int) (ht : 0 ≤ t) : cntF m [(s, t), (a, c)] 0 = if s = m then (if a = m then (if t < c then c + 1 else t + 1) else t + 1) else if a = m then (if 0 ≤ c then c + 1 else 0) else 0 := by
  simp only [cntF]
  repeat' split
  all_goals omega

set_option maxHeartbeats 4000000 in
theorem refsee_yes (T : TypeId) (g : Nat) (a c s t n : Int) (w : World) (hk : Clk T w g a c) (h1 : mayB s t = true) (h2 : inB n 1099511627776 = true) (h3 : ¬ 1000 < s - n) (h4 : s ≤ 1099511627776) (h5 : 0 ≤ n) (h6 : 0 ≤ s) (h7 : n ≤ 1099511627776)
    (R : Told) (hm : Hid (∀ W : World, Clk T W g a c → seenT g T R W (.returned (.int .i64 R.e)) (if 65535 < cntF (mx3 n s a) [(s, t), (a, c)] 0 then W else (W.setCell ⟨g, 0, none⟩ (.int .i64 (mx3 n s a))).setCell ⟨g, 1, none⟩ (.int .i64 (cntF (mx3 n s a) [(s, t), (a, c)] 0))) ∧ R.e = if 65535 < cntF (mx3 n s a) [(s, t), (a, c)] 0 then 4 else 0)) (ht : 0 ≤ t ∧ t ≤ 65535) (hc : 0 ≤ c ∧ c ≤ 65535) :
    Calls Try.prog 21 #[.pointer (some ⟨g, 0, none⟩), .agg #[.int .i64 s, .int .i64 t], .int .i64 n] w (seenT g T R w) := by
  have cm := fun W => refmay_c s t W
  have cw := fun W => in_c n 1099511627776 W
  rw [h1] at cm
  rw [h2] at cw
  have HM := Lib.hid cm
  have HW := Lib.hid cw
  have hg := hk.lt
  have HK := Lib.hid hk
  clear cm cw hk h1 h2
  have hmx := max3_run n s a
  rw [cnt_two _ _ _ _ _ ht.1] at hm
  generalize mx3 n s a = m at hmx hm
  obtain ⟨t0, t1⟩ := ht
  obtain ⟨k0, k1⟩ := hc
  go_enter Try.func21, Try.ntmps21
  go_wp2_with fail
  refine (HM.out _).mono ?_
  rintro e w1 ⟨rfl, hb⟩
  have hz : w.heap.size + 1 ≤ w1.heap.size := by have := hb.size; simpa using this
  have d0 : w1.cell? ⟨w.heap.size, 0, none⟩ = some (.int .i64 s) := (hb.cell (by simp)).trans (by simp [go_sem])
  have d1 : w1.cell? ⟨w.heap.size, 1, none⟩ = some (.int .i64 t) := (hb.cell (by simp)).trans (by simp [go_sem])
  have hk1 : Clk T w1 g a c := (HK.out.alloc _).below hb
  have hgr1 : w.grownBy w1 (some g) := grown_trans (grown_alloc (grown_refl _ _) _) (grown_below hb _)
  have p0 := hk1.cell0
  have p1 := hk1.cell1
  have q0 := hk1.soft 0
  have q1 := hk1.soft 1
  have HK1 := Lib.hid hk1
  have HG1 := Lib.hid hgr1
  clear hk1 hgr1 hb
  go_wp2_with (go_at_call 26; refine (HW.out _).mono ?_; rintro e w2 ⟨rfl, rfl⟩)
  go_quiet (fail)
  clear hmx
  have hend := hm.out (w1.drewN nq) HK1.out
  have hgn : w.grownBy (w1.drewN nq) (some g) := grown_drewN HG1.out nq
  have HGN := Lib.hid hgn
  clear hgn hm
  by_cases e1 : s = m
  · have b1 : (s == m) = true := by simpa using e1
    rw [if_pos e1] at hend
    have hm1 : ¬ t < -1 := by omega
    have hm2 : -1 < t := by omega
    by_cases e2 : a = m
    · have b2 : (a == m) = true := by simpa using e2
      rw [if_pos e2] at hend
      by_cases e3 : t < c
      · rw [if_pos e3] at hend
        by_cases e4 : 65535 < c + 1
        · rw [if_pos e4, if_pos e4] at hend
          have HE := Lib.hid hend
          clear hend e1 e2
          go_wp2
          go_ret
          exact ⟨by rw [HE.out.2]; rfl, grown_trans HGN.out HE.out.1.2.1, HE.out.1.2.2⟩
        · rw [if_neg e4, if_neg e4] at hend
          have HE := Lib.hid hend
          clear hend e1 e2
          go_wp2
          go_ret
          exact ⟨by rw [HE.out.2]; rfl, grown_trans HGN.out HE.out.1.2.1, HE.out.1.2.2⟩
      · rw [if_neg e3] at hend
        by_cases e4 : 65535 < t + 1
        · rw [if_pos e4, if_pos e4] at hend
          have HE := Lib.hid hend
          clear hend e1 e2
          go_wp2
          go_ret
          exact ⟨by rw [HE.out.2]; rfl, grown_trans HGN.out HE.out.1.2.1, HE.out.1.2.2⟩
        · rw [if_neg e4, if_neg e4] at hend
          have HE := Lib.hid hend
          clear hend e1 e2
          go_wp2
          go_ret
          exact ⟨by rw [HE.out.2]; rfl, grown_trans HGN.out HE.out.1.2.1, HE.out.1.2.2⟩
    · have b2 : (a == m) = false := by simpa using e2
      rw [if_neg e2] at hend
      by_cases e4 : 65535 < t + 1
      · rw [if_pos e4, if_pos e4] at hend
        have HE := Lib.hid hend
        clear hend e1 e2
        go_wp2
        go_ret
        exact ⟨by rw [HE.out.2]; rfl, grown_trans HGN.out HE.out.1.2.1, HE.out.1.2.2⟩
      · rw [if_neg e4, if_neg e4] at hend
        have HE := Lib.hid hend
        clear hend e1 e2
        go_wp2
        go_ret
        exact ⟨by rw [HE.out.2]; rfl, grown_trans HGN.out HE.out.1.2.1, HE.out.1.2.2⟩
  · have b1 : (s == m) = false := by simpa using e1
    rw [if_neg e1] at hend
    have hm2 : -1 < c := by omega
    by_cases e2 : a = m
    · have b2 : (a == m) = true := by simpa using e2
      rw [if_pos e2, if_pos k0] at hend
      by_cases e4 : 65535 < c + 1
      · rw [if_pos e4, if_pos e4] at hend
        have HE := Lib.hid hend
        clear hend e1 e2
        go_wp2
        go_ret
        exact ⟨by rw [HE.out.2]; rfl, grown_trans HGN.out HE.out.1.2.1, HE.out.1.2.2⟩
      · rw [if_neg e4, if_neg e4] at hend
        have HE := Lib.hid hend
        clear hend e1 e2
        go_wp2
        go_ret
        exact ⟨by rw [HE.out.2]; rfl, grown_trans HGN.out HE.out.1.2.1, HE.out.1.2.2⟩
    · have b2 : (a == m) = false := by simpa using e2
      rw [if_neg e2] at hend
      rw [if_neg (by omega), if_neg (by omega)] at hend
      have HE := Lib.hid hend
      clear hend e1 e2
      go_wp2
      go_ret
      exact ⟨by rw [HE.out.2]; rfl, grown_trans HGN.out HE.out.1.2.1, HE.out.1.2.2⟩

theorem refsee_c (T : TypeId) (g : Nat) (a c s t n : Int) (w : World) (hk : Clk T w g a c) (hc : 0 ≤ c ∧ c ≤ 65535) :
    Calls Try.prog 21 #[.pointer (some ⟨g, 0, none⟩), .agg #[.int .i64 s, .int .i64 t], .int .i64 n] w (seenT g T (see a c s t n) w) := by
  unfold see
  cases h : (mayB s t && inB n 1099511627776)
  · rw [if_pos rfl]
    exact refsee_arg T g a c s t n w hk h
  · rw [if_neg (by simp)]
    simp only [Bool.and_eq_true] at h
    obtain ⟨h1, h2⟩ := h
    have b1 := mayB_iff h1
    have b2 := inB_iff h2
    by_cases h3 : 1000 < s - n
    · rw [if_pos h3]
      exact refsee_far T g a c s t n w hk h1 h2 h3 b1.1.2 b2.1
    · rw [if_neg h3]
      refine refsee_yes T g a c s t n w hk h1 h2 h3 b1.1.2 b2.1 b1.1.1 b2.2 _ (Lib.hid fun W hW => ?_) b1.2 hc
      by_cases h4 : 65535 < cntF (mx3 n s a) [(s, t), (a, c)] 0
      · simp only [if_pos h4]
        exact ⟨⟨rfl, grown_refl _ _, hW⟩, trivial⟩
      · simp only [if_neg h4]
        exact ⟨⟨rfl, grown_set (grown_set (grown_refl _ _) _ _) _ _, hW.set _ _⟩, trivial⟩

end Go.Proofs.Ytmhonaelkcllhaa
