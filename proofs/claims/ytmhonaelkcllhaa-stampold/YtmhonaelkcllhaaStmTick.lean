/-
  Tick, of the program and of chapter 2's own answer, by contract: both are 'tick'.
-/
import Derived.Test.YtmhonaelkcllhaaStmClock
import Derived.Deep.RegionHeld3
namespace Go.Proofs.Ytmhonaelkcllhaa
open Go.RowKit Go.Lib

/-- What a call of a clock tells and leaves: the error, the stamp told, the stamp kept. -/
structure Told where
  (e ra rc ka kc : Int)
def tick (a c n : Int) : Told :=
  if inB n 1099511627776 = false then ⟨2, 0, 0, a, c⟩ else if a < n then ⟨0, n, 0, n, 0⟩ else if 65535 ≤ c then ⟨4, 0, 0, a, c⟩ else ⟨0, a, c + 1, a, c + 1⟩

def tellT (g : Nat) (T : TypeId) (R : Told) (w : World) (e : Ending) (w' : World) : Prop :=
  e = .returned (.tuple #[.agg #[.int .i64 R.ra, .int .i64 R.rc], .int .i64 R.e]) ∧ w.grownBy w' (some g) ∧ Clk T w' g R.ka R.kc

theorem tick_nil (n : Int) (w : World) : Calls Try.prog 22 #[.pointer none, .int .i64 n] w fun e w' => e = .returned (.tuple #[.agg #[.int .i64 0, .int .i64 0], .int .i64 1]) ∧ Below w.heap.size w w' := by
  go_enter Try.func22, Try.ntmps22
  go_wp2
  exact bodyPost_ret (v := .tuple #[.agg #[.int .i64 0, .int .i64 0], .int .i64 1]) (by simp [results, Try.results22, go_sem]) rfl ⟨rfl, (Below.refl _ _).alloc (Nat.le_refl _) _⟩

set_option maxHeartbeats 1000000 in
theorem tick_arg (T : TypeId) (g : Nat) (a c n : Int) (w : World) (h : inB n 1099511627776 = false) (hk : Clk T w g a c) :
    Calls Try.prog 22 #[.pointer (some ⟨g, 0, none⟩), .int .i64 n] w (tellT g T ⟨2, 0, 0, a, c⟩ w) := by
  have cm := fun W => wall_c n W
  rw [h] at cm
  have HM := Lib.hid cm
  have HK := Lib.hid hk
  clear cm h hk
  go_enter Try.func22, Try.ntmps22
  go_wp2_with (go_at_call 25; refine (HM.out _).mono ?_; rintro e w' ⟨rfl, rfl⟩)
  exact bodyPost_ret (v := .tuple #[.agg #[.int .i64 0, .int .i64 0], .int .i64 2]) (by simp [results, Try.results22, go_sem]) rfl ⟨rfl, grown_alloc (grown_refl _ _) _, HK.out.alloc _⟩

set_option maxHeartbeats 2000000 in
theorem tick_on (T : TypeId) (g : Nat) (a c n : Int) (w : World) (h : inB n 1099511627776 = true) (hk : Clk T w g a c) (hlt : a < n) (hc : c ≤ 65535) (hc0 : 0 ≤ c) :
    Calls Try.prog 22 #[.pointer (some ⟨g, 0, none⟩), .int .i64 n] w (tellT g T ⟨0, n, 0, n, 0⟩ w) := by
  have cm := fun W => wall_c n W
  rw [h] at cm
  have HM := Lib.hid cm
  have hg := hk.lt
  have c0 := hk.cell0
  have c1 := hk.cell1
  have f0 := hk.soft 0
  have f1 := hk.soft 1
  have HK := Lib.hid hk
  clear cm h hk
  go_enter Try.func22, Try.ntmps22
  go_wp2_with fail
  refine (HM.out _).mono ?_
  rintro e w' ⟨rfl, rfl⟩
  go_wp2_with fail
  go_region
  go_wp2_with fail
  refine (move_ok T g a c n (0) _ (by omega) (by exact (HK.out.alloc _).alloc _)).mono ?_
  rintro e w2 ⟨rfl, hgr, hk2⟩
  have d : ∀ p : Addr, p.block < w.heap.size + 2 → p.block ≠ g → w2.cell? p = (((w.alloc (.cells #[.int .i64 0, .int .i64 0] 23)).alloc (.cells #[.int .i64 n, .int .i64 (0)] 23))).cell? p := fun p hp hne => World.cell?_of_block (hgr.block p.block (by simpa [World.drew] using hp) (by simpa using hne))
  have q : ∀ p : Addr, p.block < w.heap.size + 2 → p.block ≠ g → w2.frozen? p = (((w.alloc (.cells #[.int .i64 0, .int .i64 0] 23)).alloc (.cells #[.int .i64 n, .int .i64 (0)] 23))).frozen? p := fun p hp hne => World.frozen?_of_block (hgr.block p.block (by simpa [World.drew] using hp) (by simpa using hne))
  have d0 : w2.cell? ⟨w.heap.size + 1, 0, none⟩ = some (.int .i64 n) := (d _ (by show w.heap.size + 1 < _; omega) (by show w.heap.size + 1 ≠ g; omega)).trans (by simp [go_sem])
  have d1 : w2.cell? ⟨w.heap.size + 1, 1, none⟩ = some (.int .i64 (0)) := (d _ (by show w.heap.size + 1 < _; omega) (by show w.heap.size + 1 ≠ g; omega)).trans (by simp [go_sem])
  have e0 : w2.cell? ⟨w.heap.size, 0, none⟩ = some (.int .i64 0) := (d _ (by show w.heap.size < _; omega) (by show w.heap.size ≠ g; omega)).trans (by simp [go_sem])
  have e1 : w2.cell? ⟨w.heap.size, 1, none⟩ = some (.int .i64 0) := (d _ (by show w.heap.size < _; omega) (by show w.heap.size ≠ g; omega)).trans (by simp [go_sem])
  have q0 : w2.frozen? ⟨w.heap.size, 0, none⟩ = false := (q _ (by show w.heap.size < _; omega) (by show w.heap.size ≠ g; omega)).trans (by simp [go_sem])
  have q1 : w2.frozen? ⟨w.heap.size, 1, none⟩ = false := (q _ (by show w.heap.size < _; omega) (by show w.heap.size ≠ g; omega)).trans (by simp [go_sem])
  clear d q
  have hgr2 : w.grownBy w2 (some g) := grown_trans (grown_drew (grown_alloc (grown_alloc (grown_refl _ _) _) _)) hgr
  have HG := Lib.hid hgr2
  clear hgr hgr2
  go_wp2
  exact bodyPost_ret (v := .tuple #[.agg #[.int .i64 n, .int .i64 (0)], .int .i64 0]) (by simp [results, Try.results22, go_sem, e0, e1]) rfl ⟨rfl, grown_setNew (grown_setNew HG.out (by exact Nat.le_refl _) _) (by exact Nat.le_refl _) _, (hk2.setFar (by show g ≠ w.heap.size; omega) _).setFar (by show g ≠ w.heap.size; omega) _⟩

set_option maxHeartbeats 2000000 in
theorem tick_up (T : TypeId) (g : Nat) (a c n : Int) (w : World) (h : inB n 1099511627776 = true) (hk : Clk T w g a c) (hlt : ¬ a < n) (hc : c < 65535) (hc0 : 0 ≤ c) :
    Calls Try.prog 22 #[.pointer (some ⟨g, 0, none⟩), .int .i64 n] w (tellT g T ⟨0, a, c + 1, a, c + 1⟩ w) := by
  have cm := fun W => wall_c n W
  rw [h] at cm
  have HM := Lib.hid cm
  have hg := hk.lt
  have c0 := hk.cell0
  have c1 := hk.cell1
  have f0 := hk.soft 0
  have f1 := hk.soft 1
  have HK := Lib.hid hk
  clear cm h hk
  go_enter Try.func22, Try.ntmps22
  go_wp2_with fail
  refine (HM.out _).mono ?_
  rintro e w' ⟨rfl, rfl⟩
  go_wp2_with fail
  go_region
  go_wp2_with fail
  refine (move_ok T g a c a (c + 1) _ (by omega) (by exact (HK.out.alloc _).alloc _)).mono ?_
  rintro e w2 ⟨rfl, hgr, hk2⟩
  have d : ∀ p : Addr, p.block < w.heap.size + 2 → p.block ≠ g → w2.cell? p = (((w.alloc (.cells #[.int .i64 0, .int .i64 0] 23)).alloc (.cells #[.int .i64 a, .int .i64 (c + 1)] 23))).cell? p := fun p hp hne => World.cell?_of_block (hgr.block p.block (by simpa [World.drew] using hp) (by simpa using hne))
  have q : ∀ p : Addr, p.block < w.heap.size + 2 → p.block ≠ g → w2.frozen? p = (((w.alloc (.cells #[.int .i64 0, .int .i64 0] 23)).alloc (.cells #[.int .i64 a, .int .i64 (c + 1)] 23))).frozen? p := fun p hp hne => World.frozen?_of_block (hgr.block p.block (by simpa [World.drew] using hp) (by simpa using hne))
  have d0 : w2.cell? ⟨w.heap.size + 1, 0, none⟩ = some (.int .i64 a) := (d _ (by show w.heap.size + 1 < _; omega) (by show w.heap.size + 1 ≠ g; omega)).trans (by simp [go_sem])
  have d1 : w2.cell? ⟨w.heap.size + 1, 1, none⟩ = some (.int .i64 (c + 1)) := (d _ (by show w.heap.size + 1 < _; omega) (by show w.heap.size + 1 ≠ g; omega)).trans (by simp [go_sem])
  have e0 : w2.cell? ⟨w.heap.size, 0, none⟩ = some (.int .i64 0) := (d _ (by show w.heap.size < _; omega) (by show w.heap.size ≠ g; omega)).trans (by simp [go_sem])
  have e1 : w2.cell? ⟨w.heap.size, 1, none⟩ = some (.int .i64 0) := (d _ (by show w.heap.size < _; omega) (by show w.heap.size ≠ g; omega)).trans (by simp [go_sem])
  have q0 : w2.frozen? ⟨w.heap.size, 0, none⟩ = false := (q _ (by show w.heap.size < _; omega) (by show w.heap.size ≠ g; omega)).trans (by simp [go_sem])
  have q1 : w2.frozen? ⟨w.heap.size, 1, none⟩ = false := (q _ (by show w.heap.size < _; omega) (by show w.heap.size ≠ g; omega)).trans (by simp [go_sem])
  clear d q
  have hgr2 : w.grownBy w2 (some g) := grown_trans (grown_drew (grown_alloc (grown_alloc (grown_refl _ _) _) _)) hgr
  have HG := Lib.hid hgr2
  clear hgr hgr2
  go_wp2
  exact bodyPost_ret (v := .tuple #[.agg #[.int .i64 a, .int .i64 (c + 1)], .int .i64 0]) (by simp [results, Try.results22, go_sem, e0, e1]) rfl ⟨rfl, grown_setNew (grown_setNew HG.out (by exact Nat.le_refl _) _) (by exact Nat.le_refl _) _, (hk2.setFar (by show g ≠ w.heap.size; omega) _).setFar (by show g ≠ w.heap.size; omega) _⟩

set_option maxHeartbeats 2000000 in
theorem tick_over (T : TypeId) (g : Nat) (a c n : Int) (w : World) (h : inB n 1099511627776 = true) (hk : Clk T w g a c) (hlt : ¬ a < n) (hc : 65535 ≤ c) (hc2 : c ≤ 65535) :
    Calls Try.prog 22 #[.pointer (some ⟨g, 0, none⟩), .int .i64 n] w (tellT g T ⟨4, 0, 0, a, c⟩ w) := by
  have cm := fun W => wall_c n W
  rw [h] at cm
  have HM := Lib.hid cm
  have hg := hk.lt
  have c0 := hk.cell0
  have c1 := hk.cell1
  have f0 := hk.soft 0
  have f1 := hk.soft 1
  have HK := Lib.hid hk
  clear cm h hk
  go_enter Try.func22, Try.ntmps22
  go_wp2_with fail
  refine (HM.out _).mono ?_
  rintro e w' ⟨rfl, rfl⟩
  go_wp2_with fail
  go_region
  go_wp2_with fail
  refine (move_over g a (c + 1) _ (by omega)).mono ?_
  rintro e w2 ⟨rfl, hb2⟩
  have hgr := grown_below hb2 (some g)
  have hk2 : Clk T w2 g a c := Clk.below (by exact (HK.out.alloc _).alloc _) hb2
  have d : ∀ p : Addr, p.block < w.heap.size + 2 → p.block ≠ g → w2.cell? p = (((w.alloc (.cells #[.int .i64 0, .int .i64 0] 23)).alloc (.cells #[.int .i64 a, .int .i64 (c + 1)] 23))).cell? p := fun p hp hne => World.cell?_of_block (hgr.block p.block (by simpa [World.drew] using hp) (by simpa using hne))
  have q : ∀ p : Addr, p.block < w.heap.size + 2 → p.block ≠ g → w2.frozen? p = (((w.alloc (.cells #[.int .i64 0, .int .i64 0] 23)).alloc (.cells #[.int .i64 a, .int .i64 (c + 1)] 23))).frozen? p := fun p hp hne => World.frozen?_of_block (hgr.block p.block (by simpa [World.drew] using hp) (by simpa using hne))
  have d0 : w2.cell? ⟨w.heap.size + 1, 0, none⟩ = some (.int .i64 a) := (d _ (by show w.heap.size + 1 < _; omega) (by show w.heap.size + 1 ≠ g; omega)).trans (by simp [go_sem])
  have d1 : w2.cell? ⟨w.heap.size + 1, 1, none⟩ = some (.int .i64 (c + 1)) := (d _ (by show w.heap.size + 1 < _; omega) (by show w.heap.size + 1 ≠ g; omega)).trans (by simp [go_sem])
  have e0 : w2.cell? ⟨w.heap.size, 0, none⟩ = some (.int .i64 0) := (d _ (by show w.heap.size < _; omega) (by show w.heap.size ≠ g; omega)).trans (by simp [go_sem])
  have e1 : w2.cell? ⟨w.heap.size, 1, none⟩ = some (.int .i64 0) := (d _ (by show w.heap.size < _; omega) (by show w.heap.size ≠ g; omega)).trans (by simp [go_sem])
  have q0 : w2.frozen? ⟨w.heap.size, 0, none⟩ = false := (q _ (by show w.heap.size < _; omega) (by show w.heap.size ≠ g; omega)).trans (by simp [go_sem])
  have q1 : w2.frozen? ⟨w.heap.size, 1, none⟩ = false := (q _ (by show w.heap.size < _; omega) (by show w.heap.size ≠ g; omega)).trans (by simp [go_sem])
  clear d q
  have hgr2 : w.grownBy w2 (some g) := grown_trans (grown_drew (grown_alloc (grown_alloc (grown_refl _ _) _) _)) hgr
  have HG := Lib.hid hgr2
  clear hgr hgr2
  go_wp2
  exact bodyPost_ret (v := .tuple #[.agg #[.int .i64 0, .int .i64 (0)], .int .i64 4]) (by simp [results, Try.results22, go_sem, e0, e1]) rfl ⟨rfl, grown_setNew (grown_setNew HG.out (by exact Nat.le_refl _) _) (by exact Nat.le_refl _) _, (hk2.setFar (by show g ≠ w.heap.size; omega) _).setFar (by show g ≠ w.heap.size; omega) _⟩

theorem tick_c (T : TypeId) (g : Nat) (a c n : Int) (w : World) (hk : Clk T w g a c) (hc : c ≤ 65535) (hc0 : 0 ≤ c) :
    Calls Try.prog 22 #[.pointer (some ⟨g, 0, none⟩), .int .i64 n] w (tellT g T (tick a c n) w) := by
  unfold tick
  cases h : inB n 1099511627776
  · rw [if_pos rfl]
    exact tick_arg T g a c n w h hk
  · rw [if_neg (by simp)]
    by_cases h1 : a < n
    · rw [if_pos h1]
      exact tick_on T g a c n w h hk h1 hc hc0
    · rw [if_neg h1]
      by_cases h2 : 65535 ≤ c
      · rw [if_pos h2]
        exact tick_over T g a c n w h hk h1 h2 hc
      · rw [if_neg h2]
        exact tick_up T g a c n w h hk h1 (by omega) hc0

set_option maxHeartbeats 2000000 in
theorem reftick_c (T : TypeId) (g : Nat) (a c n : Int) (w : World) (hk : Clk T w g a c) (hc : c ≤ 65535) (hc0 : 0 ≤ c) :
    Calls Try.prog 23 #[.pointer (some ⟨g, 0, none⟩), .int .i64 n] w (tellT g T (tick a c n) w) := by
  have cm := fun W => in_c n 1099511627776 W
  have hg := hk.lt
  have c0 := hk.cell0
  have c1 := hk.cell1
  have f0 := hk.soft 0
  have f1 := hk.soft 1
  have HK := Lib.hid hk
  clear hk
  unfold tick
  generalize inB n 1099511627776 = N at cm ⊢
  have HM := Lib.hid cm
  clear cm
  cases N
  · rw [if_pos rfl]
    go_enter Try.func23, Try.ntmps23
    go_wp2_with (go_at_call 26; refine (HM.out _).mono ?_; rintro e w' ⟨rfl, rfl⟩)
    exact bodyPost_ret (v := .tuple #[.agg #[.int .i64 0, .int .i64 0], .int .i64 2]) (by simp [results, Try.results23, go_sem]) rfl ⟨rfl, grown_alloc (grown_refl _ _) _, HK.out.alloc _⟩
  · rw [if_neg (by simp)]
    by_cases h1 : a < n
    · rw [if_pos h1]
      have hgt : decide (n > a) = true := by simpa using h1
      go_enter Try.func23, Try.ntmps23
      go_wp2_with (go_at_call 26; refine (HM.out _).mono ?_; rintro e w' ⟨rfl, rfl⟩)
      refine bodyPost_ret (v := .tuple #[.agg #[.int .i64 n, .int .i64 0], .int .i64 0]) (by simp [results, Try.results23, go_sem]) rfl ⟨rfl, ?_, ?_⟩
      · exact grown_alloc (grown_set (grown_set (grown_refl _ _) _ _) _ _) _
      · exact (HK.out.set n 0).alloc _
    · rw [if_neg h1]
      by_cases h2 : 65535 ≤ c
      · rw [if_pos h2]
        go_enter Try.func23, Try.ntmps23
        go_wp2_with (go_at_call 26; refine (HM.out _).mono ?_; rintro e w' ⟨rfl, rfl⟩)
        exact bodyPost_ret (v := .tuple #[.agg #[.int .i64 0, .int .i64 0], .int .i64 4]) (by simp [results, Try.results23, go_sem]) rfl ⟨rfl, grown_alloc (grown_refl _ _) _, HK.out.alloc _⟩
      · rw [if_neg h2]
        go_enter Try.func23, Try.ntmps23
        go_wp2_with (go_at_call 26; refine (HM.out _).mono ?_; rintro e w' ⟨rfl, rfl⟩)
        refine bodyPost_ret (v := .tuple #[.agg #[.int .i64 a, .int .i64 (c + 1)], .int .i64 0]) (by simp [results, Try.results23, go_sem]) rfl ⟨rfl, ?_, ?_⟩
        · exact grown_alloc (grown_set (grown_refl _ _) _ _) _
        · exact (HK.out.set1 (c + 1)).alloc _

end Go.Proofs.Ytmhonaelkcllhaa
