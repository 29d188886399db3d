/-
  StampTells, as a call: it answers true, whatever it is given.
-/
import Derived.Test.YtmhonaelkcllhaaStmMax
namespace Go.Proofs.Ytmhonaelkcllhaa
open Go.RowKit Go.Lib

theorem box_two (w : World) (a c b d : Int) (T T' : TypeId) (n m : Nat) (hn : n = w.heap.size) (hm : m = w.heap.size + 1) : ∀ w' : World, Below ((w.alloc (.cells #[.int .i64 a, .int .i64 c] T)).alloc (.cells #[.int .i64 b, .int .i64 d] T')).heap.size ((w.alloc (.cells #[.int .i64 a, .int .i64 c] T)).alloc (.cells #[.int .i64 b, .int .i64 d] T')) w' →
    w'.cell? ⟨n, 0, none⟩ = some (.int .i64 a) ∧ w'.cell? ⟨n, 1, none⟩ = some (.int .i64 c) ∧ w'.cell? ⟨m, 0, none⟩ = some (.int .i64 b) ∧ w'.cell? ⟨m, 1, none⟩ = some (.int .i64 d) := by
  subst hn hm
  intro w' h
  exact ⟨(h.cell (by simp; omega)).trans (by simp [go_sem]), (h.cell (by simp; omega)).trans (by simp [go_sem]), (h.cell (by simp)).trans (by simp [go_sem]), (h.cell (by simp)).trans (by simp [go_sem])⟩

set_option maxHeartbeats 1000000 in
theorem tells_many (a c b d : Int) (ad : Option Addr) (n cap : Nat) (w : World) (hn : 30 < n) :
    Calls Try.prog 3 #[.agg #[.int .i64 a, .int .i64 c], .agg #[.int .i64 b, .int .i64 d], .slice ad n cap] w fun e w' => e = .returned (.bool true) ∧ Below w.heap.size w w' := by
  have hz : decide ((30 : Int) < (n : Int)) = true := by simp; omega
  have hz2 : (30 : Int) < (n : Int) := by omega
  go_enter Try.func3, Try.ntmps3
  go_wp2_with fail
  refine (awake_c _).mono ?_
  rintro e w4 ⟨rfl, b4⟩
  go_wp2
  go_ret
  exact ⟨rfl, (below_two w _ _).trans (b4.mono (by simp; omega))⟩

set_option maxHeartbeats 8000000 in
theorem tells_few (a c b d : Int) (l : List (Int × Int)) (v : Value) (w : World) (hn : l.length ≤ 30) (hS : Sl w v l) :
    Calls Try.prog 3 #[.agg #[.int .i64 a, .int .i64 c], .agg #[.int .i64 b, .int .i64 d], v] w fun e w' => e = .returned (.bool true) ∧ Below w.heap.size w w' := by
  have HS0 := Lib.hid hS
  obtain ⟨ad, cap, rfl, _, _⟩ := hS
  have hz2 : ¬ (30 : Int) < (l.length : Int) := by omega
  have C11 := Lib.hid (fun W => may_c a c W)
  have C12 := Lib.hid (fun W => refmay_c a c W)
  have C13 := Lib.hid (fun W => less_c a c b d W)
  have C14 := Lib.hid (fun W => refless_c a c b d W)
  have C15 := Lib.hid (fun W h => max_c l (.slice ad l.length cap) W (by omega) h)
  have C16 := Lib.hid (fun W h => refmax_c l (.slice ad l.length cap) W (by omega) h)
  unfold maxT at C15 C16
  generalize (mxL l).1 = X at C15 C16
  generalize (mxL l).2 = Y at C15 C16
  generalize lessB a c b d = K at C13 C14
  cases hm : mayB a c
  · rw [hm] at C11 C12
    have C17 := Lib.hid (fun W => new_nil a c W hm)
    clear hm
    go_enter Try.func3, Try.ntmps3
    go_wp2_with fail
    obtain ⟨W0, hW0⟩ : ∃ W0, W0 = (w.alloc (.cells #[.int .i64 a, .int .i64 c] 23)).alloc (.cells #[.int .i64 b, .int .i64 d] 23) := ⟨_, rfl⟩
    have HS : Hid (∀ w' : World, Below W0.heap.size W0 w' → w'.cell? ⟨w.heap.size, 0, none⟩ = some (.int .i64 a) ∧ w'.cell? ⟨w.heap.size, 1, none⟩ = some (.int .i64 c) ∧ w'.cell? ⟨w.heap.size + 1, 0, none⟩ = some (.int .i64 b) ∧ w'.cell? ⟨w.heap.size + 1, 1, none⟩ = some (.int .i64 d)) := Lib.hid (by
      rw [hW0]
      exact box_two w a c b d _ _ _ _ rfl rfl)
    have hz : w.heap.size ≤ W0.heap.size := by rw [hW0]; simp; omega
    have HB0 : Hid (Below w.heap.size w W0) := Lib.hid (by rw [hW0]; exact below_two _ _ _)
    have HSl : Hid (Sl W0 (.slice ad l.length cap) l) := Lib.hid (by rw [hW0]; exact HS0.out.below (below_two _ _ _))
    rw [← hW0]
    clear hW0
    go_region_held3 (fun w' => w'.cell? ⟨w.heap.size, 0, none⟩ = some (.int .i64 a) ∧ w'.cell? ⟨w.heap.size, 1, none⟩ = some (.int .i64 c) ∧ w'.cell? ⟨w.heap.size + 1, 0, none⟩ = some (.int .i64 b) ∧ w'.cell? ⟨w.heap.size + 1, 1, none⟩ = some (.int .i64 d)) (exact HS.out _ (by first | assumption | exact (Below.refl _ _).drew | exact Below.refl _ _))
      (first
      | (go_at_call 11; refine (C11.out _).mono ?_; rintro e w1 ⟨rfl, b1⟩; have b1' : Below W0.heap.size W0 w1 := Below.next (by first | assumption | exact (Below.refl _ _).drew) b1; clear b1)
      | (go_at_call 12; refine (C12.out _).mono ?_; rintro e w1 ⟨rfl, b1⟩; have b1' : Below W0.heap.size W0 w1 := Below.next (by first | assumption | exact (Below.refl _ _).drew) b1; clear b1)
      | (go_at_call 13; refine (C13.out _).mono ?_; rintro e w1 ⟨rfl, b1⟩; have b1' : Below W0.heap.size W0 w1 := Below.next (by first | assumption | exact (Below.refl _ _).drew) b1; clear b1)
      | (go_at_call 14; refine (C14.out _).mono ?_; rintro e w1 ⟨rfl, b1⟩; have b1' : Below W0.heap.size W0 w1 := Below.next (by first | assumption | exact (Below.refl _ _).drew) b1; clear b1)
      | (go_at_call 15; refine (C15.out _ (by exact HSl.out.below (by assumption))).mono ?_; rintro e w1 ⟨rfl, b1⟩; have b1' : Below W0.heap.size W0 w1 := Below.next (by first | assumption | exact (Below.refl _ _).drew) b1; clear b1)
      | (go_at_call 16; refine (C16.out _ (by exact HSl.out.below (by assumption))).mono ?_; rintro e w1 ⟨rfl, b1⟩; have b1' : Below W0.heap.size W0 w1 := Below.next (by first | assumption | exact (Below.refl _ _).drew) b1; clear b1)
      | (go_at_call 17; refine (C17.out _).mono ?_; rintro e w1 ⟨rfl, b1⟩; have b1' : Below W0.heap.size W0 w1 := Below.next (by first | assumption | exact (Below.refl _ _).drew) b1; clear b1)
      | (go_at_call 10; refine (awake_c _).mono ?_; rintro e w1 ⟨rfl, b1⟩; have b1' : Below W0.heap.size W0 w1 := Below.next (by first | assumption | exact (Below.refl _ _).drew) b1; clear b1))
    go_wp2
    go_ret
    exact ⟨rfl, HB0.out.trans (b1'.mono hz)⟩
  · rw [hm] at C11 C12
    have C17 := Lib.hid (fun W => new_c a c W hm)
    clear hm
    go_enter Try.func3, Try.ntmps3
    go_wp2_with fail
    obtain ⟨W0, hW0⟩ : ∃ W0, W0 = (w.alloc (.cells #[.int .i64 a, .int .i64 c] 23)).alloc (.cells #[.int .i64 b, .int .i64 d] 23) := ⟨_, rfl⟩
    have HS : Hid (∀ w' : World, Below W0.heap.size W0 w' → w'.cell? ⟨w.heap.size, 0, none⟩ = some (.int .i64 a) ∧ w'.cell? ⟨w.heap.size, 1, none⟩ = some (.int .i64 c) ∧ w'.cell? ⟨w.heap.size + 1, 0, none⟩ = some (.int .i64 b) ∧ w'.cell? ⟨w.heap.size + 1, 1, none⟩ = some (.int .i64 d)) := Lib.hid (by
      rw [hW0]
      exact box_two w a c b d _ _ _ _ rfl rfl)
    have hz : w.heap.size ≤ W0.heap.size := by rw [hW0]; simp; omega
    have HB0 : Hid (Below w.heap.size w W0) := Lib.hid (by rw [hW0]; exact below_two _ _ _)
    have HSl : Hid (Sl W0 (.slice ad l.length cap) l) := Lib.hid (by rw [hW0]; exact HS0.out.below (below_two _ _ _))
    rw [← hW0]
    clear hW0
    go_region_held3 (fun w' => w'.cell? ⟨w.heap.size, 0, none⟩ = some (.int .i64 a) ∧ w'.cell? ⟨w.heap.size, 1, none⟩ = some (.int .i64 c) ∧ w'.cell? ⟨w.heap.size + 1, 0, none⟩ = some (.int .i64 b) ∧ w'.cell? ⟨w.heap.size + 1, 1, none⟩ = some (.int .i64 d)) (exact HS.out _ (by first | assumption | exact (Below.refl _ _).drew | exact Below.refl _ _))
      (first
      | (go_at_call 11; refine (C11.out _).mono ?_; rintro e w1 ⟨rfl, b1⟩; have b1' : Below W0.heap.size W0 w1 := Below.next (by first | assumption | exact (Below.refl _ _).drew) b1; clear b1)
      | (go_at_call 12; refine (C12.out _).mono ?_; rintro e w1 ⟨rfl, b1⟩; have b1' : Below W0.heap.size W0 w1 := Below.next (by first | assumption | exact (Below.refl _ _).drew) b1; clear b1)
      | (go_at_call 13; refine (C13.out _).mono ?_; rintro e w1 ⟨rfl, b1⟩; have b1' : Below W0.heap.size W0 w1 := Below.next (by first | assumption | exact (Below.refl _ _).drew) b1; clear b1)
      | (go_at_call 14; refine (C14.out _).mono ?_; rintro e w1 ⟨rfl, b1⟩; have b1' : Below W0.heap.size W0 w1 := Below.next (by first | assumption | exact (Below.refl _ _).drew) b1; clear b1)
      | (go_at_call 15; refine (C15.out _ (by exact HSl.out.below (by assumption))).mono ?_; rintro e w1 ⟨rfl, b1⟩; have b1' : Below W0.heap.size W0 w1 := Below.next (by first | assumption | exact (Below.refl _ _).drew) b1; clear b1)
      | (go_at_call 16; refine (C16.out _ (by exact HSl.out.below (by assumption))).mono ?_; rintro e w1 ⟨rfl, b1⟩; have b1' : Below W0.heap.size W0 w1 := Below.next (by first | assumption | exact (Below.refl _ _).drew) b1; clear b1)
      | (go_at_call 17; refine (C17.out _).mono ?_; rintro e w1 ⟨g, rfl, hg, hk, b1⟩; have b1' : Below W0.heap.size W0 w1 := Below.next (by first | assumption | exact (Below.refl _ _).drew) b1; clear b1)
      | (go_at_call 10; refine (awake_c _).mono ?_; rintro e w1 ⟨rfl, b1⟩; have b1' : Below W0.heap.size W0 w1 := Below.next (by first | assumption | exact (Below.refl _ _).drew) b1; clear b1))
    go_wp2
    go_ret
    exact ⟨rfl, HB0.out.trans (b1'.mono hz)⟩

end Go.Proofs.Ytmhonaelkcllhaa
