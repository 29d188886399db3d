/-
  The leaves of package stamp: mayWall, in, May, Less, by contract.
-/
import Derived.Test.YtmhonaelkcllhaaProg
import Derived.Test.YtmhonaelkcllhaaChecked
import Derived.WalkKit
import Derived.WalkMore
import Derived.BigCall
import Derived.Below
import Derived.Lib.Hide
import Derived.Deep.QuietTactic
import Derived.BigQuiet
import Derived.OwnWalk
import Derived.Laws.OwnMore
import Derived.WalkSmall
namespace Go.Proofs.Ytmhonaelkcllhaa
open Go.RowKit Go.Lib

theorem below_drewN {B : Nat} {a w : World} (h : Below B a w) (n : Nat) : Below B a (w.drewN n) := ⟨h.os, h.tape, h.output, h.size, h.block⟩

def inB (n m : Int) : Bool := decide (0 ≤ n) && decide (n ≤ m)
def mayB (a c : Int) : Bool := inB a 1099511627776 && inB c 65535
def lessB (a c b d : Int) : Bool := decide (a < b) || (decide (a = b) && decide (c < d))

theorem wall_c (n : Int) (w : World) : Calls Try.prog 25 #[.int .i64 n] w fun e w' => e = .returned (.bool (inB n 1099511627776)) ∧ w = w' := by
  unfold inB
  by_cases h1 : 0 ≤ n
  · by_cases h2 : n ≤ 1099511627776
    · have e1 : decide (0 ≤ n) = true := by simpa using h1
      have e2 : decide (n ≤ 1099511627776) = true := by simpa using h2
      go_enter Try.func25, Try.ntmps25
      go_wp2
      go_ret
      first | (simp; done) | (simp; omega)
    · have e1 : decide (0 ≤ n) = true := by simpa using h1
      have e2 : decide (n ≤ 1099511627776) = false := by simpa using h2
      go_enter Try.func25, Try.ntmps25
      go_wp2
      go_ret
      first | (simp; done) | (simp; omega)
  · have e1 : decide (0 ≤ n) = false := by simpa using h1
    go_enter Try.func25, Try.ntmps25
    go_wp2
    go_ret
    first | (simp; done) | (simp; omega)

theorem in_c (n m : Int) (w : World) : Calls Try.prog 26 #[.int .i64 n, .int .i64 m] w fun e w' => e = .returned (.bool (inB n m)) ∧ w = w' := by
  unfold inB
  by_cases h1 : 0 ≤ n
  · by_cases h2 : n ≤ m
    · have e1 : decide (0 ≤ n) = true := by simpa using h1
      have e2 : decide (n ≤ m) = true := by simpa using h2
      go_enter Try.func26, Try.ntmps26
      go_wp2
      go_ret
      first | (simp; done) | (simp; omega)
    · have e1 : decide (0 ≤ n) = true := by simpa using h1
      have e2 : decide (n ≤ m) = false := by simpa using h2
      go_enter Try.func26, Try.ntmps26
      go_wp2
      go_ret
      first | (simp; done) | (simp; omega)
  · have e1 : decide (0 ≤ n) = false := by simpa using h1
    go_enter Try.func26, Try.ntmps26
    go_wp2
    go_ret
    first | (simp; done) | (simp; omega)

set_option maxHeartbeats 1000000 in
theorem may_c (a c : Int) (w : World) : Calls Try.prog 11 #[.agg #[.int .i64 a, .int .i64 c]] w fun e w' => e = .returned (.bool (mayB a c)) ∧ Below w.heap.size w w' := by
  have cw := fun W => wall_c a W
  unfold mayB
  generalize inB a 1099511627776 = A at cw ⊢
  have HW := Lib.hid cw
  clear cw
  unfold inB
  cases A
  · go_enter Try.func11, Try.ntmps11
    go_wp2_with (go_at_call 25; refine (HW.out _).mono ?_; rintro e w' ⟨rfl, rfl⟩)
    go_ret
    exact ⟨rfl, (Below.refl _ _).alloc (Nat.le_refl _) _⟩
  · by_cases h1 : 0 ≤ c
    · by_cases h2 : c ≤ 65535
      · have e1 : decide (0 ≤ c) = true := by simpa using h1
        have e2 : decide (c ≤ 65535) = true := by simpa using h2
        go_enter Try.func11, Try.ntmps11
        go_wp2_with (go_at_call 25; refine (HW.out _).mono ?_; rintro e w' ⟨rfl, rfl⟩)
        go_ret
        exact ⟨by first | (simp; done) | (simp; omega), (Below.refl _ _).alloc (Nat.le_refl _) _⟩
      · have e1 : decide (0 ≤ c) = true := by simpa using h1
        have e2 : decide (c ≤ 65535) = false := by simpa using h2
        go_enter Try.func11, Try.ntmps11
        go_wp2_with (go_at_call 25; refine (HW.out _).mono ?_; rintro e w' ⟨rfl, rfl⟩)
        go_ret
        exact ⟨by first | (simp; done) | (simp; omega), (Below.refl _ _).alloc (Nat.le_refl _) _⟩
    · have e1 : decide (0 ≤ c) = false := by simpa using h1
      go_enter Try.func11, Try.ntmps11
      go_wp2_with (go_at_call 25; refine (HW.out _).mono ?_; rintro e w' ⟨rfl, rfl⟩)
      go_ret
      exact ⟨by first | (simp; done) | (simp; omega), (Below.refl _ _).alloc (Nat.le_refl _) _⟩

set_option maxHeartbeats 1000000 in
theorem refmay_c (a c : Int) (w : World) : Calls Try.prog 12 #[.agg #[.int .i64 a, .int .i64 c]] w fun e w' => e = .returned (.bool (mayB a c)) ∧ Below w.heap.size w w' := by
  have cw := fun W => in_c a 1099511627776 W
  have cd := fun W => in_c c 65535 W
  unfold mayB
  generalize inB a 1099511627776 = A at cw ⊢
  generalize inB c 65535 = C at cd ⊢
  have HW := Lib.hid cw
  have HD := Lib.hid cd
  clear cw cd
  cases A
  · go_enter Try.func12, Try.ntmps12
    go_wp2_with fail
    refine (HW.out _).mono ?_
    rintro e w' ⟨rfl, rfl⟩
    go_wp2
    go_ret
    exact ⟨rfl, (Below.refl _ _).alloc (Nat.le_refl _) _⟩
  · go_enter Try.func12, Try.ntmps12
    go_wp2_with fail
    refine (HW.out _).mono ?_
    rintro e w' ⟨rfl, rfl⟩
    go_wp2_with fail
    refine (HD.out _).mono ?_
    rintro e w' ⟨rfl, rfl⟩
    go_wp2
    go_ret
    exact ⟨by simp, (Below.refl _ _).alloc (Nat.le_refl _) _⟩

theorem below_two (w : World) (o o' : Obj) : Below w.heap.size w ((w.alloc o).alloc o') := ((Below.refl _ _).alloc (Nat.le_refl _) _).alloc (by simp) _

set_option maxHeartbeats 1000000 in
theorem less_c (a c b d : Int) (w : World) : Calls Try.prog 13 #[.agg #[.int .i64 a, .int .i64 c], .agg #[.int .i64 b, .int .i64 d]] w fun e w' => e = .returned (.bool (lessB a c b d)) ∧ Below w.heap.size w w' := by
  by_cases h : a = b
  · subst h
    have e0 : (a != a) = false := by simp
    have hl : lessB a c a d = decide (c < d) := by simp [lessB]
    rw [hl]
    clear hl
    generalize hC : decide (c < d) = C
    go_enter Try.func13, Try.ntmps13
    go_wp2
    go_ret
    exact ⟨by simp, below_two _ _ _⟩
  · have e0 : (a != b) = true := by simpa using h
    have hl : lessB a c b d = decide (a < b) := by simp [lessB, h]
    rw [hl]
    clear hl
    generalize hC : decide (a < b) = C
    go_enter Try.func13, Try.ntmps13
    go_wp2
    go_ret
    exact ⟨by simp, below_two _ _ _⟩

set_option maxHeartbeats 1000000 in
theorem refless_c (a c b d : Int) (w : World) : Calls Try.prog 14 #[.agg #[.int .i64 a, .int .i64 c], .agg #[.int .i64 b, .int .i64 d]] w fun e w' => e = .returned (.bool (lessB a c b d)) ∧ Below w.heap.size w w' := by
  by_cases h : a < b
  · have e0 : decide (a < b) = true := by simpa using h
    have hl : lessB a c b d = true := by simp [lessB, h]
    rw [hl]
    clear hl
    go_enter Try.func14, Try.ntmps14
    go_wp2
    go_ret
    exact ⟨by simp, below_two _ _ _⟩
  · have e0 : decide (a < b) = false := by simpa using h
    by_cases h2 : a = b
    · subst h2
      have e1 : (a == a) = true := by simp
      have hl : lessB a c a d = decide (c < d) := by simp [lessB]
      rw [hl]
      clear hl h
      generalize hC : decide (c < d) = C
      go_enter Try.func14, Try.ntmps14
      go_wp2
      go_ret
      exact ⟨by simp, below_two _ _ _⟩
    · have e1 : (a == b) = false := by simpa using h2
      have hl : lessB a c b d = false := by simp [lessB, h, h2]
      rw [hl]
      clear hl
      go_enter Try.func14, Try.ntmps14
      go_wp2
      go_ret
      exact ⟨by simp, below_two _ _ _⟩

theorem num_c (n : Int) (w : World) : Calls Try.prog 19 #[.int .i64 n] w fun e w' => e = .returned (.int .i64 n) ∧ w = w' := by
  go_enter Try.func19, Try.ntmps19
  go_wp2
  go_ret
  exact ⟨rfl, rfl⟩

end Go.Proofs.Ytmhonaelkcllhaa
