/-
  Before and compare of the program, by contract: two blocks and no more are laid at each.
-/
import Derived.Test.YtpepbofhhpmkfaaPstRef
import Derived.Sort.Grow
namespace Go.Proofs.Ytpepbofhhpmkfaa
open Go.RowKit Go.Lib Go.Sort

theorem below_grow (w : World) (os : Array Obj) : Below w.heap.size w (grow w os) :=
  ⟨rfl, rfl, rfl, by rw [size_grow]; omega, fun k hk => by
    show (w.heap ++ os)[k]? = w.heap[k]?
    rw [Array.getElem?_append_left hk]⟩
theorem grow_two (w : World) (o o' : Obj) : ∃ os, (w.alloc o).alloc o' = grow w os := ⟨_, by rw [alloc_eq_grow, alloc_eq_grow, grow_grow]⟩
theorem kLt_ne1 {o s p q : Int} (h : o ≠ p) : kLt (o, s) (p, q) = decide (o < p) := by
  simp only [kLt_eq]
  rw [show (o == p) = false by simpa using h]
  simp
theorem kLt_eq1 (o s q : Int) : kLt (o, s) (o, q) = decide (s < q) := by simp [kLt_eq]
set_option maxHeartbeats 2000000 in
theorem before_g (o s p q : Int) (w : World) : Calls Try.prog 43 #[.agg #[.int .i64 o, .int .i64 s], .agg #[.int .i64 p, .int .i64 q]] w fun e w' => e = .returned (.bool (kLt (o, s) (p, q))) ∧ ∃ os, w' = grow w os := by
  by_cases h : o = p
  · subst h
    have e0 : (o != o) = false := by simp
    rw [kLt_eq1]
    generalize hC : decide (s < q) = C
    go_enter Try.func43, Try.ntmps43
    go_wp2
    go_ret
    exact ⟨by simp, grow_two _ _ _⟩
  · have e0 : (o != p) = true := by simpa using h
    rw [kLt_ne1 h]
    generalize hC : decide (o < p) = C
    go_enter Try.func43, Try.ntmps43
    go_wp2
    go_ret
    exact ⟨by simp, grow_two _ _ _⟩
theorem before_c (o s p q : Int) (w : World) : Calls Try.prog 43 #[.agg #[.int .i64 o, .int .i64 s], .agg #[.int .i64 p, .int .i64 q]] w fun e w' => e = .returned (.bool (kLt (o, s) (p, q))) ∧ Below w.heap.size w w' :=
  (before_g o s p q w).mono fun e w' ⟨he, os, hw⟩ => ⟨he, by rw [hw]; exact below_grow _ _⟩
/-- -1, 0, 1. -/
def cmpK (a b : Ky) : Int := if kLt a b then -1 else if kLt b a then 1 else 0
theorem cmpK_lt (a b : Ky) : decide (cmpK a b < 0) = kLt a b := by
  unfold cmpK
  cases h : kLt a b <;> cases h2 : kLt b a <;> simp
theorem cmpK_self (a : Ky) : cmpK a a = 0 := by simp [cmpK, kLt_irrefl]
theorem cmpK_zero {a b : Ky} : cmpK a b = 0 ↔ a = b := by
  refine ⟨fun h => ?_, fun h => by rw [h, cmpK_self]⟩
  rcases kLt_tri a b with k | k | k
  · rw [cmpK, if_pos k] at h; cases h
  · exact k
  · rw [cmpK, kLt_no k, if_neg (by simp), if_pos k] at h; cases h
theorem cmpK_gt {a b : Ky} (h : kLt b a = true) : cmpK a b = 1 := by rw [cmpK, kLt_no h, if_neg (by simp), if_pos h]
theorem cmpK_less {a b : Ky} (h : kLt a b = true) : cmpK a b = -1 := by rw [cmpK, if_pos h]
set_option maxHeartbeats 4000000 in
theorem compare_g (o s p q : Int) (w : World) : Calls Try.prog 35 #[.agg #[.int .i64 o, .int .i64 s], .agg #[.int .i64 p, .int .i64 q]] w fun e w' => e = .returned (.int .i64 (cmpK (o, s) (p, q))) ∧ ∃ os, w' = grow w os := by
  have C1 := Lib.hid (fun W => before_g o s p q W)
  have C2 := Lib.hid (fun W => before_g p q o s W)
  have B1 := Lib.hid ((Bx.new 34 w #[.int .i64 o, .int .i64 s]).below (alloc_below _ (.cells #[.int .i64 p, .int .i64 q] 34)))
  have B2 := Lib.hid (Bx.new 34 (w.alloc (.cells #[.int .i64 o, .int .i64 s] 34)) #[.int .i64 p, .int .i64 q])
  obtain ⟨os0, h0⟩ := grow_two w (.cells #[.int .i64 o, .int .i64 s] 34) (.cells #[.int .i64 p, .int .i64 q] 34)
  have H0 := Lib.hid h0
  clear h0
  unfold cmpK
  generalize kLt (o, s) (p, q) = L at C1 ⊢
  generalize kLt (p, q) (o, s) = M at C2 ⊢
  cases L with
  | true =>
    go_enter Try.func35, Try.ntmps35
    go_wp2_with fail
    refine (C1.out _).mono ?_
    rintro e w1 ⟨rfl, os, rfl⟩
    clear C1 C2
    go_wp2
    go_ret
    exact ⟨by simp, _, by rw [H0.out, grow_grow]⟩
  | false =>
    go_enter Try.func35, Try.ntmps35
    go_wp2_with fail
    refine (C1.out _).mono ?_
    rintro e w1 ⟨rfl, os, hw1⟩
    have b1 := Lib.hid (B1.out.below (w' := w1) (by rw [hw1]; exact below_grow _ _))
    have b2 := Lib.hid (B2.out.below (w' := w1) (by rw [hw1]; exact below_grow _ _))
    have x0 := b1.out.cell 0
    have x1 := b1.out.cell 1
    have y0 := b2.out.cell 0
    have y1 := b2.out.cell 1
    simp only [List.getElem?_toArray, List.getElem?_cons_succ, List.getElem?_cons_zero, World.size_alloc] at x0 x1 y0 y1
    have hl := b1.out.lt
    have hl2 : w.heap.size + 1 < w1.heap.size := by simpa using b2.out.lt
    have HW := Lib.hid hw1
    clear hw1 C1
    cases M with
    | true =>
      go_wp2_with fail
      refine (C2.out _).mono ?_
      rintro e w2 ⟨rfl, os2, hw2⟩
      have HW2 := Lib.hid hw2
      clear hw2 C2
      go_wp2
      go_ret
      exact ⟨by simp, _, by rw [HW2.out, HW.out, H0.out, grow_grow, grow_grow]⟩
    | false =>
      go_wp2_with fail
      refine (C2.out _).mono ?_
      rintro e w2 ⟨rfl, os2, hw2⟩
      have HW2 := Lib.hid hw2
      clear hw2 C2
      go_wp2
      go_ret
      exact ⟨by simp, _, by rw [HW2.out, HW.out, H0.out, grow_grow, grow_grow]⟩
theorem compare_c (a b : Ky) (w : World) : Calls Try.prog 35 #[.agg #[.int .i64 a.1, .int .i64 a.2], .agg #[.int .i64 b.1, .int .i64 b.2]] w fun e w' => e = .returned (.int .i64 (cmpK a b)) ∧ Below w.heap.size w w' :=
  (compare_g a.1 a.2 b.1 b.2 w).mono fun e w' ⟨he, os, hw⟩ => ⟨he, by rw [hw]; exact below_grow _ _⟩
end Go.Proofs.Ytpepbofhhpmkfaa
