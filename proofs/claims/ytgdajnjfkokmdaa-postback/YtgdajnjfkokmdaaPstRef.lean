/-
  Before, one, at, find, of chapter 10's own answer, by contract.
-/
import Derived.Test.YtgdajnjfkokmdaaPstMem
namespace Go.Proofs.Ytgdajnjfkokmdaa
open Go.RowKit Go.Lib

theorem kLt_eq (o s p q : Int) : kLt (o, s) (p, q) = (decide (o < p) || (o == p && decide (s < q))) := rfl
theorem refbefore_c (o s p q : Int) (w : World) : Calls Try.prog 28 #[.agg #[.int .i64 o, .int .i64 s], .agg #[.int .i64 p, .int .i64 q]] w fun e w' => e = .returned (.bool (kLt (o, s) (p, q))) ∧ Below w.heap.size w w' := by
  by_cases h : o < p
  · have e0 : decide (o < p) = true := by simpa using h
    have hl : kLt (o, s) (p, q) = true := by simp [kLt, h]
    rw [hl]
    clear hl
    go_enter Try.func28, Try.ntmps28
    go_wp2
    go_ret
    exact ⟨by simp, below_two _ _ _⟩
  · have e0 : decide (o < p) = false := by simpa using h
    by_cases h2 : o = p
    · subst h2
      have e1 : (o == o) = true := by simp
      have hl : kLt (o, s) (o, q) = decide (s < q) := by simp [kLt]
      rw [hl]
      clear hl h
      generalize hC : decide (s < q) = C
      go_enter Try.func28, Try.ntmps28
      go_wp2
      go_ret
      exact ⟨by simp, below_two _ _ _⟩
    · have e1 : (o == p) = false := by simpa using h2
      have hl : kLt (o, s) (p, q) = false := by simp [kLt, h, h2]
      rw [hl]
      clear hl
      go_enter Try.func28, Try.ntmps28
      go_wp2
      go_ret
      exact ⟨by simp, below_two _ _ _⟩
def inL (l : List Int) (n : Int) : Bool := l.contains n
theorem inL_nil (n : Int) : inL [] n = false := rfl
theorem inL_cons (a : Int) (l : List Int) (n : Int) : inL (a :: l) n = (n == a || inL l n) := rfl
theorem at_c (l : List Int) (n : Int) (v : Value) (w : World) (h : Nl w v l) (hn : l.length ≤ 1000000) :
    Calls Try.prog 42 #[v, .int .i64 n] w fun e w' => e = .returned (.bool (inL l n)) ∧ w = w' := by
  obtain ⟨ad, cap, rfl, k1⟩ := h.form
  have H1 := Lib.hid k1
  clear h k1
  go_enter Try.func42, Try.ntmps42
  go_wp2
  go_loopw [5] (fun v5 wr => ∃ k : Nat, k ≤ l.length ∧ v5 = .int .i64 (k : Int) ∧ w = wr ∧ Hid (inL (l.drop k) n = inL l n)) (fun v5 _ => l.length - (intOf v5).toNat)
  case atStart => exact ⟨0, by omega, rfl, rfl, Lib.hid rfl⟩
  case round =>
    obtain ⟨k, hk, rfl, rfl, hs⟩ := hrel
    by_cases hp : k < l.length
    · obtain ⟨g1, o1, rfl, c1⟩ := H1.out (by omega)
      have c11 := c1 k hp
      have hs' := hs.out
      have hgl := World.block_lt_of_cell? w _ c11
      rw [List.drop_eq_getElem_cons hp, inL_cons] at hs'
      have HP := Lib.hid hp
      clear c1 hs
      generalize l[k] = y at c11 hs'
      cases hy : (y == n) with
      | true =>
        have hy' : (n == y) = true := by rw [beq_iff_eq] at *; exact hy.symm
        rw [hy', Bool.true_or] at hs'
        have HS := Lib.hid hs'
        clear hs' hy'
        go_wp2
        go_ret
        exact ⟨by rw [← HS.out]; rfl, rfl⟩
      | false =>
        have hy' : (n == y) = false := by rw [beq_eq_false_iff_ne] at *; exact fun e => hy e.symm
        rw [hy', Bool.false_or] at hs'
        have HS := Lib.hid hs'
        clear hs' hy'
        go_wp2
        go_roundw
        case rel => exact ⟨k + 1, HP.out, by go_num, by first | rfl | trivial, HS⟩
        case measure => have := HP.out; simp [intOf]; omega
    · have hs' := hs.out
      rw [List.drop_of_length_le (by omega), inL_nil] at hs'
      have HS := Lib.hid hs'
      clear hs hs'
      go_wp2
      go_ret
      exact ⟨by rw [← HS.out]; rfl, rfl⟩
end Go.Proofs.Ytgdajnjfkokmdaa
