/-
  Before, Less, compare of records, of the program and of chapter 4's own answer, and the law's one, by contract.
-/
import Derived.Test.YtchkadifjbmmpaaDoorWRecMay
namespace Go.Proofs.YtchkadifjbmmpaaDoor.R
open Go.RowKit Go.Lib
set_option maxRecDepth 100000
set_option maxHeartbeats 2000000 in
theorem refbefore_c (o s p q : Int) (w : World) : Calls Tryd.prog 63 #[.agg #[.int .i64 o, .int .i64 s], .agg #[.int .i64 p, .int .i64 q]] w fun e w' => e = .returned (.bool (befB o s p q)) ∧ Below w.heap.size w w' := by
  by_cases h : o < p
  · have e0 : decide (o < p) = true := by simpa using h
    have hl : befB o s p q = true := by simp [befB, h]
    rw [hl]
    clear hl
    go_enter Tryd.func63, Tryd.ntmps63
    go_wp2
    go_ret
    exact ⟨by simp, below_two _ _ _⟩
  · have e0 : decide (o < p) = false := by simpa using h
    by_cases h2 : o = p
    · subst h2
      have e1 : (o == o) = true := by simp
      have hl : befB o s o q = decide (s < q) := by simp [befB]
      rw [hl]
      clear hl h
      generalize hC : decide (s < q) = C
      go_enter Tryd.func63, Tryd.ntmps63
      go_wp2
      go_ret
      exact ⟨by simp, below_two _ _ _⟩
    · have e1 : (o == p) = false := by simpa using h2
      have hl : befB o s p q = false := by simp [befB, h, h2]
      rw [hl]
      clear hl
      go_enter Tryd.func63, Tryd.ntmps63
      go_wp2
      go_ret
      exact ⟨by simp, below_two _ _ _⟩

def cmpR (a b : Rc) : Int := if lessR a b then -1 else if lessR b a then 1 else 0
end Go.Proofs.YtchkadifjbmmpaaDoor.R
