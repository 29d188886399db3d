/-
  What two rising lists share, pair by pair: the iterator of the program (numbers), by contract.
-/
import Derived.Test.YtgdajnjfkokmdaaPstCmp
import Derived.RangeFuncNested
import Derived.RangeFuncBound
import Derived.RangeFuncCalls
import Derived.RangeFuncLeaves
import Derived.Shelf.Abstract
import Derived.Shelf.RegionOpen
import Derived.Shelf.RegionOpenPlain
import Derived.WalkKit
import Derived.OwnWalkIn
import Derived.TacticsInMore
import Derived.LoopNIn
import Derived.LoopIn
import Derived.Sort.QuietThIn
import Derived.Shelf.SlSortCmp.QuietGrown
namespace Go.Proofs.Ytgdajnjfkokmdaa
open Go.RowKit Go.Lib Go.Sort Go.Shelf
set_option maxRecDepth 100000

attribute [local go_sem] Oper.semAt_some Oper.quietIn Oper.quietAtIn Oper.quietUponIn

/-- The pairs that two rising lists have in common, by a comparison. -/
def prs {α β : Type} (c : α → β → Int) : List α → List β → List (α × β)
  | [], _ => []
  | _ :: _, [] => []
  | x :: l, y :: m => if c x y = 0 then (x, y) :: prs c l m else if c x y < 0 then prs c l (y :: m) else prs c (x :: l) m
termination_by l m => l.length + m.length
theorem prs_nil {α β : Type} (c : α → β → Int) (m : List β) : prs c [] m = [] := by rw [prs]
theorem prs_nil2 {α β : Type} (c : α → β → Int) (l : List α) : prs c l [] = [] := by cases l <;> rw [prs]
theorem prs_cons {α β : Type} (c : α → β → Int) (x : α) (y : β) (l : List α) (m : List β) :
    prs c (x :: l) (y :: m) = if c x y = 0 then (x, y) :: prs c l m else if c x y < 0 then prs c l (y :: m) else prs c (x :: l) m := by rw [prs]
theorem prs_len {α β : Type} (c : α → β → Int) : ∀ (l : List α) (m : List β), (prs c l m).length ≤ l.length
  | [], m => by rw [prs_nil]; simp
  | x :: l, [] => by rw [prs_nil2]; simp
  | x :: l, y :: m => by
    rw [prs_cons]
    split
    · have := prs_len c l m
      simp only [List.length_cons]; omega
    · split
      · have := prs_len c l (y :: m)
        simp only [List.length_cons]; omega
      · exact prs_len c (x :: l) m
termination_by l m => l.length + m.length
theorem prs_mem {α β : Type} (c : α → β → Int) : ∀ (l : List α) (m : List β), ∀ z ∈ prs c l m, z.1 ∈ l ∧ z.2 ∈ m ∧ c z.1 z.2 = 0
  | [], m => by rw [prs_nil]; intro z hz; cases hz
  | x :: l, [] => by rw [prs_nil2]; intro z hz; cases hz
  | x :: l, y :: m => by
    rw [prs_cons]
    intro z hz
    split at hz
    · rename_i h
      rcases List.mem_cons.1 hz with rfl | hz
      · exact ⟨by simp, by simp, h⟩
      · have := prs_mem c l m z hz
        exact ⟨List.mem_cons_of_mem _ this.1, List.mem_cons_of_mem _ this.2.1, this.2.2⟩
    · split at hz
      · have := prs_mem c l (y :: m) z hz
        exact ⟨List.mem_cons_of_mem _ this.1, this.2⟩
      · have := prs_mem c (x :: l) m z hz
        exact ⟨this.1, List.mem_cons_of_mem _ this.2.1, this.2.2⟩
termination_by l m => l.length + m.length
def cmpI (a b : Int) : Int := if a < b then -1 else if b < a then 1 else 0
theorem cmpI_zero {a b : Int} : cmpI a b = 0 ↔ a = b := by
  unfold cmpI
  constructor
  · intro h
    split at h
    · cases h
    · split at h
      · cases h
      · omega
  · rintro rfl
    simp
theorem cmpI_neg {a b : Int} : cmpI a b < 0 ↔ a < b := by
  unfold cmpI
  constructor
  · intro h
    split at h
    · assumption
    · split at h <;> simp at h
  · intro h
    simp [h]
set_option maxHeartbeats 2000000 in
theorem cmp_c (a b : Int) (w : World) : Calls Try.prog 55 #[.int .i64 a, .int .i64 b] w fun e w' => e = .returned (.int .i64 (cmpI a b)) ∧ w = w' := by
  have e0 : (a != a) = false := by simp
  have e1 : (b != b) = false := by simp
  unfold cmpI
  by_cases h : a < b
  · rw [if_pos h]
    go_enter Try.func55, Try.ntmps55
    go_wp2
    go_ret
    exact ⟨rfl, rfl⟩
  · rw [if_neg h]
    by_cases h2 : b < a
    · rw [if_pos h2]
      go_enter Try.func55, Try.ntmps55
      go_wp2
      go_ret
      exact ⟨rfl, rfl⟩
    · rw [if_neg h2]
      go_enter Try.func55, Try.ntmps55
      go_wp2
      go_ret
      exact ⟨rfl, rfl⟩
set_option maxHeartbeats 2000000 in
theorem fol_c (x y on : Int) (B : Nat) (w : World) (hB : w.cell? ⟨B, 0, none⟩ = some (.int .i64 on)) :
    Calls Try.prog 54 #[.int .i64 x, .int .i64 y, .pointer (some ⟨B, 0, none⟩)] w fun e w' => e = .returned (.int .i64 (cmpI x (wrap64 (y - on)))) ∧ w = w' := by
  have C := Lib.hid (fun b W => cmp_c x b W)
  go_enter Try.func54, Try.ntmps54
  go_wp2_with fail
  refine (C.out _ _).mono ?_
  rintro e w2 ⟨rfl, rfl⟩
  go_wp2
  go_ret
  exact ⟨by first | rfl | simp, rfl⟩
end Go.Proofs.Ytgdajnjfkokmdaa
