/-
  A tree's box: its map, and the digests of all ranges.
-/
import Derived.Test.YtchkadifjbmmpaaDoorWDigAll
import Derived.Test.YtchkadifjbmmpaaDoorMpBase
namespace Go.Proofs.YtchkadifjbmmpaaDoor
open Go.RowKit Go.Lib Go.Maps
set_option maxRecDepth 100000

/-- Nothing but zeros of u64. -/
noncomputable def zeroB : List Value → Bool
  | [] => true
  | .int .u64 n :: r => (n == 0) && zeroB r
  | _ :: _ => false
theorem zeroB_at : ∀ (l : List Value), zeroB l = true → ∀ k, k < l.length → l[k]? = some (.int .u64 0)
  | [], _, k, hk => by simp at hk
  | v :: r, h, k, hk => by
    cases v with
    | int kd n =>
      cases kd with
      | u64 =>
        simp only [zeroB, Bool.and_eq_true, beq_iff_eq] at h
        obtain ⟨rfl, h2⟩ := h
        cases k with
        | zero => rfl
        | succ k =>
          rw [List.getElem?_cons_succ]
          exact zeroB_at r h2 k (by simpa using hk)
      | _ => simp [zeroB] at h
    | _ => simp [zeroB] at h
theorem zero_cells : (Tryd.zeroCells87.size == 10921 && zeroB Tryd.zeroCells87.toList.tail) = true := by kernel_rfl
/-- The cells of a tree without records. -/
theorem tree_cells (b : Nat) : (Tryd.zeroCells87.setIfInBounds 0 (.map (some b))).size = 10921 ∧ (Tryd.zeroCells87.setIfInBounds 0 (.map (some b)))[0]? = some (.map (some b)) ∧ ∀ k, k < 10920 → (Tryd.zeroCells87.setIfInBounds 0 (.map (some b)))[k + 1]? = some (.int .u64 0) := by
  have h := zero_cells
  simp only [Bool.and_eq_true, beq_iff_eq] at h
  obtain ⟨h2, h3⟩ := h
  generalize Tryd.zeroCells87 = cs at *
  obtain ⟨l⟩ := cs
  simp only at h2 h3
  cases l with
  | nil => simp at h2
  | cons v r =>
    simp only [List.tail_cons] at h3
    refine ⟨by simpa using h2, by simp, fun k hk => ?_⟩
    have := zeroB_at r h3 k (by simp at h2; omega)
    simpa using this
/-- A tree's box: its map mv, and F, the digest of each origin's ranges by their places. -/
def TB (w : World) (p : Nat) (mv : Option Nat) (F : Nat → Nat → Int) : Prop :=
  ∃ cs, w.heap[p]? = some (.cells cs 87 (0, 0)) ∧ cs.size = 10921 ∧ cs[0]? = some (.map mv) ∧ ∀ o a, o < 8 → a < 1365 → cs[1 + 1365 * o + a]? = some (.int .u64 (F o a))
theorem TB.lt {w : World} {p : Nat} {mv : Option Nat} {F : Nat → Nat → Int} (h : TB w p mv F) : p < w.heap.size := by
  obtain ⟨cs, h1, _⟩ := h
  exact (Array.getElem?_eq_some_iff.1 h1).1
theorem TB.of_block {w w' : World} {p : Nat} {mv : Option Nat} {F : Nat → Nat → Int} (h : TB w p mv F) (hb : w'.heap[p]? = w.heap[p]?) : TB w' p mv F := by
  obtain ⟨cs, h1, h2⟩ := h
  exact ⟨cs, hb.trans h1, h2⟩
theorem TB.below {w w' : World} {p : Nat} {mv : Option Nat} {F : Nat → Nat → Int} (h : TB w p mv F) (hb : Below w.heap.size w w') : TB w' p mv F := h.of_block (hb.block p h.lt)
theorem cell_cells {w : World} {p : Nat} {cs : Array Value} {T : TypeId} (h : w.heap[p]? = some (.cells cs T (0, 0))) (k : Nat) : w.cell? ⟨p, k, none⟩ = cs[k]? := cell_of_row w p k _ _ _ h
theorem TB.map {w : World} {p : Nat} {mv : Option Nat} {F : Nat → Nat → Int} (h : TB w p mv F) : w.cell? ⟨p, 0, none⟩ = some (.map mv) := by
  obtain ⟨cs, h1, h2, h3, h4⟩ := h
  rw [cell_cells h1]
  exact h3
theorem TB.at {w : World} {p : Nat} {mv : Option Nat} {F : Nat → Nat → Int} (h : TB w p mv F) {o a : Nat} (ho : o < 8) (ha : a < 1365) : w.cell? ⟨p, 1 + 1365 * o + a, none⟩ = some (.int .u64 (F o a)) := by
  obtain ⟨cs, h1, h2, h3, h4⟩ := h
  rw [cell_cells h1]
  exact h4 o a ho ha
theorem TB.soft {w : World} {p : Nat} {mv : Option Nat} {F : Nat → Nat → Int} (h : TB w p mv F) (k : Nat) : w.frozen? ⟨p, k, none⟩ = false := by
  obtain ⟨cs, h1, _⟩ := h
  simp [World.frozen?, h1]
def updF (F : Nat → Nat → Int) (o a : Nat) (d : Int) : Nat → Nat → Int := fun o' a' => if o' = o ∧ a' = a then d else F o' a'
theorem TB.set {w : World} {p : Nat} {mv : Option Nat} {F : Nat → Nat → Int} (h : TB w p mv F) {o a : Nat} (ho : o < 8) (ha : a < 1365) (d : Int) : TB (w.setCell ⟨p, 1 + 1365 * o + a, none⟩ (.int .u64 d)) p mv (updF F o a d) := by
  obtain ⟨cs, h1, h2, h3, h4⟩ := h
  refine ⟨cs.setIfInBounds (1 + 1365 * o + a) (.int .u64 d), by simp [World.setCell, Array.getElem?_modify, h1], by simpa using h2, ?_, fun o' a' ho' ha' => ?_⟩
  · rw [Array.getElem?_setIfInBounds_ne (by omega)]
    exact h3
  · unfold updF
    by_cases e : o' = o ∧ a' = a
    · obtain ⟨rfl, rfl⟩ := e
      rw [if_pos ⟨rfl, rfl⟩, Array.getElem?_setIfInBounds_self, if_pos (by omega)]
    · rw [if_neg e, Array.getElem?_setIfInBounds_ne (by omega)]
      exact h4 o' a' ho' ha'
end Go.Proofs.YtchkadifjbmmpaaDoor
