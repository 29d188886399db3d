/-
  RecordOrder, as a call: great ones; what is counted.
-/
import Derived.Test.YtkmcieiglhdjeaaDoorVRecSortL
import Derived.Test.YtkmcieiglhdjeaaDoorVRecGreat
namespace Go.Proofs.YtkmcieiglhdjeaaDoor
open Go.RowKit Go.Lib

/-- Three records that have just been laid. -/
theorem rl_three (w : World) (B : Nat) (hB : B = w.heap.size) (a b c : Rc) : Rl (w.alloc (.cells #[.int .i64 a.o, .int .i64 a.s, .int .i64 a.w, .int .i64 a.c, .string a.t, .int .i64 b.o, .int .i64 b.s, .int .i64 b.w, .int .i64 b.c, .string b.t, .int .i64 c.o, .int .i64 c.s, .int .i64 c.w, .int .i64 c.c, .string c.t] 27)) (.slice (some ⟨B, 0, none⟩) 3 3) [a, b, c] := by
  subst hB
  have h : ∀ k, (w.alloc (.cells #[.int .i64 a.o, .int .i64 a.s, .int .i64 a.w, .int .i64 a.c, .string a.t, .int .i64 b.o, .int .i64 b.s, .int .i64 b.w, .int .i64 b.c, .string b.t, .int .i64 c.o, .int .i64 c.s, .int .i64 c.w, .int .i64 c.c, .string c.t] 27)).cell? ⟨w.heap.size, k, none⟩ = #[.int .i64 a.o, .int .i64 a.s, .int .i64 a.w, .int .i64 a.c, .string a.t, .int .i64 b.o, .int .i64 b.s, .int .i64 b.w, .int .i64 b.c, .string b.t, .int .i64 c.o, .int .i64 c.s, .int .i64 c.w, .int .i64 c.c, .string c.t][k]? := fun k => cell_of_row _ w.heap.size k _ _ _ (heap_alloc_new w _)
  refine .inr ⟨_, 3, rfl, Nat.le_refl _, fun _ => ⟨w.heap.size, 0, rfl, fun k hk => ?_⟩⟩
  have hk2 : k < 3 := hk
  match k, hk2 with
  | 0, _ => exact ⟨h 0, h 1, h 2, h 3, h 4⟩
  | 1, _ => exact ⟨h 5, h 6, h 7, h 8, h 9⟩
  | 2, _ => exact ⟨h 10, h 11, h 12, h 13, h 14⟩

def cp (S : Rc) (l : List Rc) : Nat := l.countP (fun x => sameR x S)
theorem cp_step (S : Rc) (l : List Rc) (k : Nat) (hk : k < l.length) : (cp S (l.take (k + 1)) : Int) = (cp S (l.take k) : Int) + (if sameR l[k] S then 1 else 0) := by
  unfold cp
  rw [List.take_succ_eq_append_getElem hk, List.countP_append]
  rw [Int.natCast_add]
  congr 1
  rw [List.countP_singleton]
  cases sameR l[k] S <;> rfl
theorem cp_le (S : Rc) (l : List Rc) (k : Nat) : cp S (l.take k) ≤ k := by
  unfold cp
  exact Nat.le_trans (List.countP_le_length) (by rw [List.length_take]; omega)
theorem cp_cls {S : Rc} {l l' : List Rc} (h : Cls l l') : cp S l' = cp S l := by
  have e : ∀ m : List Rc, cp S m = (m.filter (eqB S)).countP (fun x => sameR x S) := fun m => by
    unfold cp
    rw [List.countP_filter]
    apply List.countP_congr
    intro x _
    constructor
    · intro h1
      rw [h1, (sameR_iff x S).1 h1, eqB_self]
      rfl
    · intro h1
      simp only [Bool.and_eq_true] at h1
      exact h1.1
  rw [e l', e l, h S]

set_option maxHeartbeats 8000000 in
set_option maxRecDepth 100000 in
theorem order_great (a b c : Rc) (l : List Rc) (v : Value) (w : World) (hT : Tabs w) (h : Rl w v l) (hl : l.length ≤ maxLen) (hg : greatB [a, b, c] 3 = true ∨ (greatB [a, b, c] 3 = false ∧ greatB l 30 = true)) :
    Calls Tryd.prog 4 #[.agg #[.int .i64 a.o, .int .i64 a.s, .int .i64 a.w, .int .i64 a.c, .string a.t], .agg #[.int .i64 b.o, .int .i64 b.s, .int .i64 b.w, .int .i64 b.c, .string b.t], .agg #[.int .i64 c.o, .int .i64 c.s, .int .i64 c.w, .int .i64 c.c, .string c.t], v] w fun e w' => e = .returned (.bool true) ∧ Below w.heap.size w w' := by
  have HT := Lib.hid hT
  have HV := Lib.hid h
  obtain ⟨ad, cap, rfl, _⟩ := h.form
  have HG1 := Lib.hid (fun (W : World) (B : Nat) (hB : B = W.heap.size) => great_c [a, b, c] _ 3 _ (rl_three W B hB a b c) (by decide) (by unfold maxLen; simp))
  have HG2 := Lib.hid (fun W (hb : Below w.heap.size w W) => great_c l _ 30 W (HV.out.below hb) (by decide) hl)
  have B3 : Hid (Below w.heap.size w (((w.alloc (.cells #[.int .i64 a.o, .int .i64 a.s, .int .i64 a.w, .int .i64 a.c, .string a.t] 27)).alloc (.cells #[.int .i64 b.o, .int .i64 b.s, .int .i64 b.w, .int .i64 b.c, .string b.t] 27)).alloc (.cells #[.int .i64 c.o, .int .i64 c.s, .int .i64 c.w, .int .i64 c.c, .string c.t] 27))) := Lib.hid (bn (below_two _ _ _) (alloc_below _ _))
  clear h hT
  rcases hg with hg | ⟨hg, hg2⟩
  · rw [hg] at HG1
    go_enter Tryd.func4, Tryd.ntmps4
    go_wp2_with fail
    refine (HG1.out _ _ (by simp)).mono ?_
    rintro e w1 ⟨rfl, b1⟩
    have B1 := Lib.hid (bn (bn B3.out (alloc_below _ _)) b1)
    clear b1
    go_wp2_with fail
    refine (awake_c w1 (HT.out.below B1.out)).mono ?_
    rintro e w2 ⟨rfl, b2⟩
    go_wp2
    go_ret
    exact ⟨rfl, bn B1.out b2⟩
  · rw [hg] at HG1
    rw [hg2] at HG2
    go_enter Tryd.func4, Tryd.ntmps4
    go_wp2_with fail
    refine (HG1.out _ _ (by simp)).mono ?_
    rintro e w1 ⟨rfl, b1⟩
    have B1 := Lib.hid (bn (bn B3.out (alloc_below _ _)) b1)
    clear b1
    go_wp2_with fail
    refine (HG2.out _ B1.out).mono ?_
    rintro e w2 ⟨rfl, b2⟩
    have B2 := Lib.hid (bn B1.out b2)
    clear b2
    go_wp2_with fail
    refine (awake_c w2 (HT.out.below B2.out)).mono ?_
    rintro e w3 ⟨rfl, b3⟩
    go_wp2
    go_ret
    exact ⟨rfl, bn B2.out b3⟩

theorem order_facts (a b : Rc) : ¬ (lessR a b = true ∧ lessR b a = true) ∧ (lessR a b || lessR b a) = !((a.o == b.o && a.s == b.s) && (a.w == b.w && a.c == b.c)) := by
  constructor
  · rintro ⟨h1, h2⟩
    rw [less_iff] at h1 h2
    omega
  · cases h1 : lessR a b <;> cases h2 : lessR b a
    · have k1 := (less_no a b).1 h1
      have k2 := (less_no b a).1 h2
      have e : (a.o = b.o ∧ a.s = b.s) ∧ (a.w = b.w ∧ a.c = b.c) := by omega
      simp [e]
    · have k2 := (less_iff b a).1 h2
      have e : ¬ ((a.o = b.o ∧ a.s = b.s) ∧ (a.w = b.w ∧ a.c = b.c)) := by omega
      cases hk : ((a.o == b.o && a.s == b.s) && (a.w == b.w && a.c == b.c))
      · rfl
      · simp at hk; exact absurd ⟨hk.1, hk.2⟩ e
    · have k1 := (less_iff a b).1 h1
      have e : ¬ ((a.o = b.o ∧ a.s = b.s) ∧ (a.w = b.w ∧ a.c = b.c)) := by omega
      cases hk : ((a.o == b.o && a.s == b.s) && (a.w == b.w && a.c == b.c))
      · rfl
      · simp at hk; exact absurd ⟨hk.1, hk.2⟩ e
    · have k1 := (less_iff a b).1 h1
      have k2 := (less_iff b a).1 h2
      omega
theorem less_three {a b c : Rc} (h1 : lessR a b = true) (h2 : lessR b c = true) : lessR a c = true := less_of_less_le h1 (le_of_less h2)
end Go.Proofs.YtkmcieiglhdjeaaDoor
