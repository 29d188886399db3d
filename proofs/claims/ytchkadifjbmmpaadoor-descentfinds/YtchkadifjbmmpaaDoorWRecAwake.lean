/-
  awake answers true.
-/
import Derived.Test.YtchkadifjbmmpaaDoorWRecMath
namespace Go.Proofs.YtchkadifjbmmpaaDoor.R
open Go.RowKit Go.Lib
set_option maxRecDepth 100000

/-- A list of bytes that has just been laid. -/
theorem lit13 (w : World) (B : Nat) (hB : B = w.heap.size) : Bl (w.alloc (.cells #[.int .u8 0, .int .u8 0, .int .u8 1, .int .u8 0, .int .u8 0, .int .u8 0, .int .u8 0, .int .u8 0, .int .u8 7, .int .u8 0, .int .u8 0, .int .u8 1, .int .u8 97] 5)) (.slice (some ⟨B, 0, none⟩) 13 13) [0, 0, 1, 0, 0, 0, 0, 0, 7, 0, 0, 1, 97] := by
  subst hB
  refine .inr ⟨_, 13, rfl, fun _ => ⟨w.heap.size, 0, rfl, fun k hk => ?_⟩⟩
  rw [Nat.zero_add, cell_of_row _ w.heap.size k _ _ _ (heap_alloc_new w _)]
  have hk2 : k < 13 := hk
  match k, hk2 with
  | 0, _ => rfl
  | 1, _ => rfl
  | 2, _ => rfl
  | 3, _ => rfl
  | 4, _ => rfl
  | 5, _ => rfl
  | 6, _ => rfl
  | 7, _ => rfl
  | 8, _ => rfl
  | 9, _ => rfl
  | 10, _ => rfl
  | 11, _ => rfl
  | 12, _ => rfl
/-- A row of one byte that has just been laid. -/
theorem row_one (w : World) (x : Int) (B : Nat) (hB : B ≤ w.heap.size) : BRow (w.alloc (.cells #[.int .u8 x] 5)) B (.slice (some ⟨w.heap.size, 0, none⟩) 1 1) [x] :=
  ⟨rfl, .inr ⟨w.heap.size, 1, #[.int .u8 x], rfl, hB, heap_alloc_new w _, Nat.le_refl _, by decide, rfl, rfl⟩⟩

theorem one_read : atOk (9 :: layL oneR) 1 = true ∧ rdR ((9 :: layL oneR).drop (1 : Int).toNat) = oneR ∧ hdN ((9 :: layL oneR).drop (1 : Int).toNat) = 1 := by
  have h := lay_at oneR [9] [] one_may
  rw [List.append_nil] at h
  exact h
theorem nine_ok : OkB (9 :: layL oneR) := fun x hx => by
  rw [List.mem_cons] at hx
  rcases hx with rfl | hx
  · decide
  · exact layL_ok _ x hx

theorem lay_one (w : World) (hT : Tabs w) : Calls Tryd.prog 45 #[.agg #[.int .i64 0, .int .i64 1, .int .i64 7, .int .i64 0, .string ⟨#[97]⟩]] w fun e w' => ∃ g cap, e = .returned (.tuple #[.slice (some ⟨g, 0, none⟩) 13 cap, .int .i64 0]) ∧ Byts w' g 0 (layL oneR) ∧ Below w.heap.size w w' := by
  refine (lay_c oneR w (by decide) hT).mono ?_
  rintro e w2 ⟨v2, rfl, h2, b2⟩
  rw [one_may] at h2
  simp only [if_true] at h2
  obtain ⟨g2, cap2, rfl, _, _⟩ := h2.form (by rw [layL_len]; omega)
  refine ⟨g2, cap2, by rw [one_may, layL_len]; rfl, fun k hk => ?_, b2⟩
  rw [Nat.zero_add]
  exact h2.at k hk
theorem read_one (w : World) (v : Value) (h : BlC w v (9 :: layL oneR)) (hT : Tabs w) : Calls Tryd.prog 56 #[v, .int .i64 1] w fun e w' => e = .returned (.tuple #[.agg #[.int .i64 0, .int .i64 1, .int .i64 7, .int .i64 0, .string ⟨#[97]⟩], .int .i64 14, .bool true]) ∧ Below w.heap.size w w' := by
  refine (read_c _ v 1 w h nine_ok (by rw [List.length_cons, layL_len]; decide) (by omega) hT).mono ?_
  intro e w' h2
  unfold readT at h2
  rw [one_read.1, if_pos rfl, one_read.2.1, one_read.2.2] at h2
  exact h2
theorem may_one (w : World) (hT : Tabs w) : Calls Tryd.prog 64 #[.agg #[.int .i64 0, .int .i64 1, .int .i64 7, .int .i64 0, .string ⟨#[97]⟩]] w fun e w' => e = .returned (.bool true) ∧ Below w.heap.size w w' := by
  have h := may_c oneR w (by decide) hT
  rw [one_may] at h
  exact h
theorem same_one (w : World) : Calls Tryd.prog 82 #[.agg #[.int .i64 0, .int .i64 1, .int .i64 7, .int .i64 0, .string ⟨#[97]⟩], .agg #[.int .i64 0, .int .i64 1, .int .i64 7, .int .i64 0, .string ⟨#[97]⟩]] w fun e w' => e = .returned (.bool true) ∧ Below w.heap.size w w' := by
  have h := same_c oneR oneR w
  rw [same_self] at h
  exact h
theorem eq_one (w : World) : (Op.equalIn 10000 36 (.agg #[.int .i64 0, .int .i64 1, .int .i64 7, .int .i64 0, .string ⟨#[97]⟩]) (.agg #[.int .i64 0, .int .i64 1, .int .i64 7, .int .i64 0, .string ⟨#[97]⟩])).run Tryd.prog w = .ok true w := by
  have h := eq_rec oneR oneR w
  rw [same_self] at h
  exact h
end Go.Proofs.YtchkadifjbmmpaaDoor.R
