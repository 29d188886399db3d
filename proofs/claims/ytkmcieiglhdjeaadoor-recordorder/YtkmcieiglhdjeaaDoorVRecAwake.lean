/-
  awake answers true.
-/
import Derived.Test.YtkmcieiglhdjeaaDoorVRecMath
namespace Go.Proofs.YtkmcieiglhdjeaaDoor
open Go.RowKit Go.Lib

/-- A list of bytes that has just been laid. -/
theorem lit13 (w : World) (B : Nat) (hB : B = w.heap.size) : Bl (w.alloc (.cells #[.int .u8 0, .int .u8 0, .int .u8 1, .int .u8 0, .int .u8 0, .int .u8 0, .int .u8 0, .int .u8 0, .int .u8 7, .int .u8 0, .int .u8 0, .int .u8 1, .int .u8 97] 5)) (.slice (some ⟨B, 0, none⟩) 13 13) [0, 0, 1, 0, 0, 0, 0, 0, 7, 0, 0, 1, 97] := by
  subst hB
  refine .inr ⟨_, 13, rfl, fun _ => ⟨w.heap.size, 0, rfl, fun k hk => ?_⟩⟩
  rw [Nat.zero_add, cell_of_row _ w.heap.size k _ _ _ (heap_alloc_new w _)]
  have hk2 : k < 13 := hk
  match k, hk2 with
  | 0, _ => rfl
  | 1, _ => rfl
  | 2, _ => rfl
  | 3, _ => rfl
  | 4, _ => rfl
  | 5, _ => rfl
  | 6, _ => rfl
  | 7, _ => rfl
  | 8, _ => rfl
  | 9, _ => rfl
  | 10, _ => rfl
  | 11, _ => rfl
  | 12, _ => rfl
/-- A row of one byte that has just been laid. -/
theorem row_one (w : World) (x : Int) (B : Nat) (hB : B ≤ w.heap.size) : BRow (w.alloc (.cells #[.int .u8 x] 5)) B (.slice (some ⟨w.heap.size, 0, none⟩) 1 1) [x] :=
  ⟨rfl, .inr ⟨w.heap.size, 1, #[.int .u8 x], rfl, hB, heap_alloc_new w _, Nat.le_refl _, by decide, rfl, rfl⟩⟩

theorem one_read : atOk (9 :: layL oneR) 1 = true ∧ rdR ((9 :: layL oneR).drop (1 : Int).toNat) = oneR ∧ hdN ((9 :: layL oneR).drop (1 : Int).toNat) = 1 := by
  have h := lay_at oneR [9] [] one_may
  rw [List.append_nil] at h
  exact h
theorem nine_ok : OkB (9 :: layL oneR) := fun x hx => by
  rw [List.mem_cons] at hx
  rcases hx with rfl | hx
  · decide
  · exact layL_ok _ x hx

theorem lay_one (w : World) (hT : Tabs w) : Calls Tryd.prog 21 #[.agg #[.int .i64 0, .int .i64 1, .int .i64 7, .int .i64 0, .string ⟨#[97]⟩]] w fun e w' => ∃ g cap, e = .returned (.tuple #[.slice (some ⟨g, 0, none⟩) 13 cap, .int .i64 0]) ∧ Byts w' g 0 (layL oneR) ∧ Below w.heap.size w w' := by
  refine (lay_c oneR w (by decide) hT).mono ?_
  rintro e w2 ⟨v2, rfl, h2, b2⟩
  rw [one_may] at h2
  simp only [if_true] at h2
  obtain ⟨g2, cap2, rfl, _, _⟩ := h2.form (by rw [layL_len]; omega)
  refine ⟨g2, cap2, by rw [one_may, layL_len]; rfl, fun k hk => ?_, b2⟩
  rw [Nat.zero_add]
  exact h2.at k hk
theorem read_one (w : World) (v : Value) (h : BlC w v (9 :: layL oneR)) (hT : Tabs w) : Calls Tryd.prog 23 #[v, .int .i64 1] w fun e w' => e = .returned (.tuple #[.agg #[.int .i64 0, .int .i64 1, .int .i64 7, .int .i64 0, .string ⟨#[97]⟩], .int .i64 14, .bool true]) ∧ Below w.heap.size w w' := by
  refine (read_c _ v 1 w h nine_ok (by rw [List.length_cons, layL_len]; decide) (by omega) hT).mono ?_
  intro e w' h2
  unfold readT at h2
  rw [one_read.1, if_pos rfl, one_read.2.1, one_read.2.2] at h2
  exact h2
theorem may_one (w : World) (hT : Tabs w) : Calls Tryd.prog 12 #[.agg #[.int .i64 0, .int .i64 1, .int .i64 7, .int .i64 0, .string ⟨#[97]⟩]] w fun e w' => e = .returned (.bool true) ∧ Below w.heap.size w w' := by
  have h := may_c oneR w (by decide) hT
  rw [one_may] at h
  exact h
theorem same_one (w : World) : Calls Tryd.prog 14 #[.agg #[.int .i64 0, .int .i64 1, .int .i64 7, .int .i64 0, .string ⟨#[97]⟩], .agg #[.int .i64 0, .int .i64 1, .int .i64 7, .int .i64 0, .string ⟨#[97]⟩]] w fun e w' => e = .returned (.bool true) ∧ Below w.heap.size w w' := by
  have h := same_c oneR oneR w
  rw [same_self] at h
  exact h
theorem less_one (w : World) : Calls Tryd.prog 16 #[.agg #[.int .i64 0, .int .i64 1, .int .i64 7, .int .i64 0, .string ⟨#[97]⟩], .agg #[.int .i64 0, .int .i64 1, .int .i64 7, .int .i64 0, .string ⟨#[97]⟩]] w fun e w' => e = .returned (.bool false) ∧ Below w.heap.size w w' := by
  have h := less_c oneR oneR w
  rw [one_less] at h
  exact h
theorem same13 (w : World) (v1 v2 : Value) (h1 : Bl w v1 (layL oneR)) (h2 : Bl w v2 [0, 0, 1, 0, 0, 0, 0, 0, 7, 0, 0, 1, 97]) : Calls Tryd.prog 24 #[v1, v2] w fun e w' => e = .returned (.bool true) ∧ Below w.heap.size w w' := by
  rw [← one_lay] at h2
  have h := bsame_c _ _ v1 v2 w h1 h2 (by rw [layL_len]; decide)
  rw [sameB_self] at h
  exact h
theorem eq_one (w : World) : (Op.equalIn 10000 27 (.agg #[.int .i64 0, .int .i64 1, .int .i64 7, .int .i64 0, .string ⟨#[97]⟩]) (.agg #[.int .i64 0, .int .i64 1, .int .i64 7, .int .i64 0, .string ⟨#[97]⟩])).run Tryd.prog w = .ok true w := by
  have h := eq_rec oneR oneR w
  rw [same_self] at h
  exact h

set_option maxHeartbeats 8000000 in
set_option maxRecDepth 100000 in
theorem awake_c (w : World) (hT : Tabs w) : Calls Tryd.prog 6 #[] w fun e w' => e = .returned (.bool true) ∧ Below w.heap.size w w' := by
  obtain ⟨i0, hi, hz0, hz1, hz2⟩ := info_parts byteInfo
  have HI := Lib.hid hi
  have HZ0 := Lib.hid hz0
  have HZ1 := Lib.hid hz1
  have HZ2 := Lib.hid hz2
  clear hi hz0 hz1 hz2
  have hT0 := Lib.hid hT
  clear hT
  have HL13 : Hid ((layL oneR).length = 13) := Lib.hid (by rw [layL_len]; rfl)
  go_enter Tryd.func6, Tryd.ntmps6
  go_wp2_with fail
  refine (one_c _).mono ?_
  rintro e w1 ⟨rfl, b1⟩
  have B1 := Lib.hid b1
  clear b1
  go_wp2_with fail
  refine (lay_one w1 (hT0.out.below B1.out)).mono ?_
  rintro e w2 ⟨g2, cap2, rfl, h2, b2⟩
  have H2 := Lib.hid h2
  have B2 := Lib.hid (bn B1.out b2)
  clear h2 b2 B1
  have HN : Hid (∀ i u, (bys (layL oneR))[i]? = some u → (w2.alloc (.cells #[.int .u8 9] 5)).cell? ((⟨g2, 0, none⟩ : Addr).add i) = some u) := Lib.hid (H2.out.below (alloc_below _ _)).news
  go_wp2_with (at_builtin; refine wpList_append_own _ rfl _ _ 40 rfl w2.heap.size 5 i0 (.int .u8 0) 1 1 Tryd.underlying40 HI.out HZ0.out HZ1.out HZ2.out rfl (by decide) _ _ _ rfl (by exact row_one w2 9 w2.heap.size (Nat.le_refl _)) ⟨g2, 0, none⟩ 13 cap2 (bys (layL oneR)) rfl (by rw [bys_len, HL13.out]) (by exact HN.out) (bys_one _) (by decide) (by decide) (by simp) ?_; intro v3 w3 hown3 hgr3 hnil3; have H3 : Hid (BlC w3 v3 (9 :: layL oneR)) := Lib.hid (BRow.blc (B := w2.heap.size) (by unfold BRow; rw [List.length_cons, HL13.out]; exact hown3)); have B3 : Hid (Below w2.heap.size w2 w3) := Lib.hid ((alloc_below w2 _).trans (below_of_grown hgr3 (by simp) (fun g hg => by cases hg; exact Nat.le_refl _))); clear hown3 hgr3 hnil3)
  refine (read_one w3 v3 H3.out (hT0.out.below (bn B2.out B3.out))).mono ?_
  rintro e w4 ⟨rfl, b4⟩
  have B4 := Lib.hid (bn (bn B2.out B3.out) b4)
  have H4 : Hid (Bl w4 (.slice (some ⟨g2, 0, none⟩) 13 cap2) (layL oneR)) := Lib.hid (.inr ⟨⟨g2, 0, none⟩, cap2, by rw [HL13.out], fun _ => ⟨g2, 0, rfl, H2.out.below (bn B3.out b4)⟩⟩)
  clear b4 B3 B2 H2 H3 HN
  go_upto_region 3 with fail
  obtain ⟨W0, hW0⟩ : ∃ W0, W0 = w4.alloc (.cells #[.int .i64 0, .int .i64 1, .int .i64 7, .int .i64 0, .string ⟨#[97]⟩] 27) := ⟨_, rfl⟩
  have HX0 : Hid (Bx 27 W0 w4.heap.size #[.int .i64 0, .int .i64 1, .int .i64 7, .int .i64 0, .string ⟨#[97]⟩]) := Lib.hid (by rw [hW0]; exact Bx.new _ _ _)
  have HB0 : Hid (Below w.heap.size w W0) := Lib.hid (by rw [hW0]; exact B4.out.alloc B4.out.size _)
  have H0 : Hid (Bl W0 (.slice (some ⟨g2, 0, none⟩) 13 cap2) (layL oneR)) := Lib.hid (by rw [hW0]; exact H4.out.below (alloc_below _ _))
  have HT0 : Hid (∀ W, Below W0.heap.size W0 W → Tabs W) := Lib.hid (fun W hb => (hT0.out.below HB0.out).below hb)
  have HS : Hid (∀ w' : World, Below W0.heap.size W0 w' → w'.cell? ⟨w4.heap.size, 0, none⟩ = some (.int .i64 0) ∧ w'.cell? ⟨w4.heap.size, 1, none⟩ = some (.int .i64 1) ∧ w'.cell? ⟨w4.heap.size, 2, none⟩ = some (.int .i64 7) ∧ w'.cell? ⟨w4.heap.size, 3, none⟩ = some (.int .i64 0) ∧ w'.cell? ⟨w4.heap.size, 4, none⟩ = some (.string ⟨#[97]⟩)) := Lib.hid (fun w' hb => (HX0.out.below hb).five)
  have HC13 : Hid (∀ W, Below W0.heap.size W0 W → Calls Tryd.prog 24 #[.slice (some ⟨g2, 0, none⟩) 13 cap2, .slice (some ⟨W.heap.size, 0, none⟩) 13 13] (W.alloc (.cells #[.int .u8 0, .int .u8 0, .int .u8 1, .int .u8 0, .int .u8 0, .int .u8 0, .int .u8 0, .int .u8 0, .int .u8 7, .int .u8 0, .int .u8 0, .int .u8 1, .int .u8 97] 5)) fun e w' => e = .returned (.bool true) ∧ Below W0.heap.size W0 w') := Lib.hid (fun W hb => (same13 _ _ _ ((H0.out.below hb).below (alloc_below _ _)) (lit13 W _ rfl)).mono fun e w' ⟨h1, h2⟩ => ⟨h1, bn (bn hb (alloc_below _ _)) h2⟩)
  have HC14 : Hid (Calls Tryd.prog 24 #[.slice (some ⟨g2, 0, none⟩) 13 cap2, .slice (some ⟨W0.heap.size, 0, none⟩) 13 13] (W0.alloc (.cells #[.int .u8 0, .int .u8 0, .int .u8 1, .int .u8 0, .int .u8 0, .int .u8 0, .int .u8 0, .int .u8 0, .int .u8 7, .int .u8 0, .int .u8 0, .int .u8 1, .int .u8 97] 5)).drew fun e w' => e = .returned (.bool true) ∧ Below W0.heap.size W0 w') := Lib.hid ((same13 _ _ _ (H0.out.below (alloc_below _ _).drew) (lit13 W0 _ rfl)).mono fun e w' ⟨h1, h2⟩ => ⟨h1, bn (alloc_below _ _).drew h2⟩)
  have q1 := eq_one
  rw [← hW0]
  clear hW0 H4 B4 HX0 H0
  go_region_held3 (fun w' => w'.cell? ⟨w4.heap.size, 0, none⟩ = some (.int .i64 0) ∧ w'.cell? ⟨w4.heap.size, 1, none⟩ = some (.int .i64 1) ∧ w'.cell? ⟨w4.heap.size, 2, none⟩ = some (.int .i64 7) ∧ w'.cell? ⟨w4.heap.size, 3, none⟩ = some (.int .i64 0) ∧ w'.cell? ⟨w4.heap.size, 4, none⟩ = some (.string ⟨#[97]⟩)) (exact HS.out _ (by first | assumption | exact (Below.refl _ _).drew | exact Below.refl _ _ | exact (Below.refl _ _).drew.alloc (Nat.le_refl _) _ | exact ((Below.refl _ _).alloc (Nat.le_refl _) _).drew | exact (Below.refl _ _).alloc (Nat.le_refl _) _))
    (first
    | (go_at_call 24; refine HC14.out.mono ?_; rintro e w5 ⟨rfl, b5⟩)
    | (go_at_call 24; refine (HC13.out _ (by first | exact Below.refl _ _ | exact (Below.refl _ _).drew)).mono ?_; rintro e w5 ⟨rfl, b5⟩)
    | (go_at_call 22; refine (one_c _).mono ?_; rintro e w6 ⟨rfl, b6⟩; have b6' : Below W0.heap.size W0 w6 := bn (by assumption) b6; clear b6)
    | (go_at_call 12; refine (may_one _ (HT0.out _ (by assumption))).mono ?_; rintro e w6 ⟨rfl, b6⟩; have b6' : Below W0.heap.size W0 w6 := bn (by assumption) b6; clear b6)
    | (go_at_call 14; refine (same_one _).mono ?_; rintro e w6 ⟨rfl, b6⟩; have b6' : Below W0.heap.size W0 w6 := bn (by assumption) b6; clear b6)
    | (go_at_call 16; refine (less_one _).mono ?_; rintro e w6 ⟨rfl, b6⟩; have b6' : Below W0.heap.size W0 w6 := bn (by assumption) b6; clear b6))
  go_wp2
  go_ret
  exact ⟨rfl, bn HB0.out b6'⟩
end Go.Proofs.YtkmcieiglhdjeaaDoor
