/-
  awake answers true.
-/
import Derived.Test.YtmdojflpnikhnaaVecLack
namespace Go.Proofs.Ytmdojflpnikhnaa
open Go.RowKit Go.Lib

theorem sameB_self (l : List Int) : sameB l l = true := (sameB_iff l l).2 rfl
theorem sameT_c (l : List Int) (v1 v2 : Value) (w : World) (h1 : Nl w v1 l) (h2 : Nl w v2 l) (hn : l.length ≤ 1000000) :
    Calls Try.prog 14 #[v1, v2] w fun e w' => e = .returned (.bool true) ∧ Below w.heap.size w w' := by
  have h := same_c l l v1 v2 w h1 h2 hn
  rw [sameB_self] at h
  exact h

/-- A list that has just been laid. -/
theorem nl_new2 (w : World) (B : Nat) (hB : B = w.heap.size) (x y : Int) : Nl (w.alloc (.cells #[.int .i64 x, .int .i64 y] 3)) (.slice (some ⟨B, 0, none⟩) 2 2) [x, y] := by
  subst hB
  refine .inr ⟨_, 2, rfl, fun _ => ⟨w.heap.size, 0, rfl, fun k hk => ?_⟩⟩
  have hk2 : k < 2 := hk
  match k, hk2 with
  | 0, _ => simp [go_sem]
  | 1, _ => simp [go_sem]
theorem alloc_below (w : World) (o : Obj) : Below w.heap.size w (w.alloc o) := (Below.refl _ _).alloc (Nat.le_refl _) _
/-- A list of lists that has just been laid. -/
theorem vl_new1 (w : World) (B : Nat) (hB : B = w.heap.size) (u1 : Value) (l1 : List Int) (h1 : Nl w u1 l1) : Vl (w.alloc (.cells #[u1] 23)) (.slice (some ⟨B, 0, none⟩) 1 1) [l1] := by
  subst hB
  refine ⟨_, 1, rfl, Nat.le_refl _, fun _ => ⟨w.heap.size, 0, rfl, fun k hk => ?_⟩⟩
  have hk2 : k < 1 := hk
  match k, hk2 with
  | 0, _ => exact ⟨u1, by simp [go_sem], h1.below (alloc_below _ _)⟩
theorem vl_new2 (w : World) (B : Nat) (hB : B = w.heap.size) (u1 u2 : Value) (l1 l2 : List Int) (h1 : Nl w u1 l1) (h2 : Nl w u2 l2) : Vl (w.alloc (.cells #[u1, u2] 23)) (.slice (some ⟨B, 0, none⟩) 2 2) [l1, l2] := by
  subst hB
  refine ⟨_, 2, rfl, Nat.le_refl _, fun _ => ⟨w.heap.size, 0, rfl, fun k hk => ?_⟩⟩
  have hk2 : k < 2 := hk
  match k, hk2 with
  | 0, _ => exact ⟨u1, by simp [go_sem], h1.below (alloc_below _ _)⟩
  | 1, _ => exact ⟨u2, by simp [go_sem], h2.below (alloc_below _ _)⟩
theorem vl_new3 (w : World) (B : Nat) (hB : B = w.heap.size) (u1 u2 u3 : Value) (l1 l2 l3 : List Int) (h1 : Nl w u1 l1) (h2 : Nl w u2 l2) (h3 : Nl w u3 l3) : Vl (w.alloc (.cells #[u1, u2, u3] 23)) (.slice (some ⟨B, 0, none⟩) 3 3) [l1, l2, l3] := by
  subst hB
  refine ⟨_, 3, rfl, Nat.le_refl _, fun _ => ⟨w.heap.size, 0, rfl, fun k hk => ?_⟩⟩
  have hk2 : k < 3 := hk
  match k, hk2 with
  | 0, _ => exact ⟨u1, by simp [go_sem], h1.below (alloc_below _ _)⟩
  | 1, _ => exact ⟨u2, by simp [go_sem], h2.below (alloc_below _ _)⟩
  | 2, _ => exact ⟨u3, by simp [go_sem], h3.below (alloc_below _ _)⟩
theorem vl_new4 (w : World) (B : Nat) (hB : B = w.heap.size) (u1 u2 u3 u4 : Value) (l1 l2 l3 l4 : List Int) (h1 : Nl w u1 l1) (h2 : Nl w u2 l2) (h3 : Nl w u3 l3) (h4 : Nl w u4 l4) : Vl (w.alloc (.cells #[u1, u2, u3, u4] 23)) (.slice (some ⟨B, 0, none⟩) 4 4) [l1, l2, l3, l4] := by
  subst hB
  refine ⟨_, 4, rfl, Nat.le_refl _, fun _ => ⟨w.heap.size, 0, rfl, fun k hk => ?_⟩⟩
  have hk2 : k < 4 := hk
  match k, hk2 with
  | 0, _ => exact ⟨u1, by simp [go_sem], h1.below (alloc_below _ _)⟩
  | 1, _ => exact ⟨u2, by simp [go_sem], h2.below (alloc_below _ _)⟩
  | 2, _ => exact ⟨u3, by simp [go_sem], h3.below (alloc_below _ _)⟩
  | 3, _ => exact ⟨u4, by simp [go_sem], h4.below (alloc_below _ _)⟩
theorem srd_new1 (w : World) (B : Nat) (hB : B = w.heap.size) (x y z : Int) : SRd (w.alloc (.cells #[.int .i64 x, .int .i64 y, .int .i64 z] 44)) (.slice (some ⟨B, 0, none⟩) 1 1) [(x, y, z)] := by
  subst hB
  refine ⟨_, 1, rfl, fun _ => ⟨w.heap.size, rfl, fun k hk => ?_⟩⟩
  have hk2 : k < 1 := hk
  match k, hk2 with
  | 0, _ => exact ⟨by simp [go_sem], by simp [go_sem], by simp [go_sem]⟩

theorem aw1 : allF mx [[5, 2], [3, 4]] = [5, 4] := by decide
theorem aw2 : allF mn [[5, 2], [3, 4]] = [3, 2] := by decide
theorem aw3 : leB [5, 2] [3, 4] = false := by decide
theorem aw4 : sumL 0 [5, 2] = 7 := by simp [sumL, wrap64]
theorem aw5 : mayB [5, 2] 2 = true := by decide
theorem aw6 : lackL [5, 2] [3, 2] [4, 0] = [(0, 5, 1)] := by simp [lackL, lackF, mx, wrap64]

set_option maxHeartbeats 8000000 in
set_option maxRecDepth 100000 in
theorem awake_c (w : World) : Calls Try.prog 9 #[] w fun e w' => e = .returned (.bool true) ∧ Below w.heap.size w w' := by
  go_enter Try.func9, Try.ntmps9
  go_upto_region 2 with fail
  obtain ⟨W1, hW1⟩ : ∃ W1, W1 = (w.alloc (.cells #[.int .i64 5, .int .i64 2] 3)).alloc (.cells #[.int .i64 3, .int .i64 4] 3) := ⟨_, rfl⟩
  rw [← hW1]
  have HA : Hid (Nl W1 (.slice (some ⟨w.heap.size, 0, none⟩) 2 2) [5, 2]) := Lib.hid (by rw [hW1]; exact (nl_new2 w _ rfl 5 2).below (alloc_below _ _))
  have HB : Hid (Nl W1 (.slice (some ⟨w.heap.size + 1, 0, none⟩) 2 2) [3, 4]) := Lib.hid (by rw [hW1]; exact nl_new2 _ _ (by simp) 3 4)
  have HW : Hid (Below w.heap.size w W1) := Lib.hid (by rw [hW1]; exact ((Below.refl _ w).alloc (Nat.le_refl _) _).alloc (by simp) _)
  clear hW1
  have b1 : Below W1.heap.size W1 W1 := Below.refl _ _
  -- Join
  go_wp2_with fail
  refine (join_c [[5, 2], [3, 4]] _ _ (vl_new2 W1 _ rfl _ _ _ _ HA.out HB.out) (by decide) (by simp)).mono ?_
  rw [aw1]
  rintro e w2 ⟨v2, rfl, r2, b2⟩
  have b2' : Below W1.heap.size W1 w2 := Below.next (b1.alloc b1.size _) b2
  have H2 := Lib.hid r2.nl
  have b2'' := b2'.alloc b2'.size
  clear b2 r2
  go_wp2_with fail
  refine (sameT_c [5, 4] v2 _ _ (H2.out.below (alloc_below _ _)) (nl_new2 w2 _ rfl 5 4) (by decide)).mono ?_
  rintro e w3 ⟨rfl, b3⟩
  have b3' : Below W1.heap.size W1 w3 := Below.next (b2'' _) b3
  clear b3 H2 b2' b2''
  -- Meet
  go_wp2_with fail
  refine (meet_c [[5, 2], [3, 4]] _ _ (vl_new2 w3 _ rfl _ _ _ _ (HA.out.below b3') (HB.out.below b3')) (by decide) (by simp)).mono ?_
  rw [aw2]
  rintro e w4 ⟨v4, rfl, r4, b4⟩
  have b4' : Below W1.heap.size W1 w4 := Below.next (b3'.alloc b3'.size _) b4
  have H4 := Lib.hid r4.nl
  clear b4 r4 b3'
  go_wp2_with fail
  refine (sameT_c [3, 2] v4 _ _ (H4.out.below (alloc_below _ _)) (nl_new2 w4 _ rfl 3 2) (by decide)).mono ?_
  rintro e w5 ⟨rfl, b5⟩
  have b5' : Below W1.heap.size W1 w5 := Below.next (b4'.alloc b4'.size _) b5
  clear b5 b4' H4
  -- Below
  go_wp2_with fail
  refine (below_c [5, 2] [3, 4] _ _ w5 (HA.out.below b5') (HB.out.below b5') (by decide)).mono ?_
  rw [aw3]
  rintro e w6 ⟨rfl, b6⟩
  have b6' : Below W1.heap.size W1 w6 := Below.next b5' b6
  clear b5' b6
  -- Sum
  go_wp2_with fail
  refine (sum_c [5, 2] _ w6 (HA.out.below b6') (by decide)).mono ?_
  rw [aw4]
  rintro e w7 ⟨rfl, rfl⟩
  -- May
  go_wp2_with fail
  refine (may_c [5, 2] 2 _ w6 (HA.out.below b6') (by decide)).mono ?_
  rw [aw5]
  rintro e w8 ⟨rfl, b8⟩
  have b8' : Below W1.heap.size W1 w8 := Below.next b6' b8
  clear b6' b8
  -- Zero
  go_wp2_with fail
  refine (zero_c 3 w8 (by omega) (by omega)).mono ?_
  rintro e w9 ⟨v9, rfl, r9, b9⟩
  have b9' : Below W1.heap.size W1 w9 := Below.next b8' b9
  obtain ⟨g9, cap9, rfl, _, _⟩ := r9.form (by simp)
  clear b8' b9 r9
  -- Lack
  go_wp2_with fail
  have b10 : Below W1.heap.size W1 ((w9.alloc (.cells #[.int .i64 3, .int .i64 2] 3)).alloc (.cells #[.int .i64 4, .int .i64 0] 3)) := (b9'.alloc b9'.size _).alloc (by have := b9'.size; simp; omega) _
  refine (lack_c [5, 2] [3, 2] [4, 0] _ _ _ _ (HA.out.below b10) ((nl_new2 w9 _ rfl 3 2).below (alloc_below _ _)) (nl_new2 _ _ (by simp) 4 0) (by decide)).mono ?_
  rw [aw6]
  rintro e w11 ⟨v11, rfl, r11, b11⟩
  have b11' : Below W1.heap.size W1 w11 := Below.next b10 b11
  have H11 := Lib.hid r11.rd
  clear b10 b11 r11 b9'
  go_wp2_with fail
  refine (spans_c [(0, 5, 1)] v11 _ _ (H11.out.below (alloc_below _ _)) (srd_new1 w11 _ rfl 0 5 1) (by decide)).mono ?_
  rintro e w12 ⟨rfl, b12⟩
  have b12' : Below W1.heap.size W1 w12 := Below.next (b11'.alloc b11'.size _) b12
  go_wp2
  go_ret
  exact ⟨rfl, HW.out.trans (b12'.mono HW.out.size)⟩

end Go.Proofs.Ytmdojflpnikhnaa
