/-
  Before, order.By, the comparison that it makes, and byKey of the program, by contract.
-/
import Derived.Test.YtgdajnjfkokmdaaPstMay
import Derived.Sort.Grow
import Derived.Shelf.Abstract
namespace Go.Proofs.Ytgdajnjfkokmdaa
open Go.RowKit Go.Lib Go.Sort

theorem below_grow (w : World) (os : Array Obj) : Below w.heap.size w (grow w os) :=
  ⟨rfl, rfl, rfl, by rw [size_grow]; omega, fun k hk => by
    show (w.heap ++ os)[k]? = w.heap[k]?
    rw [Array.getElem?_append_left hk]⟩
theorem grow_two (w : World) (o o' : Obj) : ∃ os, (w.alloc o).alloc o' = grow w os := ⟨_, by rw [alloc_eq_grow, alloc_eq_grow, grow_grow]⟩
theorem kLt_ne1 {o s p q : Int} (h : o ≠ p) : kLt (o, s) (p, q) = decide (o < p) := by
  simp only [kLt_eq]
  rw [show (o == p) = false by simpa using h]
  simp
theorem kLt_eq1 (o s q : Int) : kLt (o, s) (o, q) = decide (s < q) := by simp [kLt_eq]
set_option maxHeartbeats 2000000 in
theorem before_g (o s p q : Int) (w : World) : Calls Try.prog 36 #[.agg #[.int .i64 o, .int .i64 s], .agg #[.int .i64 p, .int .i64 q]] w fun e w' => e = .returned (.bool (kLt (o, s) (p, q))) ∧ ∃ os, w' = grow w os := by
  by_cases h : o = p
  · subst h
    have e0 : (o != o) = false := by simp
    rw [kLt_eq1]
    generalize hC : decide (s < q) = C
    go_enter Try.func36, Try.ntmps36
    go_wp2
    go_ret
    exact ⟨by simp, grow_two _ _ _⟩
  · have e0 : (o != p) = true := by simpa using h
    rw [kLt_ne1 h]
    generalize hC : decide (o < p) = C
    go_enter Try.func36, Try.ntmps36
    go_wp2
    go_ret
    exact ⟨by simp, grow_two _ _ _⟩
theorem before_c (o s p q : Int) (w : World) : Calls Try.prog 36 #[.agg #[.int .i64 o, .int .i64 s], .agg #[.int .i64 p, .int .i64 q]] w fun e w' => e = .returned (.bool (kLt (o, s) (p, q))) ∧ Below w.heap.size w w' :=
  (before_g o s p q w).mono fun e w' ⟨he, os, hw⟩ => ⟨he, by rw [hw]; exact below_grow _ _⟩
/-- -1, 0, 1. -/
def cmpK (a b : Ky) : Int := if kLt a b then -1 else if kLt b a then 1 else 0
theorem cmpK_lt (a b : Ky) : decide (cmpK a b < 0) = kLt a b := by
  unfold cmpK
  cases h : kLt a b <;> cases h2 : kLt b a <;> simp
theorem cmpK_self (a : Ky) : cmpK a a = 0 := by simp [cmpK, kLt_irrefl]
theorem cmpK_zero {a b : Ky} : cmpK a b = 0 ↔ a = b := by
  refine ⟨fun h => ?_, fun h => by rw [h, cmpK_self]⟩
  rcases kLt_tri a b with k | k | k
  · rw [cmpK, if_pos k] at h; cases h
  · exact k
  · rw [cmpK, kLt_no k, if_neg (by simp), if_pos k] at h; cases h
theorem cmpK_gt {a b : Ky} (h : kLt b a = true) : cmpK a b = 1 := by rw [cmpK, kLt_no h, if_neg (by simp), if_pos h]
theorem cmpK_less {a b : Ky} (h : kLt a b = true) : cmpK a b = -1 := by rw [cmpK, if_pos h]
/-- What order.By is handed: Before. -/
abbrev befV : Value := .func (.func 36) #[] #[]
theorem by_box {w w' : World} (h : w' = w.alloc (.cells #[befV] 44)) : Bx 44 w' w.heap.size #[befV] := by rw [h]; exact Bx.new _ _ _
set_option maxHeartbeats 2000000 in
theorem by_g (w : World) : Calls Try.prog 35 #[befV] w fun e w' => e = .returned (.func (.func 52) #[] #[.pointer (some ⟨w.heap.size, 0, none⟩)]) ∧ w' = w.alloc (.cells #[befV] 44) := by
  unfold befV
  go_enter Try.func35, Try.ntmps35
  go_wp2
  go_ret
  exact ⟨by first | rfl | simp, rfl⟩
set_option maxHeartbeats 4000000 in
/-- The comparison that order.By makes of Before. -/
theorem by1_g (r : Nat) (o s p q : Int) (w : World) (hb : Bx 44 w r #[befV]) : Calls Try.prog 52 #[.agg #[.int .i64 o, .int .i64 s], .agg #[.int .i64 p, .int .i64 q], .pointer (some ⟨r, 0, none⟩)] w fun e w' => e = .returned (.int .i64 (cmpK (o, s) (p, q))) ∧ ∃ os, w' = grow w os := by
  have C1 := Lib.hid (fun W => before_g o s p q W)
  have C2 := Lib.hid (fun W => before_g p q o s W)
  have eg : ∀ args w, (callFunc 36 args).run Try.prog w = .ok (.enter 36 args) w := enters_of Try.func36 (by kernel_rfl) rfl
  have B1 := Lib.hid ((Bx.new 34 w #[.int .i64 o, .int .i64 s]).below (alloc_below _ (.cells #[.int .i64 p, .int .i64 q] 34)))
  have B2 := Lib.hid (Bx.new 34 (w.alloc (.cells #[.int .i64 o, .int .i64 s] 34)) #[.int .i64 p, .int .i64 q])
  have B3 := Lib.hid (hb.below (below_two w (.cells #[.int .i64 o, .int .i64 s] 34) (.cells #[.int .i64 p, .int .i64 q] 34)))
  have r0 := B3.out.cell 0
  simp only [List.getElem?_toArray, List.getElem?_cons_zero] at r0
  obtain ⟨os0, h0⟩ := grow_two w (.cells #[.int .i64 o, .int .i64 s] 34) (.cells #[.int .i64 p, .int .i64 q] 34)
  have H0 := Lib.hid h0
  clear h0
  unfold cmpK
  generalize kLt (o, s) (p, q) = L at C1 ⊢
  generalize kLt (p, q) (o, s) = M at C2 ⊢
  cases L with
  | true =>
    go_enter Try.func52, Try.ntmps52
    go_wp2_with fail
    refine (C1.out _).mono ?_
    rintro e w1 ⟨rfl, os, rfl⟩
    clear C1 C2
    go_wp2
    go_ret
    exact ⟨by simp, _, by rw [H0.out, grow_grow]⟩
  | false =>
    go_enter Try.func52, Try.ntmps52
    go_wp2_with fail
    refine (C1.out _).mono ?_
    rintro e w1 ⟨rfl, os, hw1⟩
    have b1 := Lib.hid (B1.out.below (w' := w1) (by rw [hw1]; exact below_grow _ _))
    have b2 := Lib.hid (B2.out.below (w' := w1) (by rw [hw1]; exact below_grow _ _))
    have b3 := Lib.hid (B3.out.below (w' := w1) (by rw [hw1]; exact below_grow _ _))
    have x0 := b1.out.cell 0
    have x1 := b1.out.cell 1
    have y0 := b2.out.cell 0
    have y1 := b2.out.cell 1
    have z0 := b3.out.cell 0
    simp only [List.getElem?_toArray, List.getElem?_cons_succ, List.getElem?_cons_zero, World.size_alloc] at x0 x1 y0 y1 z0
    have hl := b1.out.lt
    have hl2 : w.heap.size + 1 < w1.heap.size := by simpa using b2.out.lt
    have HW := Lib.hid hw1
    clear hw1 C1 r0
    cases M with
    | true =>
      go_wp2_with fail
      refine (C2.out _).mono ?_
      rintro e w2 ⟨rfl, os2, hw2⟩
      have HW2 := Lib.hid hw2
      clear hw2 C2
      go_wp2
      go_ret
      exact ⟨by simp, _, by rw [HW2.out, HW.out, H0.out, grow_grow, grow_grow]⟩
    | false =>
      go_wp2_with fail
      refine (C2.out _).mono ?_
      rintro e w2 ⟨rfl, os2, hw2⟩
      have HW2 := Lib.hid hw2
      clear hw2 C2
      go_wp2
      go_ret
      exact ⟨by simp, _, by rw [HW2.out, HW.out, H0.out, grow_grow, grow_grow]⟩
set_option maxHeartbeats 4000000 in
/-- byKey: of two Posts, by their Keys alone. -/
theorem bykey_g (xo xs yo ys : Int) (xa ya : Value) (w : World) : Calls Try.prog 59 #[.agg #[.int .i64 xo, .int .i64 xs, xa], .agg #[.int .i64 yo, .int .i64 ys, ya]] w fun e w' => e = .returned (.int .i64 (cmpK (xo, xs) (yo, ys))) ∧ ∃ os, w' = grow w.drew os := by
  have eg : ∀ args w, (callFunc 52 args).run Try.prog w = .ok (.enter 52 args) w := enters_of Try.func52 (by kernel_rfl) rfl
  obtain ⟨W1, hW1⟩ : ∃ W1, W1 = (w.alloc (.cells #[.int .i64 xo, .int .i64 xs, xa] 37)).alloc (.cells #[.int .i64 yo, .int .i64 ys, ya] 37) := ⟨_, rfl⟩
  have b1 : Bx 37 W1 w.heap.size #[.int .i64 xo, .int .i64 xs, xa] := by rw [hW1]; exact (Bx.new 37 w _).below (alloc_below _ _)
  have b2 : Bx 37 W1 (w.heap.size + 1) #[.int .i64 yo, .int .i64 ys, ya] := by
    rw [hW1]
    have := Bx.new 37 (w.alloc (.cells #[.int .i64 xo, .int .i64 xs, xa] 37)) #[.int .i64 yo, .int .i64 ys, ya]
    rwa [World.size_alloc] at this
  have HSC : Hid (∀ w', Below W1.heap.size W1 w' → w'.cell? ⟨w.heap.size, 0, none⟩ = some (.int .i64 xo) ∧ w'.cell? ⟨w.heap.size, 1, none⟩ = some (.int .i64 xs) ∧ w'.cell? ⟨w.heap.size + 1, 0, none⟩ = some (.int .i64 yo) ∧ w'.cell? ⟨w.heap.size + 1, 1, none⟩ = some (.int .i64 ys)) := Lib.hid (fun w' hb => ⟨(b1.below hb).cell 0, (b1.below hb).cell 1, (b2.below hb).cell 0, (b2.below hb).cell 1⟩)
  have HG : Hid (∃ os, W1.drew = grow w.drew os) := Lib.hid (by rw [hW1]; exact grow_two w.drew _ _)
  clear b1 b2
  go_enter Try.func59, Try.ntmps59
  go_wp2_with fail
  rw [← hW1]
  clear hW1
  refine wp_region_held_drew (S := fun w' => w'.cell? ⟨w.heap.size, 0, none⟩ = some (.int .i64 xo) ∧ w'.cell? ⟨w.heap.size, 1, none⟩ = some (.int .i64 xs) ∧ w'.cell? ⟨w.heap.size + 1, 0, none⟩ = some (.int .i64 yo) ∧ w'.cell? ⟨w.heap.size + 1, 1, none⟩ = some (.int .i64 ys)) (by kernel_rfl) (HSC.out _ (Below.refl _ _).drew) (fun hHeld => ?_)
  refine take_ok (i := 1) (d := 6) (v := ?_) rfl rfl (by kernel_rfl) (by kernel_rfl) (by kernel_rfl) (fun _ _ _ h => h) (Or.inl ⟨by rfl, ?_⟩) (by assumption) ?_
  rotate_left
  · intro w9 hSw
    try dsimp only at hSw
    first | (go_simp; done) | (go_simp; with_reducible rfl)
  try simp only [Act.put, List.setIfInBounds_toArray, List.set_cons_zero, List.set_cons_succ]
  refine take_ok (i := 2) (d := 7) (v := ?_) rfl rfl (by kernel_rfl) (by kernel_rfl) (by kernel_rfl) (fun _ _ _ h => h) (Or.inl ⟨by rfl, ?_⟩) (by assumption) ?_
  rotate_left
  · intro w9 hSw
    try dsimp only at hSw
    first | (go_simp; done) | (go_simp; with_reducible rfl)
  try simp only [Act.put, List.setIfInBounds_toArray, List.set_cons_zero, List.set_cons_succ]
  refine take_ok (i := 3) (d := 8) (v := ?_) rfl rfl (by kernel_rfl) (by kernel_rfl) (by kernel_rfl) (fun _ _ _ h => h) (Or.inl ⟨by rfl, ?_⟩) (by assumption) ?_
  rotate_left
  · intro w9 hSw
    try dsimp only at hSw
    first | (go_simp; done) | (go_simp; with_reducible rfl)
  try simp only [Act.put, List.setIfInBounds_toArray, List.set_cons_zero, List.set_cons_succ]
  refine take_ok (i := 4) (d := 9) (v := ?_) rfl rfl (by kernel_rfl) (by kernel_rfl) (by kernel_rfl) (fun _ _ _ h => h) (Or.inl ⟨by rfl, ?_⟩) (by assumption) ?_
  rotate_left
  · intro w9 hSw
    try dsimp only at hSw
    first | (go_simp; done) | (go_simp; with_reducible rfl)
  try simp only [Act.put, List.setIfInBounds_toArray, List.set_cons_zero, List.set_cons_succ]
  refine wpAnyH_ready (rs := [0]) (by kernel_rfl) (by simp) ?_
  refine AllReadyH.cons rfl (fun K hK => ?_) AllReadyH.nil
  go_simp
  refine (by_g _).mono ?_
  rintro e w2 ⟨rfl, hw2⟩
  have b2' : Below W1.heap.size W1 w2 := by rw [hw2]; exact bn (by first | exact (Below.refl _ _).drew | exact Below.refl _ _) (alloc_below _ _)
  have c2 := hw2
  have bx2 := Lib.hid (by_box hw2)
  rw [show W1.drew.heap.size = W1.heap.size from rfl] at bx2 ⊢
  have HW2 := Lib.hid (show ∃ os, w2 = grow W1.drew os from ⟨_, hw2.trans (alloc_eq_grow _ _)⟩)
  clear hw2 c2
  refine hK.out _ _ (HSC.out _ b2') (fun hHeld => ?_)
  clear hK K
  try simp only [Act.put, List.setIfInBounds_toArray, List.set_cons_zero, List.set_cons_succ]
  refine wpAnyH_ready (rs := [5]) (by kernel_rfl) (by simp) ?_
  refine AllReadyH.cons rfl (fun K hK => ?_) AllReadyH.nil
  go_simp
  refine (by1_g _ xo xs yo ys w2 bx2.out).mono ?_
  rintro e w3 ⟨rfl, os3, hw3⟩
  have b3' : Below W1.heap.size W1 w3 := bn b2' (by rw [hw3]; exact below_grow _ _)
  refine hK.out _ _ (HSC.out _ b3') (fun hHeld => ?_)
  clear hK K
  try simp only [Act.put, List.setIfInBounds_toArray, List.set_cons_zero, List.set_cons_succ]
  refine take_ok (i := 6) (d := 4) (v := ?_) rfl rfl (by kernel_rfl) (by kernel_rfl) (by kernel_rfl) (fun _ _ _ h => h) (Or.inl ⟨by rfl, ?_⟩) (by assumption) ?_
  rotate_left
  · intro w9 hSw
    try dsimp only at hSw
    first | (go_simp; done) | (go_simp; with_reducible rfl)
  try simp only [Act.put, List.setIfInBounds_toArray, List.set_cons_zero, List.set_cons_succ]
  refine wpAnyH_done (by kernel_rfl) ?_ _
  have HW3 := Lib.hid hw3
  clear hw3 b2' b3' hHeld HSC
  go_wp2
  go_ret
  obtain ⟨os0, h0⟩ := HG.out
  obtain ⟨os2, h2⟩ := HW2.out
  exact ⟨by first | rfl | simp, _, by rw [HW3.out, h2, h0, grow_grow, grow_grow]⟩
theorem bykey_c (x y : Ky) (xa ya : Value) (w : World) : Calls Try.prog 59 #[.agg #[.int .i64 x.1, .int .i64 x.2, xa], .agg #[.int .i64 y.1, .int .i64 y.2, ya]] w fun e w' => e = .returned (.int .i64 (cmpK x y)) ∧ Below w.heap.size w w' :=
  (bykey_g x.1 x.2 y.1 y.2 xa ya w).mono fun e w' ⟨he, os, hw⟩ => ⟨he, by rw [hw]; exact bn (Below.refl _ _).drew (below_grow _ _)⟩
end Go.Proofs.Ytgdajnjfkokmdaa
