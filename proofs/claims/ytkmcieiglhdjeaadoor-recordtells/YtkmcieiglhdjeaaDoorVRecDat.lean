/-
  Records in a block of one's own, by their places; the comparison, by contract; two of them exchanged.
-/
import Derived.Test.YtkmcieiglhdjeaaDoorVRecArgs
import Derived.Shelf.Abstract
namespace Go.Proofs.YtkmcieiglhdjeaaDoor
open Go.RowKit Go.Lib

/-- What order.By is handed: Less. -/
abbrev lessV : Value := .func (.func 16) #[] #[]
set_option maxHeartbeats 2000000 in
theorem by_g (w : World) : Calls Tryd.prog 26 #[lessV] w fun e w' => e = .returned (.func (.func 37) #[] #[.pointer (some ⟨w.heap.size, 0, none⟩)]) ∧ w' = w.alloc (.cells #[lessV] 35) := by
  unfold lessV
  go_enter Tryd.func26, Tryd.ntmps26
  go_wp2
  go_ret
  exact ⟨by first | rfl | simp, rfl⟩
set_option maxHeartbeats 2000000 in
/-- The comparison that order.By makes of Less. -/
theorem compare_c (bxr : Nat) (a b : Rc) (w : World) (hb : Bx 35 w bxr #[lessV]) : Calls Tryd.prog 37 #[.agg #[.int .i64 a.o, .int .i64 a.s, .int .i64 a.w, .int .i64 a.c, .string a.t], .agg #[.int .i64 b.o, .int .i64 b.s, .int .i64 b.w, .int .i64 b.c, .string b.t], .pointer (some ⟨bxr, 0, none⟩)] w fun e w' => e = .returned (.int .i64 (cmpR a b)) ∧ Below w.heap.size w w' := by
  have H1 := Lib.hid (fun W => less_c a b W)
  have H2 := Lib.hid (fun W => less_c b a W)
  have eg : ∀ args w, (callFunc 16 args).run Tryd.prog w = .ok (.enter 16 args) w := enters_of Tryd.func16 (by kernel_rfl) rfl
  have X1 := Lib.hid ((Bx.new 27 w #[.int .i64 a.o, .int .i64 a.s, .int .i64 a.w, .int .i64 a.c, .string a.t]).alloc (.cells #[.int .i64 b.o, .int .i64 b.s, .int .i64 b.w, .int .i64 b.c, .string b.t] 27))
  have X2 : Hid (Bx 27 ((w.alloc (.cells #[.int .i64 a.o, .int .i64 a.s, .int .i64 a.w, .int .i64 a.c, .string a.t] 27)).alloc (.cells #[.int .i64 b.o, .int .i64 b.s, .int .i64 b.w, .int .i64 b.c, .string b.t] 27)) (w.heap.size + 1) #[.int .i64 b.o, .int .i64 b.s, .int .i64 b.w, .int .i64 b.c, .string b.t]) := Lib.hid (by have h := Bx.new 27 (w.alloc (.cells #[.int .i64 a.o, .int .i64 a.s, .int .i64 a.w, .int .i64 a.c, .string a.t] 27)) #[.int .i64 b.o, .int .i64 b.s, .int .i64 b.w, .int .i64 b.c, .string b.t]; simpa using h)
  have X3 := Lib.hid (hb.below (below_two w (.cells #[.int .i64 a.o, .int .i64 a.s, .int .i64 a.w, .int .i64 a.c, .string a.t] 27) (.cells #[.int .i64 b.o, .int .i64 b.s, .int .i64 b.w, .int .i64 b.c, .string b.t] 27)))
  have r0 := X3.out.cell 0
  simp only [List.getElem?_toArray, List.getElem?_cons_zero] at r0
  unfold cmpR
  cases h1 : lessR a b
  · rw [h1] at H1
    cases h2 : lessR b a
    all_goals (
      rw [h2] at H2
      go_enter Tryd.func37, Tryd.ntmps37
      go_wp2_with fail
      refine (H1.out _).mono ?_
      rintro e w1 ⟨rfl, b1⟩
      obtain ⟨c0, c1, c2, c3, c4⟩ := (X1.out.below b1).five
      obtain ⟨d0, d1, d2, d3, d4⟩ := (X2.out.below b1).five
      have hl := (X1.out.below b1).lt
      have hl2 := (X2.out.below b1).lt
      have r1 := (X3.out.below b1).cell 0
      simp only [List.getElem?_toArray, List.getElem?_cons_zero] at r1
      clear r0
      go_wp2_with fail
      refine (H2.out _).mono ?_
      rintro e w2 ⟨rfl, b2⟩
      go_wp2
      go_ret
      exact ⟨rfl, bn (bn (below_two _ _ _) b1) b2⟩)
  · rw [h1] at H1
    go_enter Tryd.func37, Tryd.ntmps37
    go_wp2_with fail
    refine (H1.out _).mono ?_
    rintro e w1 ⟨rfl, b1⟩
    go_wp2
    go_ret
    exact ⟨rfl, bn (below_two _ _ _) b1⟩

theorem cmpR_neg (a b : Rc) : decide (cmpR a b < 0) = lessR a b := by
  unfold cmpR
  cases lessR a b <;> cases lessR b a <;> rfl

/-- Block g is a row of n records, d k at place k; none of it frozen. -/
structure Dt (w : World) (g n : Nat) (d : Nat → Rc) : Prop where
  lt : g < w.heap.size
  c0 : ∀ k, k < n → w.cell? ⟨g, k * 5, none⟩ = some (.int .i64 (d k).o)
  c1 : ∀ k, k < n → w.cell? ⟨g, k * 5 + 1, none⟩ = some (.int .i64 (d k).s)
  c2 : ∀ k, k < n → w.cell? ⟨g, k * 5 + 2, none⟩ = some (.int .i64 (d k).w)
  c3 : ∀ k, k < n → w.cell? ⟨g, k * 5 + 3, none⟩ = some (.int .i64 (d k).c)
  c4 : ∀ k, k < n → w.cell? ⟨g, k * 5 + 4, none⟩ = some (.string (d k).t)
  soft : ∀ j, w.frozen? ⟨g, j, none⟩ = false
theorem Dt.below {w w' : World} {g n : Nat} {d : Nat → Rc} (h : Dt w g n d) (hb : Below w.heap.size w w') : Dt w' g n d := by
  have f : ∀ j, w'.cell? ⟨g, j, none⟩ = w.cell? ⟨g, j, none⟩ := fun j => hb.cell h.lt
  have s : ∀ j, w'.frozen? ⟨g, j, none⟩ = w.frozen? ⟨g, j, none⟩ := fun j => World.frozen?_of_block (hb.block g h.lt)
  exact ⟨Nat.lt_of_lt_of_le h.lt hb.size, fun k hk => (f _).trans (h.c0 k hk), fun k hk => (f _).trans (h.c1 k hk), fun k hk => (f _).trans (h.c2 k hk), fun k hk => (f _).trans (h.c3 k hk), fun k hk => (f _).trans (h.c4 k hk), fun j => (s j).trans (h.soft j)⟩
theorem Dt.drew {w : World} {g n : Nat} {d : Nat → Rc} (h : Dt w g n d) : Dt w.drew g n d := ⟨h.lt, h.c0, h.c1, h.c2, h.c3, h.c4, h.soft⟩
theorem Dt.congr {w : World} {g n : Nat} {d d' : Nat → Rc} (h : Dt w g n d) (he : ∀ k, k < n → d' k = d k) : Dt w g n d' :=
  ⟨h.lt, fun k hk => by rw [he k hk]; exact h.c0 k hk, fun k hk => by rw [he k hk]; exact h.c1 k hk, fun k hk => by rw [he k hk]; exact h.c2 k hk, fun k hk => by rw [he k hk]; exact h.c3 k hk, fun k hk => by rw [he k hk]; exact h.c4 k hk, h.soft⟩

/-- Five cells, stored. -/
def put5 (w : World) (g i : Nat) (r : Rc) : World :=
  ((((w.setCell ⟨g, i * 5, none⟩ (.int .i64 r.o)).setCell ⟨g, i * 5 + 1, none⟩ (.int .i64 r.s)).setCell ⟨g, i * 5 + 2, none⟩ (.int .i64 r.w)).setCell ⟨g, i * 5 + 3, none⟩ (.int .i64 r.c)).setCell ⟨g, i * 5 + 4, none⟩ (.string r.t)

theorem cell_set_same {w : World} {g j : Nat} {u v : Value} (h : w.cell? ⟨g, j, none⟩ = some u) : (w.setCell ⟨g, j, none⟩ v).cell? ⟨g, j, none⟩ = some v := World.cell?_setCell_same' _ _ _ (by rw [h]; rfl)
theorem cell_set_other {w : World} {g j k : Nat} {v : Value} (h : k ≠ j) : (w.setCell ⟨g, j, none⟩ v).cell? ⟨g, k, none⟩ = w.cell? ⟨g, k, none⟩ := World.cell?_setCell_other _ _ _ _ (by first | (simp; done) | (simp; omega))
theorem put5_out {w : World} {g i : Nat} {r : Rc} {k : Nat} (h : k < i * 5 ∨ i * 5 + 5 ≤ k) : (put5 w g i r).cell? ⟨g, k, none⟩ = w.cell? ⟨g, k, none⟩ := by
  unfold put5
  rw [cell_set_other (by omega), cell_set_other (by omega), cell_set_other (by omega), cell_set_other (by omega), cell_set_other (by omega)]
theorem Dt.put5 {w : World} {g n : Nat} {d : Nat → Rc} (h : Dt w g n d) (i : Nat) (hi : i < n) (r : Rc) : Dt (put5 w g i r) g n (fun k => if k = i then r else d k) := by
  have sz : (Go.Proofs.YtkmcieiglhdjeaaDoor.put5 w g i r).heap.size = w.heap.size := by simp [Go.Proofs.YtkmcieiglhdjeaaDoor.put5, World.setCell]
  have e0 := h.c0 i hi
  have e1 := h.c1 i hi
  have e2 := h.c2 i hi
  have e3 := h.c3 i hi
  have e4 := h.c4 i hi
  refine ⟨by rw [sz]; exact h.lt, fun k hk => ?_, fun k hk => ?_, fun k hk => ?_, fun k hk => ?_, fun k hk => ?_, fun j => ?_⟩
  · by_cases hki : k = i
    · subst hki
      rw [if_pos rfl]
      unfold Go.Proofs.YtkmcieiglhdjeaaDoor.put5
      rw [cell_set_other (by omega), cell_set_other (by omega), cell_set_other (by omega), cell_set_other (by omega), cell_set_same e0]
    · rw [if_neg hki, put5_out (by omega)]; exact h.c0 k hk
  · by_cases hki : k = i
    · subst hki
      rw [if_pos rfl]
      unfold Go.Proofs.YtkmcieiglhdjeaaDoor.put5
      rw [cell_set_other (by omega), cell_set_other (by omega), cell_set_other (by omega), cell_set_same (u := .int .i64 (d k).s) (by rw [cell_set_other (by omega)]; exact e1)]
    · rw [if_neg hki, put5_out (by omega)]; exact h.c1 k hk
  · by_cases hki : k = i
    · subst hki
      rw [if_pos rfl]
      unfold Go.Proofs.YtkmcieiglhdjeaaDoor.put5
      rw [cell_set_other (by omega), cell_set_other (by omega), cell_set_same (u := .int .i64 (d k).w) (by rw [cell_set_other (by omega), cell_set_other (by omega)]; exact e2)]
    · rw [if_neg hki, put5_out (by omega)]; exact h.c2 k hk
  · by_cases hki : k = i
    · subst hki
      rw [if_pos rfl]
      unfold Go.Proofs.YtkmcieiglhdjeaaDoor.put5
      rw [cell_set_other (by omega), cell_set_same (u := .int .i64 (d k).c) (by rw [cell_set_other (by omega), cell_set_other (by omega), cell_set_other (by omega)]; exact e3)]
    · rw [if_neg hki, put5_out (by omega)]; exact h.c3 k hk
  · by_cases hki : k = i
    · subst hki
      rw [if_pos rfl]
      unfold Go.Proofs.YtkmcieiglhdjeaaDoor.put5
      rw [cell_set_same (u := .string (d k).t) (by rw [cell_set_other (by omega), cell_set_other (by omega), cell_set_other (by omega), cell_set_other (by omega)]; exact e4)]
    · rw [if_neg hki, put5_out (by omega)]; exact h.c4 k hk
  · unfold Go.Proofs.YtkmcieiglhdjeaaDoor.put5
    rw [World.frozen?_setCell, World.frozen?_setCell, World.frozen?_setCell, World.frozen?_setCell, World.frozen?_setCell]
    exact h.soft j
theorem grown_put5 {a w : World} {g : Nat} (h : a.grownBy w (some g)) (i : Nat) (r : Rc) : a.grownBy (put5 w g i r) (some g) := by
  have f : ∀ {w : World} (j : Nat) (u : Value), a.grownBy w (some g) → a.grownBy (w.setCell ⟨g, j, none⟩ u) (some g) := fun {w} j u h =>
    ⟨h.os, h.tape, h.output, by simpa [World.setCell] using h.size, fun i hi hne => (Below.heap_setCell w ⟨g, j, none⟩ u i (by rintro rfl; exact hne rfl)).trans (h.block i hi hne)⟩
  exact f _ _ (f _ _ (f _ _ (f _ _ (f _ _ h))))
theorem grown_drew {a w : World} {r : Option Nat} (h : a.grownBy w r) : a.grownBy w.drew r := ⟨h.os, h.tape, h.output, h.size, h.block⟩
theorem grown_next {a w w' : World} {r : Option Nat} (h : a.grownBy w r) (hb : Below w.heap.size w w') : a.grownBy w' r := grown_trans h (grown_below hb r)

/-- Two of them exchanged. -/
def swF (d : Nat → Rc) (i j : Nat) : Nat → Rc := fun k => if k = j then d i else if k = i then d j else d k
theorem Dt.swap {w : World} {g n : Nat} {d : Nat → Rc} (h : Dt w g n d) (i j : Nat) (hi : i < n) (hj : j < n) : Dt (Go.Proofs.YtkmcieiglhdjeaaDoor.put5 (Go.Proofs.YtkmcieiglhdjeaaDoor.put5 w g i (d j)) g j (d i)) g n (swF d i j) := (h.put5 i hi (d j)).put5 j hj (d i)

/-- The same, and what the comparison was made of, in a box of its own. -/
structure Dx (bxr : Nat) (w : World) (g n : Nat) (d : Nat → Rc) : Prop extends Dt w g n d where
  bx : Bx 35 w bxr #[lessV]
  ne : bxr ≠ g
variable {bxr : Nat}
theorem Dx.below {w w' : World} {g n : Nat} {d : Nat → Rc} (h : Dx bxr w g n d) (hb : Below w.heap.size w w') : Dx bxr w' g n d := ⟨h.toDt.below hb, h.bx.below hb, h.ne⟩
theorem Dx.drew {w : World} {g n : Nat} {d : Nat → Rc} (h : Dx bxr w g n d) : Dx bxr w.drew g n d := ⟨h.toDt.drew, h.bx, h.ne⟩
theorem Dx.congr {w : World} {g n : Nat} {d d' : Nat → Rc} (h : Dx bxr w g n d) (he : ∀ k, k < n → d' k = d k) : Dx bxr w g n d' := ⟨h.toDt.congr he, h.bx, h.ne⟩
theorem Dx.put5 {w : World} {g n : Nat} {d : Nat → Rc} (h : Dx bxr w g n d) (i : Nat) (hi : i < n) (r : Rc) : Dx bxr (Go.Proofs.YtkmcieiglhdjeaaDoor.put5 w g i r) g n (fun k => if k = i then r else d k) :=
  ⟨h.toDt.put5 i hi r, ((grown_put5 (grown_refl w (some g)) i r).block bxr h.bx.lt (fun e => h.ne (Option.some.inj e))).trans h.bx, h.ne⟩
theorem Dx.swap {w : World} {g n : Nat} {d : Nat → Rc} (h : Dx bxr w g n d) (i j : Nat) (hi : i < n) (hj : j < n) : Dx bxr (Go.Proofs.YtkmcieiglhdjeaaDoor.put5 (Go.Proofs.YtkmcieiglhdjeaaDoor.put5 w g i (d j)) g j (d i)) g n (swF d i j) := (h.put5 i hi (d j)).put5 j hj (d i)
end Go.Proofs.YtkmcieiglhdjeaaDoor
