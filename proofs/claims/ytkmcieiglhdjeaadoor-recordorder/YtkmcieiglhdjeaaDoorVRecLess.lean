/-
  Before, Less, compare of records, of the program and of chapter 4's own answer, and the law's one, by contract.
-/
import Derived.Test.YtkmcieiglhdjeaaDoorVRecMay
namespace Go.Proofs.YtkmcieiglhdjeaaDoor
open Go.RowKit Go.Lib

set_option maxHeartbeats 2000000 in
theorem before_c (o s p q : Int) (w : World) : Calls Tryd.prog 18 #[.agg #[.int .i64 o, .int .i64 s], .agg #[.int .i64 p, .int .i64 q]] w fun e w' => e = .returned (.bool (befB o s p q)) ∧ Below w.heap.size w w' := by
  by_cases h : o = p
  · subst h
    have e0 : (o != o) = false := by simp
    have hl : befB o s o q = decide (s < q) := by simp [befB]
    rw [hl]
    clear hl
    generalize hC : decide (s < q) = C
    go_enter Tryd.func18, Tryd.ntmps18
    go_wp2
    go_ret
    exact ⟨by simp, below_two _ _ _⟩
  · have e0 : (o != p) = true := by simpa using h
    have hl : befB o s p q = decide (o < p) := by simp [befB, h]
    rw [hl]
    clear hl
    generalize hC : decide (o < p) = C
    go_enter Tryd.func18, Tryd.ntmps18
    go_wp2
    go_ret
    exact ⟨by simp, below_two _ _ _⟩

set_option maxHeartbeats 2000000 in
theorem refbefore_c (o s p q : Int) (w : World) : Calls Tryd.prog 19 #[.agg #[.int .i64 o, .int .i64 s], .agg #[.int .i64 p, .int .i64 q]] w fun e w' => e = .returned (.bool (befB o s p q)) ∧ Below w.heap.size w w' := by
  by_cases h : o < p
  · have e0 : decide (o < p) = true := by simpa using h
    have hl : befB o s p q = true := by simp [befB, h]
    rw [hl]
    clear hl
    go_enter Tryd.func19, Tryd.ntmps19
    go_wp2
    go_ret
    exact ⟨by simp, below_two _ _ _⟩
  · have e0 : decide (o < p) = false := by simpa using h
    by_cases h2 : o = p
    · subst h2
      have e1 : (o == o) = true := by simp
      have hl : befB o s o q = decide (s < q) := by simp [befB]
      rw [hl]
      clear hl h
      generalize hC : decide (s < q) = C
      go_enter Tryd.func19, Tryd.ntmps19
      go_wp2
      go_ret
      exact ⟨by simp, below_two _ _ _⟩
    · have e1 : (o == p) = false := by simpa using h2
      have hl : befB o s p q = false := by simp [befB, h, h2]
      rw [hl]
      clear hl
      go_enter Tryd.func19, Tryd.ntmps19
      go_wp2
      go_ret
      exact ⟨by simp, below_two _ _ _⟩

set_option maxHeartbeats 2000000 in
theorem less_c (a b : Rc) (w : World) : Calls Tryd.prog 16 #[.agg #[.int .i64 a.o, .int .i64 a.s, .int .i64 a.w, .int .i64 a.c, .string a.t], .agg #[.int .i64 b.o, .int .i64 b.s, .int .i64 b.w, .int .i64 b.c, .string b.t]] w fun e w' => e = .returned (.bool (lessR a b)) ∧ Below w.heap.size w w' := by
  have q2 := eq_stamp a.w a.c b.w b.c
  have HL := Lib.hid (fun W => sless_c a.w a.c b.w b.c W)
  have HB := Lib.hid (fun W => before_c a.o a.s b.o b.s W)
  unfold lessR
  have hd : (a.w == b.w && a.c == b.c) = true → slessB a.w a.c b.w b.c = false := by
    intro h
    simp at h
    simp [slessB, h]
  generalize slessB a.w a.c b.w b.c = L at HL hd ⊢
  generalize befB a.o a.s b.o b.s = B at HB ⊢
  generalize (a.w == b.w && a.c == b.c) = A at q2 hd ⊢
  cases A
  · clear hd
    go_enter Tryd.func16, Tryd.ntmps16
    go_wp2_with fail
    refine (HL.out _).mono ?_
    rintro e w1 ⟨rfl, b1⟩
    go_wp2
    go_ret
    exact ⟨by simp, bn (below_two _ _ _) b1⟩
  · rw [hd rfl]
    clear hd
    go_enter Tryd.func16, Tryd.ntmps16
    go_wp2_with fail
    refine (HB.out _).mono ?_
    rintro e w1 ⟨rfl, b1⟩
    go_wp2
    go_ret
    exact ⟨by simp, bn (below_two _ _ _) b1⟩

set_option maxHeartbeats 2000000 in
theorem refless_c (a b : Rc) (w : World) : Calls Tryd.prog 17 #[.agg #[.int .i64 a.o, .int .i64 a.s, .int .i64 a.w, .int .i64 a.c, .string a.t], .agg #[.int .i64 b.o, .int .i64 b.s, .int .i64 b.w, .int .i64 b.c, .string b.t]] w fun e w' => e = .returned (.bool (lessR a b)) ∧ Below w.heap.size w w' := by
  have q2 := eq_stamp a.w a.c b.w b.c
  have HL := Lib.hid (fun W => srefless_c a.w a.c b.w b.c W)
  have HB := Lib.hid (fun W => refbefore_c a.o a.s b.o b.s W)
  unfold lessR
  generalize slessB a.w a.c b.w b.c = L at HL ⊢
  generalize befB a.o a.s b.o b.s = B at HB ⊢
  generalize (a.w == b.w && a.c == b.c) = A at q2 ⊢
  have B1 := Lib.hid ((Bx.new 27 w #[.int .i64 a.o, .int .i64 a.s, .int .i64 a.w, .int .i64 a.c, .string a.t]).alloc (.cells #[.int .i64 b.o, .int .i64 b.s, .int .i64 b.w, .int .i64 b.c, .string b.t] 27))
  have B2 := Lib.hid (Bx.new 27 (w.alloc (.cells #[.int .i64 a.o, .int .i64 a.s, .int .i64 a.w, .int .i64 a.c, .string a.t] 27)) #[.int .i64 b.o, .int .i64 b.s, .int .i64 b.w, .int .i64 b.c, .string b.t])
  cases L
  · go_enter Tryd.func17, Tryd.ntmps17
    go_wp2_with fail
    refine (HL.out _).mono ?_
    rintro e w1 ⟨rfl, b1⟩
    obtain ⟨c0, c1, c2, c3, c4⟩ := (B1.out.below b1).five
    obtain ⟨d0, d1, d2, d3, d4⟩ := (B2.out.below b1).five
    simp only [World.size_alloc] at d0 d1 d2 d3 d4
    have hl := (B1.out.below b1).lt
    have hl2 : w.heap.size + 1 < w1.heap.size := by simpa using (B2.out.below b1).lt
    cases A
    · go_wp2
      go_ret
      exact ⟨by simp, bn (below_two _ _ _) b1⟩
    · go_wp2_with fail
      refine (HB.out _).mono ?_
      rintro e w2 ⟨rfl, b2⟩
      go_wp2
      go_ret
      exact ⟨by simp, bn (bn (below_two _ _ _) b1) b2⟩
  · go_enter Tryd.func17, Tryd.ntmps17
    go_wp2_with fail
    refine (HL.out _).mono ?_
    rintro e w1 ⟨rfl, b1⟩
    go_wp2
    go_ret
    exact ⟨by simp, bn (below_two _ _ _) b1⟩

def cmpR (a b : Rc) : Int := if lessR a b then -1 else if lessR b a then 1 else 0

theorem one_c (w : World) : Calls Tryd.prog 22 #[] w fun e w' => e = .returned (.agg #[.int .i64 0, .int .i64 1, .int .i64 7, .int .i64 0, .string ⟨#[97]⟩]) ∧ Below w.heap.size w w' := by
  go_enter Tryd.func22, Tryd.ntmps22
  go_wp2
  exact bodyPost_ret (v := .agg #[.int .i64 0, .int .i64 1, .int .i64 7, .int .i64 0, .string ⟨#[97]⟩]) (by simp [results, Tryd.results22, go_sem]) rfl ⟨rfl, alloc_below _ _⟩
end Go.Proofs.YtkmcieiglhdjeaaDoor
