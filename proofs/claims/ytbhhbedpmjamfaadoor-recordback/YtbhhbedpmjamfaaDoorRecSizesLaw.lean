/-
  RecordSizes, as a call: it answers true.
-/
import Derived.Test.YtbhhbedpmjamfaaDoorRecAwake
namespace Go.Proofs.YtbhhbedpmjamfaaDoor
open Go.RowKit Go.Lib

theorem lay_yes (r : Rc) (w : World) (hs : r.t.size ≤ 9223372036854775807) (hT : Tabs w) (hm : mayR r = true) : Calls Tryd.prog 26 #[.agg #[.int .i64 r.o, .int .i64 r.s, .int .i64 r.w, .int .i64 r.c, .string r.t]] w fun e w' => ∃ ad cap n, e = .returned (.tuple #[.slice ad n cap, .int .i64 0]) ∧ Hid (n = 12 + r.t.size) ∧ BRow w' w.heap.size (.slice ad n cap) (layL r) ∧ Below w.heap.size w w' := by
  refine (lay_c r w hs hT).mono ?_
  rintro e w' ⟨v, rfl, h, b⟩
  rw [hm] at h ⊢
  simp only [if_true] at h ⊢
  obtain ⟨ad, cap, rfl, _⟩ := h.nl.form
  exact ⟨ad, cap, _, rfl, Lib.hid (layL_len r), h, b⟩
theorem lay_no (r : Rc) (w : World) (hs : r.t.size ≤ 9223372036854775807) (hT : Tabs w) (hm : mayR r = false) : Calls Tryd.prog 26 #[.agg #[.int .i64 r.o, .int .i64 r.s, .int .i64 r.w, .int .i64 r.c, .string r.t]] w fun e w' => ∃ ad cap, e = .returned (.tuple #[.slice ad 0 cap, .int .i64 2]) ∧ Below w.heap.size w w' := by
  refine (lay_c r w hs hT).mono ?_
  rintro e w' ⟨v, rfl, h, b⟩
  rw [hm] at h ⊢
  simp only [Bool.false_eq_true, if_false] at h ⊢
  obtain ⟨ad, cap, rfl, _⟩ := h.nl.form
  exact ⟨ad, cap, rfl, b⟩

set_option maxHeartbeats 4000000 in
theorem sizes_great (a b : Rc) (w : World) (hT : Tabs w) (h : 300 < (a.t.size : Int) ∨ 300 < (b.t.size : Int)) :
    Calls Tryd.prog 8 #[.agg #[.int .i64 a.o, .int .i64 a.s, .int .i64 a.w, .int .i64 a.c, .string a.t], .agg #[.int .i64 b.o, .int .i64 b.s, .int .i64 b.w, .int .i64 b.c, .string b.t]] w fun e w' => e = .returned (.bool true) ∧ Below w.heap.size w w' := by
  have hA := Lib.hid (awake_c _ (hT.below (below_two w (.cells #[.int .i64 a.o, .int .i64 a.s, .int .i64 a.w, .int .i64 a.c, .string a.t] 27) (.cells #[.int .i64 b.o, .int .i64 b.s, .int .i64 b.w, .int .i64 b.c, .string b.t] 27))))
  by_cases h1 : 300 < (a.t.size : Int)
  · have e1 : decide (300 < (a.t.size : Int)) = true := by simpa using h1
    go_enter Tryd.func8, Tryd.ntmps8
    go_wp2_with fail
    refine hA.out.mono ?_
    rintro e w1 ⟨rfl, b1⟩
    go_wp2
    go_ret
    exact ⟨rfl, bn (below_two _ _ _) b1⟩
  · have e1 : decide (300 < (a.t.size : Int)) = false := by simpa using h1
    have e2 : decide (300 < (b.t.size : Int)) = true := by simp; omega
    go_enter Tryd.func8, Tryd.ntmps8
    go_wp2_with fail
    refine hA.out.mono ?_
    rintro e w1 ⟨rfl, b1⟩
    go_wp2
    go_ret
    exact ⟨rfl, bn (below_two _ _ _) b1⟩

set_option maxHeartbeats 8000000 in
set_option maxRecDepth 100000 in
theorem sizes_yy (a b : Rc) (w : World) (hT : Tabs w) (h1 : ¬ 300 < (a.t.size : Int)) (h2 : ¬ 300 < (b.t.size : Int)) (ha : mayR a = true) (hb : mayR b = true) :
    Calls Tryd.prog 8 #[.agg #[.int .i64 a.o, .int .i64 a.s, .int .i64 a.w, .int .i64 a.c, .string a.t], .agg #[.int .i64 b.o, .int .i64 b.s, .int .i64 b.w, .int .i64 b.c, .string b.t]] w fun e w' => e = .returned (.bool true) ∧ Below w.heap.size w w' := by
  have HT := Lib.hid hT
  have e1 : decide (300 < (a.t.size : Int)) = false := by simpa using h1
  have e2 : decide (300 < (b.t.size : Int)) = false := by simpa using h2
  have HLA := Lib.hid (fun W (hw : Below w.heap.size w W) => lay_yes a W (by omega) (hT.below hw) ha)
  have HLB := Lib.hid (fun W (hw : Below w.heap.size w W) => lay_yes b W (by omega) (hT.below hw) hb)
  have HMA := Lib.hid (fun W (hw : Below w.heap.size w W) => may_c a W (by omega) (hT.below hw))
  have HMB := Lib.hid (fun W (hw : Below w.heap.size w W) => may_c b W (by omega) (hT.below hw))
  rw [ha] at HMA
  rw [hb] at HMB
  have HI : Hid (sameB (layL a) (layL b) = sameR a b) := Lib.hid (lay_inj a b ha hb)
  have X1 := Lib.hid ((Bx.new 27 w #[.int .i64 a.o, .int .i64 a.s, .int .i64 a.w, .int .i64 a.c, .string a.t]).alloc (.cells #[.int .i64 b.o, .int .i64 b.s, .int .i64 b.w, .int .i64 b.c, .string b.t] 27))
  have X2 : Hid (Bx 27 ((w.alloc (.cells #[.int .i64 a.o, .int .i64 a.s, .int .i64 a.w, .int .i64 a.c, .string a.t] 27)).alloc (.cells #[.int .i64 b.o, .int .i64 b.s, .int .i64 b.w, .int .i64 b.c, .string b.t] 27)) (w.heap.size + 1) #[.int .i64 b.o, .int .i64 b.s, .int .i64 b.w, .int .i64 b.c, .string b.t]) := Lib.hid (by have h := Bx.new 27 (w.alloc (.cells #[.int .i64 a.o, .int .i64 a.s, .int .i64 a.w, .int .i64 a.c, .string a.t] 27)) #[.int .i64 b.o, .int .i64 b.s, .int .i64 b.w, .int .i64 b.c, .string b.t]; simpa using h)
  clear hT ha hb
  go_enter Tryd.func8, Tryd.ntmps8
  go_wp2_with fail
  refine (HLA.out _ (below_two _ _ _)).mono ?_
  rintro e w1 ⟨ad1, cap1, n1, rfl, hn1, r1, b1⟩
  have HX1_1 := Lib.hid (X1.out.below b1)
  have HX2_1 := Lib.hid (X2.out.below b1)
  obtain ⟨c0, c1, c2, c3, c4⟩ := HX1_1.out.five
  obtain ⟨d0, d1, d2, d3, d4⟩ := HX2_1.out.five
  have hl1 := HX1_1.out.lt
  have hl2 := HX2_1.out.lt
  have B1 := Lib.hid (bn (below_two w (.cells #[.int .i64 a.o, .int .i64 a.s, .int .i64 a.w, .int .i64 a.c, .string a.t] 27) (.cells #[.int .i64 b.o, .int .i64 b.s, .int .i64 b.w, .int .i64 b.c, .string b.t] 27)) b1)
  have R1_1 := Lib.hid r1
  clear r1
  go_wp2_with fail
  refine (HLB.out _ B1.out).mono ?_
  rintro e w2 ⟨ad2, cap2, n2, rfl, hn2, r2, b2⟩
  clear c0 c1 c2 c3 c4 d0 d1 d2 d3 d4 hl1 hl2
  have HX1_2 := Lib.hid (HX1_1.out.below b2)
  have HX2_2 := Lib.hid (HX2_1.out.below b2)
  obtain ⟨c0, c1, c2, c3, c4⟩ := HX1_2.out.five
  obtain ⟨d0, d1, d2, d3, d4⟩ := HX2_2.out.five
  have hl1 := HX1_2.out.lt
  have hl2 := HX2_2.out.lt
  have B2 := Lib.hid (bn B1.out b2)
  have R1_2 := Lib.hid (R1_1.out.below b2)
  have R2_2 := Lib.hid r2
  clear r2
  go_wp2_with fail
  refine (HMA.out _ B2.out).mono ?_
  rintro e w3 ⟨rfl, b3⟩
  clear c0 c1 c2 c3 c4 d0 d1 d2 d3 d4 hl1 hl2
  have HX1_3 := Lib.hid (HX1_2.out.below b3)
  have HX2_3 := Lib.hid (HX2_2.out.below b3)
  obtain ⟨c0, c1, c2, c3, c4⟩ := HX1_3.out.five
  obtain ⟨d0, d1, d2, d3, d4⟩ := HX2_3.out.five
  have hl1 := HX1_3.out.lt
  have hl2 := HX2_3.out.lt
  have B3 := Lib.hid (bn B2.out b3)
  go_wp2_with fail
  refine (HMB.out _ B3.out).mono ?_
  rintro e w4 ⟨rfl, b4⟩
  clear c0 c1 c2 c3 c4 d0 d1 d2 d3 d4 hl1 hl2
  have HX1_4 := Lib.hid (HX1_3.out.below b4)
  have HX2_4 := Lib.hid (HX2_3.out.below b4)
  obtain ⟨c0, c1, c2, c3, c4⟩ := HX1_4.out.five
  obtain ⟨d0, d1, d2, d3, d4⟩ := HX2_4.out.five
  have hl1 := HX1_4.out.lt
  have hl2 := HX2_4.out.lt
  have B4 := Lib.hid (bn B3.out b4)
  have R1_4 := Lib.hid ((R1_2.out.below b3).below b4)
  have R2_4 := Lib.hid ((R2_2.out.below b3).below b4)
  clear b1 b2 b3 b4 R1_1 R1_2 R2_2 HX1_1 HX1_2 HX1_3 HX2_1 HX2_2 HX2_3 B1 B2 B3 X1 X2 HLA HLB HMA HMB
  clear c0 c1 c2 c3 d0 d1 d2 d3
  have HS : Hid (∀ w' : World, Below w4.heap.size w4 w' → w'.cell? ⟨w.heap.size, 0, none⟩ = some (.int .i64 a.o) ∧ w'.cell? ⟨w.heap.size, 1, none⟩ = some (.int .i64 a.s) ∧ w'.cell? ⟨w.heap.size, 2, none⟩ = some (.int .i64 a.w) ∧ w'.cell? ⟨w.heap.size, 3, none⟩ = some (.int .i64 a.c) ∧ w'.cell? ⟨w.heap.size, 4, none⟩ = some (.string a.t) ∧ w'.cell? ⟨w.heap.size + 1, 0, none⟩ = some (.int .i64 b.o) ∧ w'.cell? ⟨w.heap.size + 1, 1, none⟩ = some (.int .i64 b.s) ∧ w'.cell? ⟨w.heap.size + 1, 2, none⟩ = some (.int .i64 b.w) ∧ w'.cell? ⟨w.heap.size + 1, 3, none⟩ = some (.int .i64 b.c) ∧ w'.cell? ⟨w.heap.size + 1, 4, none⟩ = some (.string b.t)) := Lib.hid (fun w' hb => by
    obtain ⟨c0, c1, c2, c3, c4⟩ := (HX1_4.out.below hb).five
    obtain ⟨d0, d1, d2, d3, d4⟩ := (HX2_4.out.below hb).five
    exact ⟨c0, c1, c2, c3, c4, d0, d1, d2, d3, d4⟩)
  have HSB : Hid (∀ W, Below w4.heap.size w4 W → Calls Tryd.prog 28 #[.slice ad1 n1 cap1, .slice ad2 n2 cap2] W fun e w' => e = .returned (.bool (sameR a b)) ∧ Below W.heap.size W w') := Lib.hid (fun W hw => by
    have h := bsame_c (layL a) (layL b) _ _ W ((R1_4.out.below hw).nl) ((R2_4.out.below hw).nl) (by rw [layL_len]; omega)
    rw [HI.out] at h
    exact h)
  have HSR : Hid (∀ W, Calls Tryd.prog 19 #[.agg #[.int .i64 a.o, .int .i64 a.s, .int .i64 a.w, .int .i64 a.c, .string a.t], .agg #[.int .i64 b.o, .int .i64 b.s, .int .i64 b.w, .int .i64 b.c, .string b.t]] W fun e w' => e = .returned (.bool (sameR a b)) ∧ Below W.heap.size W w') := Lib.hid (fun W => same_c a b W)
  have HAW : Hid (∀ W, Below w4.heap.size w4 W → Calls Tryd.prog 11 #[] W fun e w' => e = .returned (.bool true) ∧ Below W.heap.size W w') := Lib.hid (fun W hw => awake_c W (HT.out.below (bn B4.out hw)))
  generalize sameR a b = K at HSB HSR HI
  have hlen : ((n1 : Int) == 12 + (a.t.size : Int)) = true := by rw [hn1.out]; simp
  have hlen5 : ((n1 : Int) == IntKind.i64.wrap (12 + (a.t.size : Int))) = true := by rw [hn1.out, IntKind.wrap_i64]; simp; omega
  cases K
  all_goals (
    go_wp2_with fail
    go_region_held3 (fun w' => w'.cell? ⟨w.heap.size, 0, none⟩ = some (.int .i64 a.o) ∧ w'.cell? ⟨w.heap.size, 1, none⟩ = some (.int .i64 a.s) ∧ w'.cell? ⟨w.heap.size, 2, none⟩ = some (.int .i64 a.w) ∧ w'.cell? ⟨w.heap.size, 3, none⟩ = some (.int .i64 a.c) ∧ w'.cell? ⟨w.heap.size, 4, none⟩ = some (.string a.t) ∧ w'.cell? ⟨w.heap.size + 1, 0, none⟩ = some (.int .i64 b.o) ∧ w'.cell? ⟨w.heap.size + 1, 1, none⟩ = some (.int .i64 b.s) ∧ w'.cell? ⟨w.heap.size + 1, 2, none⟩ = some (.int .i64 b.w) ∧ w'.cell? ⟨w.heap.size + 1, 3, none⟩ = some (.int .i64 b.c) ∧ w'.cell? ⟨w.heap.size + 1, 4, none⟩ = some (.string b.t)) (exact HS.out _ (by first | assumption | exact (Below.refl _ _).drew | exact Below.refl _ _))
      (first
      | (go_at_call 28; refine (HSB.out _ (by first | assumption | exact (Below.refl _ _).drew | exact Below.refl _ _)).mono ?_; rintro e w5 ⟨rfl, b5⟩; have b5' : Below w4.heap.size w4 w5 := bn (by first | assumption | exact (Below.refl _ _).drew | exact Below.refl _ _) b5; clear b5)
      | (go_at_call 19; refine (HSR.out _).mono ?_; rintro e w5 ⟨rfl, b5⟩; have b5' : Below w4.heap.size w4 w5 := bn (by first | assumption | exact (Below.refl _ _).drew | exact Below.refl _ _) b5; clear b5)
      | (go_at_call 11; refine (HAW.out _ (by assumption)).mono ?_; rintro e w5 ⟨rfl, b5⟩; have b5' : Below w4.heap.size w4 w5 := bn (by first | assumption | exact (Below.refl _ _).drew | exact Below.refl _ _) b5; clear b5))
    go_wp2
    go_ret
    exact ⟨rfl, bn B4.out b5'⟩)

set_option maxHeartbeats 8000000 in
theorem sizes_yn (a b : Rc) (w : World) (hT : Tabs w) (h1 : ¬ 300 < (a.t.size : Int)) (h2 : ¬ 300 < (b.t.size : Int)) (ha : mayR a = true) (hb : mayR b = false) :
    Calls Tryd.prog 8 #[.agg #[.int .i64 a.o, .int .i64 a.s, .int .i64 a.w, .int .i64 a.c, .string a.t], .agg #[.int .i64 b.o, .int .i64 b.s, .int .i64 b.w, .int .i64 b.c, .string b.t]] w fun e w' => e = .returned (.bool true) ∧ Below w.heap.size w w' := by
  have HT := Lib.hid hT
  have e1 : decide (300 < (a.t.size : Int)) = false := by simpa using h1
  have e2 : decide (300 < (b.t.size : Int)) = false := by simpa using h2
  have HLA := Lib.hid (fun W (hw : Below w.heap.size w W) => lay_yes a W (by omega) (hT.below hw) ha)
  have HLB := Lib.hid (fun W (hw : Below w.heap.size w W) => lay_no b W (by omega) (hT.below hw) hb)
  have HMA := Lib.hid (fun W (hw : Below w.heap.size w W) => may_c a W (by omega) (hT.below hw))
  have HMB := Lib.hid (fun W (hw : Below w.heap.size w W) => may_c b W (by omega) (hT.below hw))
  rw [ha] at HMA
  rw [hb] at HMB
  have HI : Hid (True) := Lib.hid (trivial)
  have X1 := Lib.hid ((Bx.new 27 w #[.int .i64 a.o, .int .i64 a.s, .int .i64 a.w, .int .i64 a.c, .string a.t]).alloc (.cells #[.int .i64 b.o, .int .i64 b.s, .int .i64 b.w, .int .i64 b.c, .string b.t] 27))
  have X2 : Hid (Bx 27 ((w.alloc (.cells #[.int .i64 a.o, .int .i64 a.s, .int .i64 a.w, .int .i64 a.c, .string a.t] 27)).alloc (.cells #[.int .i64 b.o, .int .i64 b.s, .int .i64 b.w, .int .i64 b.c, .string b.t] 27)) (w.heap.size + 1) #[.int .i64 b.o, .int .i64 b.s, .int .i64 b.w, .int .i64 b.c, .string b.t]) := Lib.hid (by have h := Bx.new 27 (w.alloc (.cells #[.int .i64 a.o, .int .i64 a.s, .int .i64 a.w, .int .i64 a.c, .string a.t] 27)) #[.int .i64 b.o, .int .i64 b.s, .int .i64 b.w, .int .i64 b.c, .string b.t]; simpa using h)
  clear hT ha hb
  go_enter Tryd.func8, Tryd.ntmps8
  go_wp2_with fail
  refine (HLA.out _ (below_two _ _ _)).mono ?_
  rintro e w1 ⟨ad1, cap1, n1, rfl, hn1, r1, b1⟩
  have HX1_1 := Lib.hid (X1.out.below b1)
  have HX2_1 := Lib.hid (X2.out.below b1)
  obtain ⟨c0, c1, c2, c3, c4⟩ := HX1_1.out.five
  obtain ⟨d0, d1, d2, d3, d4⟩ := HX2_1.out.five
  have hl1 := HX1_1.out.lt
  have hl2 := HX2_1.out.lt
  have B1 := Lib.hid (bn (below_two w (.cells #[.int .i64 a.o, .int .i64 a.s, .int .i64 a.w, .int .i64 a.c, .string a.t] 27) (.cells #[.int .i64 b.o, .int .i64 b.s, .int .i64 b.w, .int .i64 b.c, .string b.t] 27)) b1)
  have R1_1 := Lib.hid r1
  clear r1
  go_wp2_with fail
  refine (HLB.out _ B1.out).mono ?_
  rintro e w2 ⟨ad2, cap2, rfl, b2⟩
  clear c0 c1 c2 c3 c4 d0 d1 d2 d3 d4 hl1 hl2
  have HX1_2 := Lib.hid (HX1_1.out.below b2)
  have HX2_2 := Lib.hid (HX2_1.out.below b2)
  obtain ⟨c0, c1, c2, c3, c4⟩ := HX1_2.out.five
  obtain ⟨d0, d1, d2, d3, d4⟩ := HX2_2.out.five
  have hl1 := HX1_2.out.lt
  have hl2 := HX2_2.out.lt
  have B2 := Lib.hid (bn B1.out b2)
  have R1_2 := Lib.hid (R1_1.out.below b2)
  go_wp2_with fail
  refine (HMA.out _ B2.out).mono ?_
  rintro e w3 ⟨rfl, b3⟩
  clear c0 c1 c2 c3 c4 d0 d1 d2 d3 d4 hl1 hl2
  have HX1_3 := Lib.hid (HX1_2.out.below b3)
  have HX2_3 := Lib.hid (HX2_2.out.below b3)
  obtain ⟨c0, c1, c2, c3, c4⟩ := HX1_3.out.five
  obtain ⟨d0, d1, d2, d3, d4⟩ := HX2_3.out.five
  have hl1 := HX1_3.out.lt
  have hl2 := HX2_3.out.lt
  have B3 := Lib.hid (bn B2.out b3)
  go_wp2_with fail
  refine (HMB.out _ B3.out).mono ?_
  rintro e w4 ⟨rfl, b4⟩
  clear c0 c1 c2 c3 c4 d0 d1 d2 d3 d4 hl1 hl2
  have HX1_4 := Lib.hid (HX1_3.out.below b4)
  have HX2_4 := Lib.hid (HX2_3.out.below b4)
  obtain ⟨c0, c1, c2, c3, c4⟩ := HX1_4.out.five
  obtain ⟨d0, d1, d2, d3, d4⟩ := HX2_4.out.five
  have hl1 := HX1_4.out.lt
  have hl2 := HX2_4.out.lt
  have B4 := Lib.hid (bn B3.out b4)
  clear c0 c1 c2 c3 c4 d0 d1 d2 d3 d4 hl1 hl2
  go_wp2_with fail
  refine (awake_c w4 (HT.out.below B4.out)).mono ?_
  rintro e w5 ⟨rfl, b5⟩
  go_wp2
  go_ret
  exact ⟨rfl, bn B4.out b5⟩

set_option maxHeartbeats 8000000 in
theorem sizes_ny (a b : Rc) (w : World) (hT : Tabs w) (h1 : ¬ 300 < (a.t.size : Int)) (h2 : ¬ 300 < (b.t.size : Int)) (ha : mayR a = false) (hb : mayR b = true) :
    Calls Tryd.prog 8 #[.agg #[.int .i64 a.o, .int .i64 a.s, .int .i64 a.w, .int .i64 a.c, .string a.t], .agg #[.int .i64 b.o, .int .i64 b.s, .int .i64 b.w, .int .i64 b.c, .string b.t]] w fun e w' => e = .returned (.bool true) ∧ Below w.heap.size w w' := by
  have HT := Lib.hid hT
  have e1 : decide (300 < (a.t.size : Int)) = false := by simpa using h1
  have e2 : decide (300 < (b.t.size : Int)) = false := by simpa using h2
  have HLA := Lib.hid (fun W (hw : Below w.heap.size w W) => lay_no a W (by omega) (hT.below hw) ha)
  have HLB := Lib.hid (fun W (hw : Below w.heap.size w W) => lay_yes b W (by omega) (hT.below hw) hb)
  have HMA := Lib.hid (fun W (hw : Below w.heap.size w W) => may_c a W (by omega) (hT.below hw))
  have HMB := Lib.hid (fun W (hw : Below w.heap.size w W) => may_c b W (by omega) (hT.below hw))
  rw [ha] at HMA
  rw [hb] at HMB
  have HI : Hid (True) := Lib.hid (trivial)
  have X1 := Lib.hid ((Bx.new 27 w #[.int .i64 a.o, .int .i64 a.s, .int .i64 a.w, .int .i64 a.c, .string a.t]).alloc (.cells #[.int .i64 b.o, .int .i64 b.s, .int .i64 b.w, .int .i64 b.c, .string b.t] 27))
  have X2 : Hid (Bx 27 ((w.alloc (.cells #[.int .i64 a.o, .int .i64 a.s, .int .i64 a.w, .int .i64 a.c, .string a.t] 27)).alloc (.cells #[.int .i64 b.o, .int .i64 b.s, .int .i64 b.w, .int .i64 b.c, .string b.t] 27)) (w.heap.size + 1) #[.int .i64 b.o, .int .i64 b.s, .int .i64 b.w, .int .i64 b.c, .string b.t]) := Lib.hid (by have h := Bx.new 27 (w.alloc (.cells #[.int .i64 a.o, .int .i64 a.s, .int .i64 a.w, .int .i64 a.c, .string a.t] 27)) #[.int .i64 b.o, .int .i64 b.s, .int .i64 b.w, .int .i64 b.c, .string b.t]; simpa using h)
  clear hT ha hb
  go_enter Tryd.func8, Tryd.ntmps8
  go_wp2_with fail
  refine (HLA.out _ (below_two _ _ _)).mono ?_
  rintro e w1 ⟨ad1, cap1, rfl, b1⟩
  have HX1_1 := Lib.hid (X1.out.below b1)
  have HX2_1 := Lib.hid (X2.out.below b1)
  obtain ⟨c0, c1, c2, c3, c4⟩ := HX1_1.out.five
  obtain ⟨d0, d1, d2, d3, d4⟩ := HX2_1.out.five
  have hl1 := HX1_1.out.lt
  have hl2 := HX2_1.out.lt
  have B1 := Lib.hid (bn (below_two w (.cells #[.int .i64 a.o, .int .i64 a.s, .int .i64 a.w, .int .i64 a.c, .string a.t] 27) (.cells #[.int .i64 b.o, .int .i64 b.s, .int .i64 b.w, .int .i64 b.c, .string b.t] 27)) b1)
  go_wp2_with fail
  refine (HLB.out _ B1.out).mono ?_
  rintro e w2 ⟨ad2, cap2, n2, rfl, hn2, r2, b2⟩
  clear c0 c1 c2 c3 c4 d0 d1 d2 d3 d4 hl1 hl2
  have HX1_2 := Lib.hid (HX1_1.out.below b2)
  have HX2_2 := Lib.hid (HX2_1.out.below b2)
  obtain ⟨c0, c1, c2, c3, c4⟩ := HX1_2.out.five
  obtain ⟨d0, d1, d2, d3, d4⟩ := HX2_2.out.five
  have hl1 := HX1_2.out.lt
  have hl2 := HX2_2.out.lt
  have B2 := Lib.hid (bn B1.out b2)
  have R2_2 := Lib.hid r2
  clear r2
  go_wp2_with fail
  refine (HMA.out _ B2.out).mono ?_
  rintro e w3 ⟨rfl, b3⟩
  clear c0 c1 c2 c3 c4 d0 d1 d2 d3 d4 hl1 hl2
  have HX1_3 := Lib.hid (HX1_2.out.below b3)
  have HX2_3 := Lib.hid (HX2_2.out.below b3)
  obtain ⟨c0, c1, c2, c3, c4⟩ := HX1_3.out.five
  obtain ⟨d0, d1, d2, d3, d4⟩ := HX2_3.out.five
  have hl1 := HX1_3.out.lt
  have hl2 := HX2_3.out.lt
  have B3 := Lib.hid (bn B2.out b3)
  go_wp2_with fail
  refine (HMB.out _ B3.out).mono ?_
  rintro e w4 ⟨rfl, b4⟩
  clear c0 c1 c2 c3 c4 d0 d1 d2 d3 d4 hl1 hl2
  have HX1_4 := Lib.hid (HX1_3.out.below b4)
  have HX2_4 := Lib.hid (HX2_3.out.below b4)
  obtain ⟨c0, c1, c2, c3, c4⟩ := HX1_4.out.five
  obtain ⟨d0, d1, d2, d3, d4⟩ := HX2_4.out.five
  have hl1 := HX1_4.out.lt
  have hl2 := HX2_4.out.lt
  have B4 := Lib.hid (bn B3.out b4)
  clear c0 c1 c2 c3 c4 d0 d1 d2 d3 d4 hl1 hl2
  go_wp2_with fail
  refine (awake_c w4 (HT.out.below B4.out)).mono ?_
  rintro e w5 ⟨rfl, b5⟩
  go_wp2
  go_ret
  exact ⟨rfl, bn B4.out b5⟩

set_option maxHeartbeats 8000000 in
theorem sizes_nn (a b : Rc) (w : World) (hT : Tabs w) (h1 : ¬ 300 < (a.t.size : Int)) (h2 : ¬ 300 < (b.t.size : Int)) (ha : mayR a = false) (hb : mayR b = false) :
    Calls Tryd.prog 8 #[.agg #[.int .i64 a.o, .int .i64 a.s, .int .i64 a.w, .int .i64 a.c, .string a.t], .agg #[.int .i64 b.o, .int .i64 b.s, .int .i64 b.w, .int .i64 b.c, .string b.t]] w fun e w' => e = .returned (.bool true) ∧ Below w.heap.size w w' := by
  have HT := Lib.hid hT
  have e1 : decide (300 < (a.t.size : Int)) = false := by simpa using h1
  have e2 : decide (300 < (b.t.size : Int)) = false := by simpa using h2
  have HLA := Lib.hid (fun W (hw : Below w.heap.size w W) => lay_no a W (by omega) (hT.below hw) ha)
  have HLB := Lib.hid (fun W (hw : Below w.heap.size w W) => lay_no b W (by omega) (hT.below hw) hb)
  have HMA := Lib.hid (fun W (hw : Below w.heap.size w W) => may_c a W (by omega) (hT.below hw))
  have HMB := Lib.hid (fun W (hw : Below w.heap.size w W) => may_c b W (by omega) (hT.below hw))
  rw [ha] at HMA
  rw [hb] at HMB
  have HI : Hid (True) := Lib.hid (trivial)
  have X1 := Lib.hid ((Bx.new 27 w #[.int .i64 a.o, .int .i64 a.s, .int .i64 a.w, .int .i64 a.c, .string a.t]).alloc (.cells #[.int .i64 b.o, .int .i64 b.s, .int .i64 b.w, .int .i64 b.c, .string b.t] 27))
  have X2 : Hid (Bx 27 ((w.alloc (.cells #[.int .i64 a.o, .int .i64 a.s, .int .i64 a.w, .int .i64 a.c, .string a.t] 27)).alloc (.cells #[.int .i64 b.o, .int .i64 b.s, .int .i64 b.w, .int .i64 b.c, .string b.t] 27)) (w.heap.size + 1) #[.int .i64 b.o, .int .i64 b.s, .int .i64 b.w, .int .i64 b.c, .string b.t]) := Lib.hid (by have h := Bx.new 27 (w.alloc (.cells #[.int .i64 a.o, .int .i64 a.s, .int .i64 a.w, .int .i64 a.c, .string a.t] 27)) #[.int .i64 b.o, .int .i64 b.s, .int .i64 b.w, .int .i64 b.c, .string b.t]; simpa using h)
  clear hT ha hb
  go_enter Tryd.func8, Tryd.ntmps8
  go_wp2_with fail
  refine (HLA.out _ (below_two _ _ _)).mono ?_
  rintro e w1 ⟨ad1, cap1, rfl, b1⟩
  have HX1_1 := Lib.hid (X1.out.below b1)
  have HX2_1 := Lib.hid (X2.out.below b1)
  obtain ⟨c0, c1, c2, c3, c4⟩ := HX1_1.out.five
  obtain ⟨d0, d1, d2, d3, d4⟩ := HX2_1.out.five
  have hl1 := HX1_1.out.lt
  have hl2 := HX2_1.out.lt
  have B1 := Lib.hid (bn (below_two w (.cells #[.int .i64 a.o, .int .i64 a.s, .int .i64 a.w, .int .i64 a.c, .string a.t] 27) (.cells #[.int .i64 b.o, .int .i64 b.s, .int .i64 b.w, .int .i64 b.c, .string b.t] 27)) b1)
  go_wp2_with fail
  refine (HLB.out _ B1.out).mono ?_
  rintro e w2 ⟨ad2, cap2, rfl, b2⟩
  clear c0 c1 c2 c3 c4 d0 d1 d2 d3 d4 hl1 hl2
  have HX1_2 := Lib.hid (HX1_1.out.below b2)
  have HX2_2 := Lib.hid (HX2_1.out.below b2)
  obtain ⟨c0, c1, c2, c3, c4⟩ := HX1_2.out.five
  obtain ⟨d0, d1, d2, d3, d4⟩ := HX2_2.out.five
  have hl1 := HX1_2.out.lt
  have hl2 := HX2_2.out.lt
  have B2 := Lib.hid (bn B1.out b2)
  go_wp2_with fail
  refine (HMA.out _ B2.out).mono ?_
  rintro e w3 ⟨rfl, b3⟩
  clear c0 c1 c2 c3 c4 d0 d1 d2 d3 d4 hl1 hl2
  have HX1_3 := Lib.hid (HX1_2.out.below b3)
  have HX2_3 := Lib.hid (HX2_2.out.below b3)
  obtain ⟨c0, c1, c2, c3, c4⟩ := HX1_3.out.five
  obtain ⟨d0, d1, d2, d3, d4⟩ := HX2_3.out.five
  have hl1 := HX1_3.out.lt
  have hl2 := HX2_3.out.lt
  have B3 := Lib.hid (bn B2.out b3)
  go_wp2_with fail
  refine (HMB.out _ B3.out).mono ?_
  rintro e w4 ⟨rfl, b4⟩
  clear c0 c1 c2 c3 c4 d0 d1 d2 d3 d4 hl1 hl2
  have HX1_4 := Lib.hid (HX1_3.out.below b4)
  have HX2_4 := Lib.hid (HX2_3.out.below b4)
  obtain ⟨c0, c1, c2, c3, c4⟩ := HX1_4.out.five
  obtain ⟨d0, d1, d2, d3, d4⟩ := HX2_4.out.five
  have hl1 := HX1_4.out.lt
  have hl2 := HX2_4.out.lt
  have B4 := Lib.hid (bn B3.out b4)
  clear c0 c1 c2 c3 c4 d0 d1 d2 d3 d4 hl1 hl2
  go_wp2_with fail
  refine (awake_c w4 (HT.out.below B4.out)).mono ?_
  rintro e w5 ⟨rfl, b5⟩
  go_wp2
  go_ret
  exact ⟨rfl, bn B4.out b5⟩

end Go.Proofs.YtbhhbedpmjamfaaDoor
