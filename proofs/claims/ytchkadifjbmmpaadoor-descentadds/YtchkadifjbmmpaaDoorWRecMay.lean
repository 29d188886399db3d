/-
  May, Same, Before, Less of records, of the program and of chapter 4's own answer, by contract.
-/
import Derived.Test.YtchkadifjbmmpaaDoorWRecBase
namespace Go.Proofs.YtchkadifjbmmpaaDoor.R
open Go.RowKit Go.Lib
set_option maxRecDepth 100000

set_option maxHeartbeats 1000000 in
theorem maykey_c (o s : Int) (w : World) : Calls Tryd.prog 27 #[.agg #[.int .i64 o, .int .i64 s]] w fun e w' => e = .returned (.bool (keyB o s)) ∧ Below w.heap.size w w' := by
  unfold keyB
  by_cases h1 : 0 ≤ o
  · have e1 : decide (0 ≤ o) = true := by simpa using h1
    by_cases h2 : o < 8
    · have e2 : decide (o < 8) = true := by simpa using h2
      by_cases h3 : 1 ≤ s
      · have e3 : decide (1 ≤ s) = true := by simpa using h3
        generalize hC : decide (s ≤ 1023) = C
        go_enter Tryd.func27, Tryd.ntmps27
        go_wp2
        go_ret
        exact ⟨by simp [h1, h2, h3], alloc_below _ _⟩
      · have e3 : decide (1 ≤ s) = false := by simpa using h3
        go_enter Tryd.func27, Tryd.ntmps27
        go_wp2
        go_ret
        exact ⟨by simp, alloc_below _ _⟩
    · have e2 : decide (o < 8) = false := by simpa using h2
      go_enter Tryd.func27, Tryd.ntmps27
      go_wp2
      go_ret
      exact ⟨by simp, alloc_below _ _⟩
  · have e1 : decide (0 ≤ o) = false := by simpa using h1
    go_enter Tryd.func27, Tryd.ntmps27
    go_wp2
    go_ret
    exact ⟨by simp, alloc_below _ _⟩

set_option maxHeartbeats 2000000 in
theorem refmay_c (r : Rc) (w : World) (hs : r.t.size ≤ 9223372036854775807) (hT : Tabs w) :
    Calls Tryd.prog 47 #[.agg #[.int .i64 r.o, .int .i64 r.s, .int .i64 r.w, .int .i64 r.c, .string r.t]] w fun e w' => e = .returned (.bool (mayR r)) ∧ Below w.heap.size w w' := by
  have cK := fun W => maykey_c r.o r.s W
  have cS := fun W => srefmay_c r.w r.c W
  have cT := fun W hT => trefmay_c r.t W hs hT
  unfold mayR
  generalize keyB r.o r.s = K at cK ⊢
  generalize smayB r.w r.c = S at cS ⊢
  generalize tmayB r.t.data.toList = T at cT ⊢
  have HK := Lib.hid cK
  have HS := Lib.hid cS
  have HT := Lib.hid cT
  have hT' := Lib.hid hT
  have hB := Lib.hid (Bx.new 36 w #[.int .i64 r.o, .int .i64 r.s, .int .i64 r.w, .int .i64 r.c, .string r.t])
  clear cK cS cT hT
  cases K
  · go_enter Tryd.func47, Tryd.ntmps47
    go_wp2_with fail
    refine (HK.out _).mono ?_
    rintro e w1 ⟨rfl, b1⟩
    go_wp2
    go_ret
    exact ⟨rfl, bn (alloc_below _ _) b1⟩
  · go_enter Tryd.func47, Tryd.ntmps47
    go_wp2_with fail
    refine (HK.out _).mono ?_
    rintro e w1 ⟨rfl, b1⟩
    obtain ⟨c0, c1, c2, c3, c4⟩ := (hB.out.below b1).five
    have hl := (hB.out.below b1).lt
    go_wp2_with fail
    refine (HS.out _).mono ?_
    rintro e w2 ⟨rfl, b2⟩
    clear c0 c1 c2 c3 c4 hl
    cases S
    · go_wp2
      go_ret
      exact ⟨rfl, bn (bn (alloc_below _ _) b1) b2⟩
    · obtain ⟨c0, c1, c2, c3, c4⟩ := ((hB.out.below b1).below b2).five
      have hl := ((hB.out.below b1).below b2).lt
      go_wp2_with fail
      refine (HT.out _ (hT'.out.below (bn (bn (alloc_below _ _) b1) b2))).mono ?_
      rintro e w3 ⟨rfl, b3⟩
      go_wp2
      go_ret
      exact ⟨by simp, bn (bn (bn (alloc_below _ _) b1) b2) b3⟩

theorem may_no (r : Rc) (w : World) (hK : keyB r.o r.s = false) :
    Calls Tryd.prog 64 #[.agg #[.int .i64 r.o, .int .i64 r.s, .int .i64 r.w, .int .i64 r.c, .string r.t]] w fun e w' => e = .returned (.bool false) ∧ Below w.heap.size w w' := by
  unfold keyB at hK
  by_cases h1 : 0 ≤ r.o
  · have e1 : decide (0 ≤ r.o) = true := by simpa using h1
    by_cases h2 : r.o < 8
    · have e2 : decide (r.o < 8) = true := by simpa using h2
      by_cases h3 : 1 ≤ r.s
      · have e3 : decide (1 ≤ r.s) = true := by simpa using h3
        have e4 : decide (r.s ≤ 1023) = false := by simpa [h1, h2, h3] using hK
        go_enter Tryd.func64, Tryd.ntmps64
        go_wp2
        go_ret
        exact ⟨by simp, alloc_below _ _⟩
      · have e3 : decide (1 ≤ r.s) = false := by simpa using h3
        go_enter Tryd.func64, Tryd.ntmps64
        go_wp2
        go_ret
        exact ⟨by simp, alloc_below _ _⟩
    · have e2 : decide (r.o < 8) = false := by simpa using h2
      go_enter Tryd.func64, Tryd.ntmps64
      go_wp2
      go_ret
      exact ⟨by simp, alloc_below _ _⟩
  · have e1 : decide (0 ≤ r.o) = false := by simpa using h1
    go_enter Tryd.func64, Tryd.ntmps64
    go_wp2
    go_ret
    exact ⟨by simp, alloc_below _ _⟩

set_option maxHeartbeats 2000000 in
theorem may_c (r : Rc) (w : World) (hs : r.t.size ≤ 9223372036854775807) (hT : Tabs w) :
    Calls Tryd.prog 64 #[.agg #[.int .i64 r.o, .int .i64 r.s, .int .i64 r.w, .int .i64 r.c, .string r.t]] w fun e w' => e = .returned (.bool (mayR r)) ∧ Below w.heap.size w w' := by
  cases hK : keyB r.o r.s
  · have h := may_no r w hK
    unfold mayR
    rw [hK, Bool.false_and]
    exact h
  have cS := fun W => smay_c r.w r.c W
  have cT := fun W hT => tmay_c r.t W hs hT
  unfold mayR
  rw [hK, Bool.true_and]
  unfold keyB at hK
  simp only [Bool.and_eq_true] at hK
  obtain ⟨e1, e2, e3, e4⟩ := hK
  generalize smayB r.w r.c = S at cS ⊢
  generalize tmayB r.t.data.toList = T at cT ⊢
  have HS := Lib.hid cS
  have HT := Lib.hid cT
  have hT' := Lib.hid hT
  have hB := Lib.hid (Bx.new 36 w #[.int .i64 r.o, .int .i64 r.s, .int .i64 r.w, .int .i64 r.c, .string r.t])
  clear cS cT hT
  go_enter Tryd.func64, Tryd.ntmps64
  go_wp2_with fail
  refine (HS.out _).mono ?_
  rintro e w2 ⟨rfl, b2⟩
  cases S
  · go_wp2
    go_ret
    exact ⟨rfl, bn (alloc_below _ _) b2⟩
  · obtain ⟨c0, c1, c2, c3, c4⟩ := (hB.out.below b2).five
    have hl := (hB.out.below b2).lt
    go_wp2_with fail
    refine (HT.out _ (hT'.out.below (bn (alloc_below _ _) b2))).mono ?_
    rintro e w3 ⟨rfl, b3⟩
    go_wp2
    go_ret
    exact ⟨by simp, bn (bn (alloc_below _ _) b2) b3⟩

set_option maxHeartbeats 2000000 in
theorem same_c (a b : Rc) (w : World) : Calls Tryd.prog 82 #[.agg #[.int .i64 a.o, .int .i64 a.s, .int .i64 a.w, .int .i64 a.c, .string a.t], .agg #[.int .i64 b.o, .int .i64 b.s, .int .i64 b.w, .int .i64 b.c, .string b.t]] w fun e w' => e = .returned (.bool (sameR a b)) ∧ Below w.heap.size w w' := by
  have q := eq_rec a b
  generalize sameR a b = S at q ⊢
  go_enter Tryd.func82, Tryd.ntmps82
  go_wp2
  go_ret
  exact ⟨rfl, below_two _ _ _⟩

set_option maxHeartbeats 2000000 in
theorem refsame_c (a b : Rc) (w : World) : Calls Tryd.prog 38 #[.agg #[.int .i64 a.o, .int .i64 a.s, .int .i64 a.w, .int .i64 a.c, .string a.t], .agg #[.int .i64 b.o, .int .i64 b.s, .int .i64 b.w, .int .i64 b.c, .string b.t]] w fun e w' => e = .returned (.bool (sameR a b)) ∧ Below w.heap.size w w' := by
  have q1 := eq_key a.o a.s b.o b.s
  have q2 := eq_stamp a.w a.c b.w b.c
  unfold sameR
  generalize (a.o == b.o && a.s == b.s) = A at q1 ⊢
  generalize (a.w == b.w && a.c == b.c) = B at q2 ⊢
  cases A
  · go_enter Tryd.func38, Tryd.ntmps38
    go_wp2
    go_ret
    exact ⟨by simp, below_two _ _ _⟩
  · cases B
    · go_enter Tryd.func38, Tryd.ntmps38
      go_wp2
      go_ret
      exact ⟨by simp, below_two _ _ _⟩
    · go_enter Tryd.func38, Tryd.ntmps38
      go_wp2
      go_ret
      exact ⟨by simp, below_two _ _ _⟩
end Go.Proofs.YtchkadifjbmmpaaDoor.R
