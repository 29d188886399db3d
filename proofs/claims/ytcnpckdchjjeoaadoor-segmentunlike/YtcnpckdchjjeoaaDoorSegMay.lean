/-
  Entries in memory; May, Same, noRecord, of the program and of chapter 8's own answer, by contract.
-/
import Derived.Test.YtcnpckdchjjeoaaDoorMRecMay
import Derived.Test.YtcnpckdchjjeoaaDoorSegVec
namespace Go.Proofs.YtcnpckdchjjeoaaDoor
open Go.RowKit Go.Lib
set_option maxRecDepth 100000

/-- An entry: kind, V, W, record. -/
structure En where
  k : Int
  v : List Int
  w : List Int
  r : Rc
def zeroR : Rc := ⟨0, 0, 0, 0, ⟨#[]⟩⟩
def blankR (r : Rc) : Bool := sameR r zeroR
def nilB (l : List Int) : Bool := decide ((l.length : Int) = 0)
def mayE (e : En) (n : Int) : Bool :=
  if e.k = 1 then mayB e.v n && (mayB e.w n && (leB e.w e.v && blankR e.r))
  else if e.k = 2 then manyB n && (mayR e.r && (decide (e.r.o < n) && (nilB e.v && nilB e.w)))
  else if e.k = 3 then mayB e.w n && (nilB e.v && blankR e.r)
  else false
theorem Bx.eight {T : TypeId} {w : World} {g : Nat} {a b c d e f h i : Value} (x : Bx T w g #[a, b, c, d, e, f, h, i]) :
    w.cell? ⟨g, 0, none⟩ = some a ∧ w.cell? ⟨g, 1, none⟩ = some b ∧ w.cell? ⟨g, 2, none⟩ = some c ∧ w.cell? ⟨g, 3, none⟩ = some d ∧ w.cell? ⟨g, 4, none⟩ = some e ∧ w.cell? ⟨g, 5, none⟩ = some f ∧ w.cell? ⟨g, 6, none⟩ = some h ∧ w.cell? ⟨g, 7, none⟩ = some i :=
  ⟨x.cell 0, x.cell 1, x.cell 2, x.cell 3, x.cell 4, x.cell 5, x.cell 6, x.cell 7⟩
/-- The entry e, with the lists a and b, stands boxed in block g. -/
def BxE (w : World) (g : Nat) (e : En) (a b : Value) : Prop := Bx 30 w g #[.int .i64 e.k, a, b, .int .i64 e.r.o, .int .i64 e.r.s, .int .i64 e.r.w, .int .i64 e.r.c, .string e.r.t]

set_option maxHeartbeats 1000000 in
theorem norec_c (e : En) (a b : Value) (w : World) : Calls Tryd.prog 36 #[.agg #[.int .i64 e.k, a, b, .int .i64 e.r.o, .int .i64 e.r.s, .int .i64 e.r.w, .int .i64 e.r.c, .string e.r.t]] w fun x w' => x = .returned (.bool (blankR e.r)) ∧ Below w.heap.size w w' := by
  have q : ∀ W, (Op.equalIn 10000 28 (.agg #[.int .i64 e.r.o, .int .i64 e.r.s, .int .i64 e.r.w, .int .i64 e.r.c, .string e.r.t]) (.agg #[.int .i64 0, .int .i64 0, .int .i64 0, .int .i64 0, .string ⟨#[]⟩])).run Tryd.prog W = .ok (blankR e.r) W := fun W => eq_rec e.r zeroR W
  generalize blankR e.r = S at q ⊢
  go_enter Tryd.func36, Tryd.ntmps36
  go_wp2
  go_ret
  exact ⟨rfl, alloc_below _ _⟩
set_option maxHeartbeats 1000000 in
theorem blank_c (r : Rc) (w : World) : Calls Tryd.prog 40 #[.agg #[.int .i64 r.o, .int .i64 r.s, .int .i64 r.w, .int .i64 r.c, .string r.t]] w fun x w' => x = .returned (.bool (blankR r)) ∧ Below w.heap.size w w' := by
  have q : ∀ W, (Op.equalIn 10000 28 (.agg #[.int .i64 r.o, .int .i64 r.s, .int .i64 r.w, .int .i64 r.c, .string r.t]) (.agg #[.int .i64 0, .int .i64 0, .int .i64 0, .int .i64 0, .string ⟨#[]⟩])).run Tryd.prog W = .ok (blankR r) W := fun W => eq_rec r zeroR W
  generalize blankR r = S at q ⊢
  go_enter Tryd.func40, Tryd.ntmps40
  go_wp2
  go_ret
  exact ⟨rfl, alloc_below _ _⟩

set_option maxHeartbeats 4000000 in
theorem maye_c (e : En) (a b : Value) (n : Int) (w : World) (ha : Nl w a e.v) (hb : Nl w b e.w) (hv : e.v.length ≤ 1000000) (hw : e.w.length ≤ 1000000) (hs : e.r.t.size ≤ 9223372036854775807) (hT : Tabs w) :
    Calls Tryd.prog 14 #[.agg #[.int .i64 e.k, a, b, .int .i64 e.r.o, .int .i64 e.r.s, .int .i64 e.r.w, .int .i64 e.r.c, .string e.r.t], .int .i64 n] w fun x w' => x = .returned (.bool (mayE e n)) ∧ Below w.heap.size w w' := by
  obtain ⟨ad1, cap1, rfl, _⟩ := ha.form
  obtain ⟨ad2, cap2, rfl, _⟩ := hb.form
  have C1 : Hid (∀ W, Below w.heap.size w W → Calls Tryd.prog 34 #[.slice ad1 e.v.length cap1, .int .i64 n] W fun x w' => x = .returned (.bool (mayB e.v n)) ∧ Below W.heap.size W w') := Lib.hid (fun W h => may_c e.v n _ W (ha.below h) hv)
  have C2 : Hid (∀ W, Below w.heap.size w W → Calls Tryd.prog 34 #[.slice ad2 e.w.length cap2, .int .i64 n] W fun x w' => x = .returned (.bool (mayB e.w n)) ∧ Below W.heap.size W w') := Lib.hid (fun W h => may_c e.w n _ W (hb.below h) hw)
  have C3 : Hid (∀ W, Below w.heap.size w W → Calls Tryd.prog 35 #[.slice ad2 e.w.length cap2, .slice ad1 e.v.length cap1] W fun x w' => x = .returned (.bool (leB e.w e.v)) ∧ Below W.heap.size W w') := Lib.hid (fun W h => below_c e.w e.v _ _ W (hb.below h) (ha.below h) hw)
  have C4 : Hid (∀ W, Calls Tryd.prog 36 #[.agg #[.int .i64 e.k, .slice ad1 e.v.length cap1, .slice ad2 e.w.length cap2, .int .i64 e.r.o, .int .i64 e.r.s, .int .i64 e.r.w, .int .i64 e.r.c, .string e.r.t]] W fun x w' => x = .returned (.bool (blankR e.r)) ∧ Below W.heap.size W w') := Lib.hid (fun W => norec_c e _ _ W)
  have C5 : Hid (∀ W, Below w.heap.size w W → Calls Tryd.prog 37 #[.agg #[.int .i64 e.r.o, .int .i64 e.r.s, .int .i64 e.r.w, .int .i64 e.r.c, .string e.r.t]] W fun x w' => x = .returned (.bool (mayR e.r)) ∧ Below W.heap.size W w') := Lib.hid (fun W h => rcmay_c e.r W hs (hT.below h))
  have HB := Lib.hid (Bx.new 30 w #[.int .i64 e.k, .slice ad1 e.v.length cap1, .slice ad2 e.w.length cap2, .int .i64 e.r.o, .int .i64 e.r.s, .int .i64 e.r.w, .int .i64 e.r.c, .string e.r.t])
  have hA := Lib.hid (alloc_below w (.cells #[.int .i64 e.k, .slice ad1 e.v.length cap1, .slice ad2 e.w.length cap2, .int .i64 e.r.o, .int .i64 e.r.s, .int .i64 e.r.w, .int .i64 e.r.c, .string e.r.t] 30))
  clear ha hb hv hw hT hs
  unfold mayE
  by_cases k1 : e.k = 1
  · rw [if_pos k1]
    have f1 : (e.k == 1) = true := by simpa using k1
    generalize mayB e.v n = M1 at C1 ⊢
    generalize mayB e.w n = M2 at C2 ⊢
    generalize leB e.w e.v = M3 at C3 ⊢
    generalize blankR e.r = M4 at C4 ⊢
    clear k1 C5
    go_enter Tryd.func14, Tryd.ntmps14
    go_wp2_with fail
    refine (C1.out _ hA.out).mono ?_
    rintro e w1 ⟨rfl, b1⟩
    have h1 := bn hA.out b1
    have hB1 := HB.out.below b1
    clear C1
    cases M1
    · go_wp2
      go_ret
      exact ⟨rfl, h1⟩
    · obtain ⟨c0, c1, c2, c3, c4, c5, c6, c7⟩ := hB1.eight
      have hl := hB1.lt
      go_wp2_with fail
      refine (C2.out _ h1).mono ?_
      rintro e w2 ⟨rfl, b2⟩
      have h2 := bn h1 b2
      have hB2 := hB1.below b2
      clear C2 c0 c1 c2 c3 c4 c5 c6 c7 hl hB1 b1 b2
      cases M2
      · go_wp2
        go_ret
        exact ⟨rfl, h2⟩
      · obtain ⟨c0, c1, c2, c3, c4, c5, c6, c7⟩ := hB2.eight
        have hl := hB2.lt
        go_wp2_with fail
        refine (C3.out _ h2).mono ?_
        rintro e w3 ⟨rfl, b3⟩
        have h3 := bn h2 b3
        have hB3 := hB2.below b3
        clear C3 c0 c1 c2 c3 c4 c5 c6 c7 hl hB2 b3
        cases M3
        · go_wp2
          go_ret
          exact ⟨rfl, h3⟩
        · obtain ⟨c0, c1, c2, c3, c4, c5, c6, c7⟩ := hB3.eight
          have hl := hB3.lt
          go_wp2_with fail
          refine (C4.out _).mono ?_
          rintro e w4 ⟨rfl, b4⟩
          go_wp2
          go_ret
          exact ⟨by simp, bn h3 b4⟩
  · rw [if_neg k1]
    have f1 : (e.k == 1) = false := by simpa using k1
    by_cases k2 : e.k = 2
    · rw [if_pos k2]
      have f2 : (e.k == 2) = true := by simpa using k2
      clear C1 C2 C3 C4 k1 k2
      by_cases hn : n ≤ 8
      · have e8 : decide (n ≤ 8) = true := by simpa using hn
        by_cases hm : mayR e.r = true
        · have ho : 0 ≤ e.r.o := by
            unfold mayR keyB at hm
            simp only [Bool.and_eq_true, decide_eq_true_eq] at hm
            exact hm.1.1
          rw [hm] at C5 ⊢
          by_cases hon : e.r.o < n
          · have eon : decide (e.r.o < n) = true := by simpa using hon
            have hmn : manyB n = true := by simp [manyB]; omega
            rw [hmn, eon]
            unfold nilB
            generalize hq1 : decide ((e.v.length : Int) = 0) = Q1
            generalize hq2 : decide ((e.w.length : Int) = 0) = Q2
            have q1 : ((e.v.length : Int) == 0) = Q1 := by rw [← hq1]; rfl
            have q2 : ((e.w.length : Int) == 0) = Q2 := by rw [← hq2]; rfl
            clear hq1 hq2 hm
            go_enter Tryd.func14, Tryd.ntmps14
            go_wp2_with fail
            refine (C5.out _ hA.out).mono ?_
            rintro e w1 ⟨rfl, b1⟩
            have h1 := bn hA.out b1
            have hB1 := HB.out.below b1
            obtain ⟨c0, c1, c2, c3, c4, c5, c6, c7⟩ := hB1.eight
            have hl := hB1.lt
            cases Q1
            · go_wp2
              go_ret
              exact ⟨rfl, h1⟩
            · go_wp2
              go_ret
              exact ⟨by simp, h1⟩
          · have eon : decide (e.r.o < n) = false := by simpa using hon
            rw [eon]
            clear hm
            go_enter Tryd.func14, Tryd.ntmps14
            go_wp2_with fail
            refine (C5.out _ hA.out).mono ?_
            rintro e w1 ⟨rfl, b1⟩
            have h1 := bn hA.out b1
            have hB1 := HB.out.below b1
            obtain ⟨c0, c1, c2, c3, c4, c5, c6, c7⟩ := hB1.eight
            have hl := hB1.lt
            go_wp2
            go_ret
            exact ⟨by simp, h1⟩
        · have hm' : mayR e.r = false := by simpa using hm
          rw [hm'] at C5 ⊢
          clear hm hm'
          go_enter Tryd.func14, Tryd.ntmps14
          go_wp2_with fail
          refine (C5.out _ hA.out).mono ?_
          rintro e w1 ⟨rfl, b1⟩
          go_wp2
          go_ret
          exact ⟨by simp, bn hA.out b1⟩
      · have e8 : decide (n ≤ 8) = false := by simpa using hn
        have hmn : manyB n = false := by simp [manyB]; omega
        rw [hmn]
        go_enter Tryd.func14, Tryd.ntmps14
        go_wp2
        go_ret
        exact ⟨by simp, hA.out⟩
    · rw [if_neg k2]
      have f2 : (e.k == 2) = false := by simpa using k2
      by_cases k3 : e.k = 3
      · rw [if_pos k3]
        have f3 : (e.k == 3) = true := by simpa using k3
        unfold nilB
        generalize mayB e.w n = M2 at C2 ⊢
        generalize blankR e.r = M4 at C4 ⊢
        generalize hq1 : decide ((e.v.length : Int) = 0) = Q1
        have q1 : ((e.v.length : Int) == 0) = Q1 := by rw [← hq1]; rfl
        clear hq1 k1 k2 k3 C1 C3 C5
        go_enter Tryd.func14, Tryd.ntmps14
        go_wp2_with fail
        refine (C2.out _ hA.out).mono ?_
        rintro e w1 ⟨rfl, b1⟩
        have h1 := bn hA.out b1
        have hB1 := HB.out.below b1
        clear C2
        cases M2
        · go_wp2
          go_ret
          exact ⟨rfl, h1⟩
        · obtain ⟨c0, c1, c2, c3, c4, c5, c6, c7⟩ := hB1.eight
          have hl := hB1.lt
          cases Q1
          · go_wp2
            go_ret
            exact ⟨rfl, h1⟩
          · go_wp2_with fail
            refine (C4.out _).mono ?_
            rintro e w4 ⟨rfl, b4⟩
            go_wp2
            go_ret
            exact ⟨by simp, bn h1 b4⟩
      · rw [if_neg k3]
        have f3 : (e.k == 3) = false := by simpa using k3
        go_enter Tryd.func14, Tryd.ntmps14
        go_wp2
        go_ret
        exact ⟨rfl, hA.out⟩
end Go.Proofs.YtcnpckdchjjeoaaDoor
