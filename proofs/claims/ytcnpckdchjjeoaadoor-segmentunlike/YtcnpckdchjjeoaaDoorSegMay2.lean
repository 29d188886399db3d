/-
  Chapter 8's own May; Same; mayForSome, any, by contract.
-/
import Derived.Test.YtcnpckdchjjeoaaDoorSegMay
namespace Go.Proofs.YtcnpckdchjjeoaaDoor
open Go.RowKit Go.Lib
set_option maxRecDepth 100000

set_option maxHeartbeats 4000000 in
theorem refmaye_c (e : En) (a b : Value) (n : Int) (w : World) (ha : Nl w a e.v) (hb : Nl w b e.w) (hv : e.v.length ≤ 1000000) (hw : e.w.length ≤ 1000000) (hs : e.r.t.size ≤ 9223372036854775807) (hT : Tabs w) :
    Calls Tryd.prog 15 #[.agg #[.int .i64 e.k, a, b, .int .i64 e.r.o, .int .i64 e.r.s, .int .i64 e.r.w, .int .i64 e.r.c, .string e.r.t], .int .i64 n] w fun x w' => x = .returned (.bool (mayE e n)) ∧ Below w.heap.size w w' := by
  obtain ⟨ad1, cap1, rfl, _⟩ := ha.form
  obtain ⟨ad2, cap2, rfl, _⟩ := hb.form
  have C1 : Hid (∀ W, Below w.heap.size w W → Calls Tryd.prog 38 #[.slice ad1 e.v.length cap1, .int .i64 n] W fun x w' => x = .returned (.bool (mayB e.v n)) ∧ Below W.heap.size W w') := Lib.hid (fun W h => refmay_c e.v n _ W (ha.below h) hv)
  have C2 : Hid (∀ W, Below w.heap.size w W → Calls Tryd.prog 38 #[.slice ad2 e.w.length cap2, .int .i64 n] W fun x w' => x = .returned (.bool (mayB e.w n)) ∧ Below W.heap.size W w') := Lib.hid (fun W h => refmay_c e.w n _ W (hb.below h) hw)
  have C3 : Hid (∀ W, Below w.heap.size w W → Calls Tryd.prog 39 #[.slice ad2 e.w.length cap2, .slice ad1 e.v.length cap1] W fun x w' => x = .returned (.bool (leB e.w e.v)) ∧ Below W.heap.size W w') := Lib.hid (fun W h => refbelow_c e.w e.v _ _ W (hb.below h) (ha.below h) hw)
  have C4 : Hid (∀ W, Calls Tryd.prog 40 #[.agg #[.int .i64 e.r.o, .int .i64 e.r.s, .int .i64 e.r.w, .int .i64 e.r.c, .string e.r.t]] W fun x w' => x = .returned (.bool (blankR e.r)) ∧ Below W.heap.size W w') := Lib.hid (fun W => blank_c e.r W)
  have C5 : Hid (∀ W, Below w.heap.size w W → Calls Tryd.prog 42 #[.agg #[.int .i64 e.r.o, .int .i64 e.r.s, .int .i64 e.r.w, .int .i64 e.r.c, .string e.r.t]] W fun x w' => x = .returned (.bool (mayR e.r)) ∧ Below W.heap.size W w') := Lib.hid (fun W h => rcrefmay_c e.r W hs (hT.below h))
  have HB := Lib.hid (Bx.new 30 w #[.int .i64 e.k, .slice ad1 e.v.length cap1, .slice ad2 e.w.length cap2, .int .i64 e.r.o, .int .i64 e.r.s, .int .i64 e.r.w, .int .i64 e.r.c, .string e.r.t])
  have hA := Lib.hid (alloc_below w (.cells #[.int .i64 e.k, .slice ad1 e.v.length cap1, .slice ad2 e.w.length cap2, .int .i64 e.r.o, .int .i64 e.r.s, .int .i64 e.r.w, .int .i64 e.r.c, .string e.r.t] 30))
  clear ha hb hv hw hT hs
  unfold mayE
  by_cases k1 : e.k = 1
  · rw [if_pos k1]
    have f1 : (e.k == 1) = true := by simpa using k1
    generalize mayB e.v n = M1 at C1 ⊢
    generalize mayB e.w n = M2 at C2 ⊢
    generalize leB e.w e.v = M3 at C3 ⊢
    generalize blankR e.r = M4 at C4 ⊢
    clear k1 C5
    go_enter Tryd.func15, Tryd.ntmps15
    go_wp2_with fail
    refine (C1.out _ hA.out).mono ?_
    rintro e w1 ⟨rfl, b1⟩
    have h1 := bn hA.out b1
    have hB1 := HB.out.below b1
    clear C1
    cases M1
    · go_wp2
      go_ret
      exact ⟨rfl, h1⟩
    · obtain ⟨c0, c1, c2, c3, c4, c5, c6, c7⟩ := hB1.eight
      have hl := hB1.lt
      go_wp2_with fail
      refine (C2.out _ h1).mono ?_
      rintro e w2 ⟨rfl, b2⟩
      have h2 := bn h1 b2
      have hB2 := hB1.below b2
      clear C2 c0 c1 c2 c3 c4 c5 c6 c7 hl hB1 b1 b2
      cases M2
      · go_wp2
        go_ret
        exact ⟨rfl, h2⟩
      · obtain ⟨c0, c1, c2, c3, c4, c5, c6, c7⟩ := hB2.eight
        have hl := hB2.lt
        go_wp2_with fail
        refine (C3.out _ h2).mono ?_
        rintro e w3 ⟨rfl, b3⟩
        have h3 := bn h2 b3
        have hB3 := hB2.below b3
        clear C3 c0 c1 c2 c3 c4 c5 c6 c7 hl hB2 b3
        cases M3
        · go_wp2
          go_ret
          exact ⟨rfl, h3⟩
        · obtain ⟨c0, c1, c2, c3, c4, c5, c6, c7⟩ := hB3.eight
          have hl := hB3.lt
          go_wp2_with fail
          refine (C4.out _).mono ?_
          rintro e w4 ⟨rfl, b4⟩
          go_wp2
          go_ret
          exact ⟨by simp, bn h3 b4⟩
  · rw [if_neg k1]
    have f1 : (e.k == 1) = false := by simpa using k1
    by_cases k2 : e.k = 2
    · rw [if_pos k2]
      have f2 : (e.k == 2) = true := by simpa using k2
      clear C1 C2 C3 C4 k1 k2
      have C6 : Hid (∀ W, Calls Tryd.prog 41 #[.int .i64 n] W fun x w' => x = .returned (.bool (manyB n)) ∧ W = w') := Lib.hid (fun W => refmany_c n W)
      generalize manyB n = M6 at C6 ⊢
      generalize mayR e.r = M5 at C5 ⊢
      generalize hon : decide (e.r.o < n) = O
      unfold nilB
      generalize hq1 : decide ((e.v.length : Int) = 0) = Q1
      generalize hq2 : decide ((e.w.length : Int) = 0) = Q2
      have q1 : ((e.v.length : Int) == 0) = Q1 := by rw [← hq1]; rfl
      have q2 : ((e.w.length : Int) == 0) = Q2 := by rw [← hq2]; rfl
      clear hq1 hq2
      go_enter Tryd.func15, Tryd.ntmps15
      go_wp2_with fail
      refine (C6.out _).mono ?_
      rintro x w0 ⟨rfl, rfl⟩
      cases M6
      · go_wp2
        go_ret
        exact ⟨rfl, hA.out⟩
      · obtain ⟨c0, c1, c2, c3, c4, c5, c6, c7⟩ := HB.out.eight
        have hl := HB.out.lt
        go_wp2_with fail
        refine (C5.out _ hA.out).mono ?_
        rintro e w1 ⟨rfl, b1⟩
        have h1 := bn hA.out b1
        have hB1 := HB.out.below b1
        clear c0 c1 c2 c3 c4 c5 c6 c7 hl
        obtain ⟨c0, c1, c2, c3, c4, c5, c6, c7⟩ := hB1.eight
        have hl := hB1.lt
        cases M5
        · go_wp2
          go_ret
          exact ⟨rfl, h1⟩
        · cases O
          · go_wp2
            go_ret
            exact ⟨rfl, h1⟩
          · cases Q1
            · go_wp2
              go_ret
              exact ⟨rfl, h1⟩
            · go_wp2
              go_ret
              exact ⟨by simp, h1⟩
    · rw [if_neg k2]
      have f2 : (e.k == 2) = false := by simpa using k2
      by_cases k3 : e.k = 3
      · rw [if_pos k3]
        have f3 : (e.k == 3) = true := by simpa using k3
        unfold nilB
        generalize mayB e.w n = M2 at C2 ⊢
        generalize blankR e.r = M4 at C4 ⊢
        generalize hq1 : decide ((e.v.length : Int) = 0) = Q1
        have q1 : ((e.v.length : Int) == 0) = Q1 := by rw [← hq1]; rfl
        clear hq1 k1 k2 k3 C1 C3 C5
        go_enter Tryd.func15, Tryd.ntmps15
        go_wp2_with fail
        refine (C2.out _ hA.out).mono ?_
        rintro e w1 ⟨rfl, b1⟩
        have h1 := bn hA.out b1
        have hB1 := HB.out.below b1
        clear C2
        cases M2
        · go_wp2
          go_ret
          exact ⟨rfl, h1⟩
        · obtain ⟨c0, c1, c2, c3, c4, c5, c6, c7⟩ := hB1.eight
          have hl := hB1.lt
          cases Q1
          · go_wp2
            go_ret
            exact ⟨rfl, h1⟩
          · go_wp2_with fail
            refine (C4.out _).mono ?_
            rintro e w4 ⟨rfl, b4⟩
            go_wp2
            go_ret
            exact ⟨by simp, bn h1 b4⟩
      · rw [if_neg k3]
        have f3 : (e.k == 3) = false := by simpa using k3
        go_enter Tryd.func15, Tryd.ntmps15
        go_wp2
        go_ret
        exact ⟨rfl, hA.out⟩

def sameE (d e : En) : Bool := (d.k == e.k) && (sameB d.v e.v && (sameB d.w e.w && sameR d.r e.r))

set_option maxHeartbeats 4000000 in
theorem samee_c (d e : En) (a b a' b' : Value) (w : World) (ha : Nl w a d.v) (hb : Nl w b d.w) (ha' : Nl w a' e.v) (hb' : Nl w b' e.w) (hv : d.v.length ≤ 1000000) (hw : d.w.length ≤ 1000000) :
    Calls Tryd.prog 16 #[.agg #[.int .i64 d.k, a, b, .int .i64 d.r.o, .int .i64 d.r.s, .int .i64 d.r.w, .int .i64 d.r.c, .string d.r.t], .agg #[.int .i64 e.k, a', b', .int .i64 e.r.o, .int .i64 e.r.s, .int .i64 e.r.w, .int .i64 e.r.c, .string e.r.t]] w fun x w' => x = .returned (.bool (sameE d e)) ∧ Below w.heap.size w w' := by
  have C1 : Hid (∀ W, Below w.heap.size w W → Calls Tryd.prog 43 #[a, a'] W fun x w' => x = .returned (.bool (sameB d.v e.v)) ∧ Below W.heap.size W w') := Lib.hid (fun W h => equal_c d.v e.v _ _ W (ha.below h) (ha'.below h) hv)
  have C2 : Hid (∀ W, Below w.heap.size w W → Calls Tryd.prog 43 #[b, b'] W fun x w' => x = .returned (.bool (sameB d.w e.w)) ∧ Below W.heap.size W w') := Lib.hid (fun W h => equal_c d.w e.w _ _ W (hb.below h) (hb'.below h) hw)
  have C3 : Hid (∀ W, Calls Tryd.prog 44 #[.agg #[.int .i64 d.r.o, .int .i64 d.r.s, .int .i64 d.r.w, .int .i64 d.r.c, .string d.r.t], .agg #[.int .i64 e.r.o, .int .i64 e.r.s, .int .i64 e.r.w, .int .i64 e.r.c, .string e.r.t]] W fun x w' => x = .returned (.bool (sameR d.r e.r)) ∧ Below W.heap.size W w') := Lib.hid (fun W => rcsame_c d.r e.r W)
  have HD := Lib.hid ((Bx.new 30 w #[.int .i64 d.k, a, b, .int .i64 d.r.o, .int .i64 d.r.s, .int .i64 d.r.w, .int .i64 d.r.c, .string d.r.t]).below (alloc_below _ (.cells #[.int .i64 e.k, a', b', .int .i64 e.r.o, .int .i64 e.r.s, .int .i64 e.r.w, .int .i64 e.r.c, .string e.r.t] 30)))
  have HE := Lib.hid (Bx.new 30 (w.alloc (.cells #[.int .i64 d.k, a, b, .int .i64 d.r.o, .int .i64 d.r.s, .int .i64 d.r.w, .int .i64 d.r.c, .string d.r.t] 30)) #[.int .i64 e.k, a', b', .int .i64 e.r.o, .int .i64 e.r.s, .int .i64 e.r.w, .int .i64 e.r.c, .string e.r.t])
  have hA := Lib.hid (below_two w (.cells #[.int .i64 d.k, a, b, .int .i64 d.r.o, .int .i64 d.r.s, .int .i64 d.r.w, .int .i64 d.r.c, .string d.r.t] 30) (.cells #[.int .i64 e.k, a', b', .int .i64 e.r.o, .int .i64 e.r.s, .int .i64 e.r.w, .int .i64 e.r.c, .string e.r.t] 30))
  have hsz : (w.alloc (.cells #[.int .i64 d.k, a, b, .int .i64 d.r.o, .int .i64 d.r.s, .int .i64 d.r.w, .int .i64 d.r.c, .string d.r.t] 30)).heap.size = w.heap.size + 1 := by simp
  rw [hsz] at HE
  obtain ⟨ad1, cap1, rfl, _⟩ := ha.form
  obtain ⟨ad2, cap2, rfl, _⟩ := hb.form
  obtain ⟨ad3, cap3, rfl, _⟩ := ha'.form
  obtain ⟨ad4, cap4, rfl, _⟩ := hb'.form
  clear ha hb hv hw ha' hb' hsz
  unfold sameE
  generalize sameB d.v e.v = M1 at C1 ⊢
  generalize sameB d.w e.w = M2 at C2 ⊢
  generalize sameR d.r e.r = M3 at C3 ⊢
  generalize hk : (d.k == e.k) = K
  go_enter Tryd.func16, Tryd.ntmps16
  cases K
  · go_wp2
    go_ret
    exact ⟨rfl, hA.out⟩
  · go_wp2_with fail
    refine (C1.out _ hA.out).mono ?_
    rintro x w1 ⟨rfl, b1⟩
    have h1 := bn hA.out b1
    have hD1 := HD.out.below b1
    have hE1 := HE.out.below b1
    clear C1
    cases M1
    · go_wp2
      go_ret
      exact ⟨rfl, h1⟩
    · obtain ⟨c0, c1, c2, c3, c4, c5, c6, c7⟩ := hD1.eight
      obtain ⟨d0, d1, d2, d3, d4, d5, d6, d7⟩ := hE1.eight
      have hl := hD1.lt
      have hl' := hE1.lt
      go_wp2_with fail
      refine (C2.out _ h1).mono ?_
      rintro x w2 ⟨rfl, b2⟩
      have h2 := bn h1 b2
      have hD2 := hD1.below b2
      have hE2 := hE1.below b2
      clear C2 c0 c1 c2 c3 c4 c5 c6 c7 hl d0 d1 d2 d3 d4 d5 d6 d7 hl' hD1 hE1 b1 b2
      cases M2
      · go_wp2
        go_ret
        exact ⟨rfl, h2⟩
      · obtain ⟨c0, c1, c2, c3, c4, c5, c6, c7⟩ := hD2.eight
        obtain ⟨d0, d1, d2, d3, d4, d5, d6, d7⟩ := hE2.eight
        have hl := hD2.lt
        have hl' := hE2.lt
        go_wp2_with fail
        refine (C3.out _).mono ?_
        rintro x w3 ⟨rfl, b3⟩
        go_wp2
        go_ret
        exact ⟨by simp, bn h2 b3⟩

/-- May it be for some number that is no less than 9 - j? -/
def fromE (e : En) : Nat → Bool
  | 0 => false
  | j + 1 => mayE e (9 - ((j + 1 : Nat) : Int)) || fromE e j
def someE (e : En) : Bool := fromE e 8

set_option maxHeartbeats 4000000 in
theorem some_c (e : En) (a b : Value) (w : World) (ha : Nl w a e.v) (hb : Nl w b e.w) (hv : e.v.length ≤ 1000000) (hw : e.w.length ≤ 1000000) (hs : e.r.t.size ≤ 9223372036854775807) (hT : Tabs w) :
    Calls Tryd.prog 27 #[.agg #[.int .i64 e.k, a, b, .int .i64 e.r.o, .int .i64 e.r.s, .int .i64 e.r.w, .int .i64 e.r.c, .string e.r.t]] w fun x w' => x = .returned (.bool (someE e)) ∧ Below w.heap.size w w' := by
  have C1 : Hid (∀ n W, Below w.heap.size w W → Calls Tryd.prog 14 #[.agg #[.int .i64 e.k, a, b, .int .i64 e.r.o, .int .i64 e.r.s, .int .i64 e.r.w, .int .i64 e.r.c, .string e.r.t], .int .i64 n] W fun x w' => x = .returned (.bool (mayE e n)) ∧ Below W.heap.size W w') := Lib.hid (fun n W h => maye_c e a b n W (ha.below h) (hb.below h) hv hw hs (hT.below h))
  have HB := Lib.hid (Bx.new 30 w #[.int .i64 e.k, a, b, .int .i64 e.r.o, .int .i64 e.r.s, .int .i64 e.r.w, .int .i64 e.r.c, .string e.r.t])
  have hA := Lib.hid (alloc_below w (.cells #[.int .i64 e.k, a, b, .int .i64 e.r.o, .int .i64 e.r.s, .int .i64 e.r.w, .int .i64 e.r.c, .string e.r.t] 30))
  obtain ⟨ad1, cap1, rfl, _⟩ := ha.form
  obtain ⟨ad2, cap2, rfl, _⟩ := hb.form
  clear ha hb hv hw hs hT
  go_enter Tryd.func27, Tryd.ntmps27
  go_wp2
  go_loopw [3] (fun vk wr => ∃ (j : Nat) (n : Int), j ≤ 8 ∧ vk = .int .i64 n ∧ n = 9 - (j : Int) ∧ Hid (fromE e j = someE e) ∧ Hid (Bx 30 wr w.heap.size #[.int .i64 e.k, .slice ad1 e.v.length cap1, .slice ad2 e.w.length cap2, .int .i64 e.r.o, .int .i64 e.r.s, .int .i64 e.r.w, .int .i64 e.r.c, .string e.r.t]) ∧ Hid (Below w.heap.size w wr)) (fun vk _ => (9 - RowKit.intOf vk).toNat)
  case atStart => exact ⟨8, 1, by omega, rfl, by omega, Lib.hid rfl, HB, hA⟩
  case round =>
    obtain ⟨j, n, hj, rfl, hn, HF, HX, HW⟩ := hrel
    cases j with
    | zero =>
      have e0 : decide (n ≤ 8) = false := by simp; omega
      have HF' := Lib.hid (show false = someE e from HF.out)
      clear HF hn
      go_wp2
      go_ret
      exact ⟨by rw [← HF'.out]; rfl, HW.out⟩
    | succ j =>
      have e0 : decide (n ≤ 8) = true := by simp; omega
      have hn8 : n ≤ 8 := by omega
      have hn1 : 1 ≤ n := by omega
      have hf := HF.out
      rw [fromE, ← hn] at hf
      have HF' := Lib.hid hf
      have HN := Lib.hid hn
      have HC := Lib.hid (C1.out n wr HW.out)
      generalize mayE e n = M at HC HF'
      obtain ⟨c0, c1, c2, c3, c4, c5, c6, c7⟩ := HX.out.eight
      have hl := HX.out.lt
      clear HF hf hn
      go_wp2_with fail
      refine HC.out.mono ?_
      rintro x w1 ⟨rfl, b1⟩
      have h1 := Lib.hid (bn HW.out b1)
      have hx1 := Lib.hid (HX.out.below b1)
      clear b1
      cases M
      · go_wp2
        go_roundw
        case rel => exact ⟨j, n + 1, by omega, by go_num, by have := HN.out; omega, Lib.hid (by have := HF'.out; simpa using this), hx1, h1⟩
        case measure => simp [RowKit.intOf]; omega
      · go_wp2
        go_ret
        exact ⟨by rw [← HF'.out]; rfl, h1.out⟩

set_option maxHeartbeats 4000000 in
theorem any_c (e : En) (a b : Value) (w : World) (ha : Nl w a e.v) (hb : Nl w b e.w) (hv : e.v.length ≤ 1000000) (hw : e.w.length ≤ 1000000) (hs : e.r.t.size ≤ 9223372036854775807) (hT : Tabs w) :
    Calls Tryd.prog 30 #[.agg #[.int .i64 e.k, a, b, .int .i64 e.r.o, .int .i64 e.r.s, .int .i64 e.r.w, .int .i64 e.r.c, .string e.r.t]] w fun x w' => x = .returned (.bool (someE e)) ∧ Below w.heap.size w w' := by
  have C1 : Hid (∀ n W, Below w.heap.size w W → Calls Tryd.prog 15 #[.agg #[.int .i64 e.k, a, b, .int .i64 e.r.o, .int .i64 e.r.s, .int .i64 e.r.w, .int .i64 e.r.c, .string e.r.t], .int .i64 n] W fun x w' => x = .returned (.bool (mayE e n)) ∧ Below W.heap.size W w') := Lib.hid (fun n W h => refmaye_c e a b n W (ha.below h) (hb.below h) hv hw hs (hT.below h))
  have HB := Lib.hid (Bx.new 30 w #[.int .i64 e.k, a, b, .int .i64 e.r.o, .int .i64 e.r.s, .int .i64 e.r.w, .int .i64 e.r.c, .string e.r.t])
  have hA := Lib.hid (alloc_below w (.cells #[.int .i64 e.k, a, b, .int .i64 e.r.o, .int .i64 e.r.s, .int .i64 e.r.w, .int .i64 e.r.c, .string e.r.t] 30))
  obtain ⟨ad1, cap1, rfl, _⟩ := ha.form
  obtain ⟨ad2, cap2, rfl, _⟩ := hb.form
  clear ha hb hv hw hs hT
  go_enter Tryd.func30, Tryd.ntmps30
  go_wp2
  go_loopw [3] (fun vk wr => ∃ (j : Nat) (n : Int), j ≤ 8 ∧ vk = .int .i64 n ∧ n = 9 - (j : Int) ∧ Hid (fromE e j = someE e) ∧ Hid (Bx 30 wr w.heap.size #[.int .i64 e.k, .slice ad1 e.v.length cap1, .slice ad2 e.w.length cap2, .int .i64 e.r.o, .int .i64 e.r.s, .int .i64 e.r.w, .int .i64 e.r.c, .string e.r.t]) ∧ Hid (Below w.heap.size w wr)) (fun vk _ => (9 - RowKit.intOf vk).toNat)
  case atStart => exact ⟨8, 1, by omega, rfl, by omega, Lib.hid rfl, HB, hA⟩
  case round =>
    obtain ⟨j, n, hj, rfl, hn, HF, HX, HW⟩ := hrel
    cases j with
    | zero =>
      have e0 : decide (n ≤ 8) = false := by simp; omega
      have HF' := Lib.hid (show false = someE e from HF.out)
      clear HF hn
      go_wp2
      go_ret
      exact ⟨by rw [← HF'.out]; rfl, HW.out⟩
    | succ j =>
      have e0 : decide (n ≤ 8) = true := by simp; omega
      have hn8 : n ≤ 8 := by omega
      have hn1 : 1 ≤ n := by omega
      have hf := HF.out
      rw [fromE, ← hn] at hf
      have HF' := Lib.hid hf
      have HN := Lib.hid hn
      have HC := Lib.hid (C1.out n wr HW.out)
      generalize mayE e n = M at HC HF'
      obtain ⟨c0, c1, c2, c3, c4, c5, c6, c7⟩ := HX.out.eight
      have hl := HX.out.lt
      clear HF hf hn
      go_wp2_with fail
      refine HC.out.mono ?_
      rintro x w1 ⟨rfl, b1⟩
      have h1 := Lib.hid (bn HW.out b1)
      have hx1 := Lib.hid (HX.out.below b1)
      clear b1
      cases M
      · go_wp2
        go_roundw
        case rel => exact ⟨j, n + 1, by omega, by go_num, by have := HN.out; omega, Lib.hid (by have := HF'.out; simpa using this), hx1, h1⟩
        case measure => simp [RowKit.intOf]; omega
      · go_wp2
        go_ret
        exact ⟨by rw [← HF'.out]; rfl, h1.out⟩
end Go.Proofs.YtcnpckdchjjeoaaDoor
