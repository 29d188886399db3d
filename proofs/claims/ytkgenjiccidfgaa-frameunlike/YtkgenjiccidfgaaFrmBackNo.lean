/-
  FrameBack: the walk, where it is too long, or no frame.
-/
import Derived.Test.YtkgenjiccidfgaaFrmAwake
namespace Go.Proofs.Ytkgenjiccidfgaa
open Go.RowKit Go.Lib

theorem nxT_zero (l : List Int) : nxT l 0 = fsT l := by
  unfold nxT
  rw [if_pos (by omega)]
  rfl

/-- Next, where nothing is found. -/
theorem next_no {l : List Int} {a : Int} (hf : nxT l a = none) (ho : OkB l) (hl : l.length ≤ 1000000) (v : Value) (w : World) (h : Bc w v l) :
    Calls Try.prog 14 #[v, .int .i64 a] w fun e w' => ∃ A N C, e = .returned (.tuple #[.int .i64 0, .slice A N C, .int .i64 0, .bool false]) ∧ Below w.heap.size w w' := by
  refine (next_c l v a w h ho hl).mono ?_
  rintro e w' hT
  unfold nextT at hT
  rw [hf] at hT
  obtain ⟨v1, rfl, h1, h2⟩ := hT
  obtain ⟨A, C, rfl, _⟩ := h1.nl.form
  exact ⟨A, _, C, rfl, h2⟩
/-- Next, where one is found. -/
theorem next_yes {l : List Int} {a : Int} {k : Int} {n : Nat} {m : List Int} (hf : nxT l a = some (k, n)) (hm : nxL l a (some (k, n)) = m) (ho : OkB l) (hl : l.length ≤ 1000000) (v : Value) (w : World) (h : Bc w v l) :
    Calls Try.prog 14 #[v, .int .i64 a] w fun e w' => ∃ A N C, e = .returned (.tuple #[.int .i64 k, .slice A N C, .int .i64 (a + ((n : Int) + 12)), .bool true]) ∧ BRow w' w.heap.size (.slice A N C) m ∧ Below w.heap.size w w' := by
  refine (next_c l v a w h ho hl).mono ?_
  rintro e w' hT
  unfold nextT at hT
  rw [hf, hm] at hT
  obtain ⟨v1, rfl, h1, h2⟩ := hT
  obtain ⟨A, C, rfl, _⟩ := h1.nl.form
  exact ⟨A, _, C, rfl, h1, h2⟩

set_option maxHeartbeats 16000000 in
set_option maxRecDepth 100000 in
theorem back_long (k : Int) (b a : List Int) (ad1 ad2 : Option Addr) (cap1 cap2 : Nat) (c n by_ : Int) (w : World) (h : 300 < b.length ∨ 300 < a.length) (hb : b.length ≤ maxLen) (ha : a.length ≤ maxLen) :
    Calls Try.prog 5 #[.int .i64 k, .slice ad1 b.length cap1, .slice ad2 a.length cap2, .int .i64 c, .int .i64 n, .int .u8 by_] w fun e w' => e = .returned (.bool true) ∧ Below w.heap.size w w' := by
  unfold maxLen at ha hb
  by_cases h1 : 300 < b.length
  · have e1 : decide ((300 : Int) < (b.length : Int)) = true := by simp; omega
    have e2 : decide (300 < b.length) = true := by simp; omega
    go_enter Try.func5, Try.ntmps5
    go_wp2_with fail
    refine (awake_c w).mono ?_
    rintro e w5 ⟨rfl, b5⟩
    go_wp2
    go_ret
    exact ⟨rfl, b5⟩
  · have e1 : decide ((300 : Int) < (b.length : Int)) = false := by simp; omega
    have e2 : decide (300 < b.length) = false := by simp; omega
    have e3 : decide ((300 : Int) < (a.length : Int)) = true := by simp; omega
    have e4 : decide (300 < a.length) = true := by simp; omega
    go_enter Try.func5, Try.ntmps5
    go_wp2_with fail
    refine (awake_c w).mono ?_
    rintro e w5 ⟨rfl, b5⟩
    go_wp2
    go_ret
    exact ⟨rfl, b5⟩

set_option maxHeartbeats 16000000 in
set_option maxRecDepth 100000 in
theorem back_no (k : Int) (b a : List Int) (u : Value) (ad2 : Option Addr) (cap2 : Nat) (c n by_ : Int) (w : World) (hu : Bl w u b) (hb : b.length ≤ 300) (ha : a.length ≤ 300) (hok : okF k b = false) :
    Calls Try.prog 5 #[.int .i64 k, u, .slice ad2 a.length cap2, .int .i64 c, .int .i64 n, .int .u8 by_] w fun e w' => e = .returned (.bool true) ∧ Below w.heap.size w w' := by
  have HLY := Lib.hid (lay_c k b u w hu (by unfold maxLen; omega))
  obtain ⟨ad1, cap1, rfl, _⟩ := hu.form
  have HOK := Lib.hid hok
  clear hu hok
  have e1 : decide ((300 : Int) < (b.length : Int)) = false := by simp; omega
  have e2 : decide (300 < b.length) = false := by simp; omega
  have e3 : decide ((300 : Int) < (a.length : Int)) = false := by simp; omega
  have e4 : decide (300 < a.length) = false := by simp; omega
  go_enter Try.func5, Try.ntmps5
  go_wp2_with fail
  refine HLY.out.mono ?_
  rintro e w1 hT
  unfold layT at hT
  rw [HOK.out] at hT
  obtain ⟨A1, N1, C1, rfl, h1, b1⟩ := hT
  have hN1 : N1 = 0 := BRow.len h1
  subst hN1
  have HB1 := Lib.hid b1
  clear h1 b1
  go_wp2_with fail
  refine (awake_c w1).mono ?_
  rintro e w5 ⟨rfl, b5⟩
  go_wp2
  go_ret
  exact ⟨rfl, bn HB1.out b5⟩

end Go.Proofs.Ytkgenjiccidfgaa
