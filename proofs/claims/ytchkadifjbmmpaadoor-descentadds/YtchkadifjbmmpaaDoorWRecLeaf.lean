/-
  The leaves beneath package record: stamps and texts that may be, by contract.
-/
import Derived.Test.YtchkadifjbmmpaaDoorWRecTabs
import Derived.Deep.QuietTactic
import Derived.BigQuiet
import Derived.OwnWalk
import Derived.Laws.OwnMore
import Derived.WalkSmall
namespace Go.Proofs.YtchkadifjbmmpaaDoor.R
open Go.RowKit Go.Lib
set_option maxRecDepth 100000

def inB (n m : Int) : Bool := decide (0 ≤ n) && decide (n ≤ m)
def smayB (a c : Int) : Bool := inB a 1099511627776 && inB c 65535
def slessB (a c b d : Int) : Bool := decide (a < b) || (decide (a = b) && decide (c < d))

theorem swall_c (n : Int) (w : World) : Calls Tryd.prog 83 #[.int .i64 n] w fun e w' => e = .returned (.bool (inB n 1099511627776)) ∧ w = w' := by
  unfold inB
  by_cases h1 : 0 ≤ n
  · by_cases h2 : n ≤ 1099511627776
    · have e1 : decide (0 ≤ n) = true := by simpa using h1
      have e2 : decide (n ≤ 1099511627776) = true := by simpa using h2
      go_enter Tryd.func83, Tryd.ntmps83
      go_wp2
      go_ret
      first | (simp; done) | (simp; omega)
    · have e1 : decide (0 ≤ n) = true := by simpa using h1
      have e2 : decide (n ≤ 1099511627776) = false := by simpa using h2
      go_enter Tryd.func83, Tryd.ntmps83
      go_wp2
      go_ret
      first | (simp; done) | (simp; omega)
  · have e1 : decide (0 ≤ n) = false := by simpa using h1
    go_enter Tryd.func83, Tryd.ntmps83
    go_wp2
    go_ret
    first | (simp; done) | (simp; omega)

theorem sin_c (n m : Int) (w : World) : Calls Tryd.prog 79 #[.int .i64 n, .int .i64 m] w fun e w' => e = .returned (.bool (inB n m)) ∧ w = w' := by
  unfold inB
  by_cases h1 : 0 ≤ n
  · by_cases h2 : n ≤ m
    · have e1 : decide (0 ≤ n) = true := by simpa using h1
      have e2 : decide (n ≤ m) = true := by simpa using h2
      go_enter Tryd.func79, Tryd.ntmps79
      go_wp2
      go_ret
      first | (simp; done) | (simp; omega)
    · have e1 : decide (0 ≤ n) = true := by simpa using h1
      have e2 : decide (n ≤ m) = false := by simpa using h2
      go_enter Tryd.func79, Tryd.ntmps79
      go_wp2
      go_ret
      first | (simp; done) | (simp; omega)
  · have e1 : decide (0 ≤ n) = false := by simpa using h1
    go_enter Tryd.func79, Tryd.ntmps79
    go_wp2
    go_ret
    first | (simp; done) | (simp; omega)

set_option maxHeartbeats 1000000 in
theorem smay_c (a c : Int) (w : World) : Calls Tryd.prog 76 #[.agg #[.int .i64 a, .int .i64 c]] w fun e w' => e = .returned (.bool (smayB a c)) ∧ Below w.heap.size w w' := by
  have cw := fun W => swall_c a W
  unfold smayB
  generalize inB a 1099511627776 = A at cw ⊢
  have HW := Lib.hid cw
  clear cw
  unfold inB
  cases A
  · go_enter Tryd.func76, Tryd.ntmps76
    go_wp2_with (go_at_call 83; refine (HW.out _).mono ?_; rintro e w' ⟨rfl, rfl⟩)
    go_ret
    exact ⟨rfl, (Below.refl _ _).alloc (Nat.le_refl _) _⟩
  · by_cases h1 : 0 ≤ c
    · by_cases h2 : c ≤ 65535
      · have e1 : decide (0 ≤ c) = true := by simpa using h1
        have e2 : decide (c ≤ 65535) = true := by simpa using h2
        go_enter Tryd.func76, Tryd.ntmps76
        go_wp2_with (go_at_call 83; refine (HW.out _).mono ?_; rintro e w' ⟨rfl, rfl⟩)
        go_ret
        exact ⟨by first | (simp; done) | (simp; omega), (Below.refl _ _).alloc (Nat.le_refl _) _⟩
      · have e1 : decide (0 ≤ c) = true := by simpa using h1
        have e2 : decide (c ≤ 65535) = false := by simpa using h2
        go_enter Tryd.func76, Tryd.ntmps76
        go_wp2_with (go_at_call 83; refine (HW.out _).mono ?_; rintro e w' ⟨rfl, rfl⟩)
        go_ret
        exact ⟨by first | (simp; done) | (simp; omega), (Below.refl _ _).alloc (Nat.le_refl _) _⟩
    · have e1 : decide (0 ≤ c) = false := by simpa using h1
      go_enter Tryd.func76, Tryd.ntmps76
      go_wp2_with (go_at_call 83; refine (HW.out _).mono ?_; rintro e w' ⟨rfl, rfl⟩)
      go_ret
      exact ⟨by first | (simp; done) | (simp; omega), (Below.refl _ _).alloc (Nat.le_refl _) _⟩

set_option maxHeartbeats 1000000 in
theorem srefmay_c (a c : Int) (w : World) : Calls Tryd.prog 67 #[.agg #[.int .i64 a, .int .i64 c]] w fun e w' => e = .returned (.bool (smayB a c)) ∧ Below w.heap.size w w' := by
  have cw := fun W => sin_c a 1099511627776 W
  have cd := fun W => sin_c c 65535 W
  unfold smayB
  generalize inB a 1099511627776 = A at cw ⊢
  generalize inB c 65535 = C at cd ⊢
  have HW := Lib.hid cw
  have HD := Lib.hid cd
  clear cw cd
  cases A
  · go_enter Tryd.func67, Tryd.ntmps67
    go_wp2_with fail
    refine (HW.out _).mono ?_
    rintro e w' ⟨rfl, rfl⟩
    go_wp2
    go_ret
    exact ⟨rfl, (Below.refl _ _).alloc (Nat.le_refl _) _⟩
  · go_enter Tryd.func67, Tryd.ntmps67
    go_wp2_with fail
    refine (HW.out _).mono ?_
    rintro e w' ⟨rfl, rfl⟩
    go_wp2_with fail
    refine (HD.out _).mono ?_
    rintro e w' ⟨rfl, rfl⟩
    go_wp2
    go_ret
    exact ⟨by simp, (Below.refl _ _).alloc (Nat.le_refl _) _⟩

def tmayB (l : List UInt8) : Bool := decide (l.length ≤ 120) && validD l
theorem tmayB_yes {l : List UInt8} (h1 : l.length ≤ 120) (h2 : validD l = true) : tmayB l = true := by simp [tmayB, h1, h2]

set_option maxHeartbeats 1000000 in
theorem tmay_c (s : ByteArray) (w : World) (hs : s.size ≤ 9223372036854775807) (hT : Tabs w) :
    Calls Tryd.prog 77 #[.string s] w fun e w' => e = .returned (.bool (tmayB s.data.toList)) ∧ Below w.heap.size w w' := by
  have cV := valid_c s w hs hT
  unfold tmayB
  rw [← Lib.size_eq]
  generalize validD s.data.toList = V at cV ⊢
  by_cases h : s.size ≤ 120
  · have hz : decide ((s.size : Int) ≤ 120) = true := by simp; omega
    rw [decide_eq_true h, Bool.true_and]
    go_enter Tryd.func77, Tryd.ntmps77
    go_wp2_with (go_at_call 80; refine cV.mono ?_; rintro e w' ⟨rfl, hb⟩)
    go_ret
    exact ⟨rfl, hb⟩
  · have hz : decide ((s.size : Int) ≤ 120) = false := by simp; omega
    rw [decide_eq_false h, Bool.false_and]
    clear cV
    go_enter Tryd.func77, Tryd.ntmps77
    go_wp2
    go_ret
    exact ⟨rfl, Below.refl _ _⟩

set_option maxHeartbeats 1000000 in
theorem trefmay_c (s : ByteArray) (w : World) (hs : s.size ≤ 9223372036854775807) (hT : Tabs w) :
    Calls Tryd.prog 68 #[.string s] w fun e w' => e = .returned (.bool (tmayB s.data.toList)) ∧ Below w.heap.size w w' := by
  have cV := valid_c s w hs hT
  unfold tmayB
  rw [← Lib.size_eq]
  generalize validD s.data.toList = V at cV ⊢
  by_cases h : s.size ≤ 120
  · have hz : decide ((s.size : Int) ≤ 120) = true := by simp; omega
    rw [decide_eq_true h, Bool.true_and]
    go_enter Tryd.func68, Tryd.ntmps68
    go_wp2_with (go_at_call 80; refine cV.mono ?_; rintro e w' ⟨rfl, hb⟩)
    go_ret
    exact ⟨rfl, hb⟩
  · have hz : decide ((s.size : Int) ≤ 120) = false := by simp; omega
    rw [decide_eq_false h, Bool.false_and]
    clear cV
    go_enter Tryd.func68, Tryd.ntmps68
    go_wp2
    go_ret
    exact ⟨rfl, Below.refl _ _⟩
end Go.Proofs.YtchkadifjbmmpaaDoor.R
