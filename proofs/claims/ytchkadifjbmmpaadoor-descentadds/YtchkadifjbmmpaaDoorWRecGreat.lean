/-
  GreatRecords, by contract.
-/
import Derived.Test.YtchkadifjbmmpaaDoorWRecArgs
namespace Go.Proofs.YtchkadifjbmmpaaDoor.R
open Go.RowKit Go.Lib
set_option maxRecDepth 100000

def longB : List Rc → Bool
  | [] => false
  | r :: t => decide (300 < (r.t.size : Int)) || longB t
def greatB (l : List Rc) (m : Nat) : Bool := decide (m < l.length) || longB l
theorem longB_mem : ∀ {l : List Rc}, longB l = false → ∀ r ∈ l, r.t.size ≤ 300
  | [], _, _, h => by simp at h
  | x :: t, h, r, hr => by
    rw [longB] at h
    simp only [Bool.or_eq_false_iff, decide_eq_false_iff_not] at h
    rcases List.mem_cons.1 hr with rfl | hr
    · omega
    · exact longB_mem h.2 r hr
theorem greatB_no {l : List Rc} {m : Nat} (h : greatB l m = false) : l.length ≤ m ∧ ∀ r ∈ l, r.t.size ≤ 300 := by
  unfold greatB at h
  simp only [Bool.or_eq_false_iff, decide_eq_false_iff_not] at h
  exact ⟨by omega, longB_mem h.2⟩

set_option maxHeartbeats 4000000 in
theorem great_c (l : List Rc) (v : Value) (m : Nat) (w : World) (h : Rl w v l) (hm : m ≤ 1000) (hl : l.length ≤ maxLen) :
    Calls Tryd.prog 25 #[v, .int .i64 (m : Int)] w fun e w' => e = .returned (.bool (greatB l m)) ∧ Below w.heap.size w w' := by
  obtain ⟨ad, cap, rfl, hc, hb⟩ := h.form
  have HB := Lib.hid hb
  unfold maxLen at hl
  clear h hb
  unfold greatB
  by_cases h0 : m < l.length
  · have e1 : decide (l.length ≤ m) = false := by simp; omega
    have e2 : decide (m < l.length) = true := by simp; omega
    rw [decide_eq_true h0, Bool.true_or]
    go_enter Tryd.func25, Tryd.ntmps25
    go_wp2
    go_loopw [5] (fun v5 wr => v5 = .int .i64 0 ∧ wr = w) (fun _ _ => 0)
    case atStart => exact ⟨rfl, rfl⟩
    case round =>
      obtain ⟨rfl, rfl⟩ := hrel
      have e0 : decide ((0 : Int) < (l.length : Int)) = true := by simp; omega
      go_wp2
      go_ret
      exact ⟨rfl, Below.refl _ _⟩
  · have e1 : decide (l.length ≤ m) = true := by simp; omega
    have e2 : decide (m < l.length) = false := by simp; omega
    rw [decide_eq_false h0, Bool.false_or]
    have hlm : l.length ≤ 1000 := by omega
    clear h0
    go_enter Tryd.func25, Tryd.ntmps25
    go_wp2
    go_loopw [5] (fun v5 wr => ∃ k : Nat, k ≤ l.length ∧ v5 = .int .i64 (k : Int) ∧ Hid (longB (l.drop k) = longB l) ∧ wr = w) (fun v5 _ => l.length - (RowKit.intOf v5).toNat)
    case atStart => exact ⟨0, by omega, rfl, Lib.hid rfl, rfl⟩
    case round =>
      obtain ⟨k, hk, rfl, hs, rfl⟩ := hrel
      by_cases hp : k < l.length
      · have e0 : decide ((k : Int) < (l.length : Int)) = true := by simp; omega
        obtain ⟨b, o, rfl, hR⟩ := HB.out (by omega)
        obtain ⟨_, _, _, _, c4⟩ := hR k hp
        have hbl : b < wr.heap.size := World.block_lt_of_cell? wr _ c4
        have hs' := hs.out
        rw [List.drop_eq_getElem_cons hp, longB] at hs'
        clear hs hR
        generalize l[k].t = T at c4 hs'
        by_cases hx : 300 < (T.size : Int)
        · have e3 : decide (300 < (T.size : Int)) = true := by simpa using hx
          rw [e3, Bool.true_or] at hs'
          have HS := Lib.hid hs'
          clear hs'
          go_wp2
          go_ret
          exact ⟨by rw [← HS.out]; rfl, Below.refl _ _⟩
        · have e3 : decide (300 < (T.size : Int)) = false := by simpa using hx
          rw [e3, Bool.false_or] at hs'
          have HS := Lib.hid hs'
          clear hs'
          go_wp2
          go_roundw
          case rel => exact ⟨k + 1, hp, by go_num, HS, trivial⟩
          case measure => simp [RowKit.intOf]; omega
      · have e0 : decide ((k : Int) < (l.length : Int)) = false := by simp; omega
        have hs' := hs.out
        rw [List.drop_eq_nil_of_le (by omega), longB] at hs'
        have HS := Lib.hid hs'
        clear hs' hs
        go_wp2
        go_ret
        exact ⟨by rw [← HS.out]; rfl, Below.refl _ _⟩
end Go.Proofs.YtchkadifjbmmpaaDoor.R
