/-
  Acts: the statements' own great, by contract.
-/
import Derived.Test.YtchkadifjbmmpaaDoorTrAct
namespace Go.Proofs.YtchkadifjbmmpaaDoor
open Go.RowKit Go.Lib Go.Maps
set_option maxRecDepth 100000
set_option linter.unusedSimpArgs false

def longA : List Ac → Bool
  | [] => false
  | r :: t => decide (300 < (r.r.t.size : Int)) || longA t
def greatA (l : List Ac) (m : Nat) : Bool := decide (m < l.length) || longA l
theorem longA_mem : ∀ {l : List Ac}, longA l = false → ∀ r ∈ l, r.r.t.size ≤ 300
  | [], _, _, h => by simp at h
  | x :: t, h, r, hr => by
    rw [longA] at h
    simp only [Bool.or_eq_false_iff, decide_eq_false_iff_not] at h
    rcases List.mem_cons.1 hr with rfl | hr
    · omega
    · exact longA_mem h.2 r hr
theorem greatA_no {l : List Ac} {m : Nat} (h : greatA l m = false) : l.length ≤ m ∧ ∀ r ∈ l, r.r.t.size ≤ 300 := by
  unfold greatA at h
  simp only [Bool.or_eq_false_iff, decide_eq_false_iff_not] at h
  exact ⟨by omega, longA_mem h.2⟩
set_option maxHeartbeats 4000000 in
theorem greatA_c (l : List Ac) (v : Value) (m : Nat) (w : World) (h : Al w v l) (hm : m ≤ 1000) (hl : l.length ≤ maxLen) :
    Calls Tryd.prog 12 #[v, .int .i64 (m : Int)] w fun e w' => e = .returned (.bool (greatA l m)) ∧ Below w.heap.size w w' := by
  obtain ⟨ad, cap, rfl, hc, hb⟩ := h
  have HB := Lib.hid hb
  unfold maxLen at hl
  clear hb
  unfold greatA
  by_cases h0 : m < l.length
  · have e1 : decide (l.length ≤ m) = false := by simp; omega
    have e2 : decide (m < l.length) = true := by simp; omega
    rw [decide_eq_true h0, Bool.true_or]
    go_enter Tryd.func12, Tryd.ntmps12
    go_wp2
    go_loopw [5] (fun v5 wr => v5 = .int .i64 0 ∧ wr = w) (fun _ _ => 0)
    case atStart => exact ⟨rfl, rfl⟩
    case round =>
      obtain ⟨rfl, rfl⟩ := hrel
      have e0 : decide ((0 : Int) < (l.length : Int)) = true := by simp; omega
      go_wp2
      go_ret
      exact ⟨rfl, Below.refl _ _⟩
  · have e1 : decide (l.length ≤ m) = true := by simp; omega
    have e2 : decide (m < l.length) = false := by simp; omega
    rw [decide_eq_false h0, Bool.false_or]
    have hlm : l.length ≤ 1000 := by omega
    clear h0
    go_enter Tryd.func12, Tryd.ntmps12
    go_wp2
    go_loopw [5] (fun v5 wr => ∃ k : Nat, k ≤ l.length ∧ v5 = .int .i64 (k : Int) ∧ Hid (longA (l.drop k) = longA l) ∧ wr = w) (fun v5 _ => l.length - (RowKit.intOf v5).toNat)
    case atStart => exact ⟨0, by omega, rfl, Lib.hid rfl, rfl⟩
    case round =>
      obtain ⟨k, hk, rfl, hs, rfl⟩ := hrel
      by_cases hp : k < l.length
      · have e0 : decide ((k : Int) < (l.length : Int)) = true := by simp; omega
        obtain ⟨b, o, rfl, hR⟩ := HB.out (by omega)
        obtain ⟨_, _, _, _, _, c4⟩ := hR k hp
        have hbl : b < wr.heap.size := World.block_lt_of_cell? wr _ c4
        have hs' := hs.out
        rw [List.drop_eq_getElem_cons hp, longA] at hs'
        clear hs hR
        generalize l[k].r.t = T at c4 hs'
        by_cases hx : 300 < (T.size : Int)
        · have e3 : decide (300 < (T.size : Int)) = true := by simpa using hx
          rw [e3, Bool.true_or] at hs'
          have HS := Lib.hid hs'
          clear hs'
          go_wp2
          go_ret
          exact ⟨by rw [← HS.out]; rfl, Below.refl _ _⟩
        · have e3 : decide (300 < (T.size : Int)) = false := by simpa using hx
          rw [e3, Bool.false_or] at hs'
          have HS := Lib.hid hs'
          clear hs'
          go_wp2
          go_roundw
          case rel => exact ⟨k + 1, hp, by go_num, HS, trivial⟩
          case measure => simp [RowKit.intOf]; omega
      · have e0 : decide ((k : Int) < (l.length : Int)) = false := by simp; omega
        have hs' := hs.out
        rw [List.drop_eq_nil_of_le (by omega), longA] at hs'
        have HS := Lib.hid hs'
        clear hs' hs
        go_wp2
        go_ret
        exact ⟨by rw [← HS.out]; rfl, Below.refl _ _⟩

end Go.Proofs.YtchkadifjbmmpaaDoor
