/-
  great, by contract.
-/
import Derived.Test.YtgiojpgdjbnbbaaDigAwake
namespace Go.Proofs.Ytgiojpgdjbnbbaa
open Go.RowKit Go.Lib

def longB : List (List Int) → Bool
  | [] => false
  | r :: t => decide (200 < r.length) || longB t
def greatB (l : List (List Int)) : Bool := decide (20 < l.length) || longB l
theorem longB_mem : ∀ {l : List (List Int)}, longB l = false → ∀ r ∈ l, r.length ≤ 200
  | [], _, _, h => by simp at h
  | x :: t, h, r, hr => by
    rw [longB] at h
    simp only [Bool.or_eq_false_iff, decide_eq_false_iff_not] at h
    rcases List.mem_cons.1 hr with rfl | hr
    · omega
    · exact longB_mem h.2 r hr
theorem greatB_no {l : List (List Int)} (h : greatB l = false) : l.length ≤ 20 ∧ ∀ r ∈ l, r.length ≤ 200 := by
  unfold greatB at h
  simp only [Bool.or_eq_false_iff, decide_eq_false_iff_not] at h
  exact ⟨by omega, longB_mem h.2⟩

set_option maxHeartbeats 4000000 in
theorem great_c (l : List (List Int)) (v : Value) (w : World) (h : Pl w v l) :
    Calls Try.prog 6 #[v] w fun e w' => e = .returned (.bool (greatB l)) ∧ w = w' := by
  obtain ⟨ad, cap, rfl, hb⟩ := h
  have HB := Lib.hid hb
  clear hb
  unfold greatB
  by_cases h0 : 20 < l.length
  · have e1 : decide (l.length ≤ 20) = false := by simp; omega
    have e2 : decide (20 < l.length) = true := by simp; omega
    have e3 : decide ((l.length : Int) ≤ 20) = false := by simp; omega
    have e4 : decide ((20 : Int) < (l.length : Int)) = true := by simp; omega
    rw [decide_eq_true h0, Bool.true_or]
    go_enter Try.func6, Try.ntmps6
    go_wp2
    go_loopw [3] (fun v5 wr => v5 = .int .i64 0 ∧ wr = w) (fun _ _ => 0)
    case atStart => exact ⟨rfl, rfl⟩
    case round =>
      obtain ⟨rfl, rfl⟩ := hrel
      have e0 : decide ((0 : Int) < (l.length : Int)) = true := by simp; omega
      go_wp2
      go_ret
      exact ⟨rfl, rfl⟩
  · have e1 : decide (l.length ≤ 20) = true := by simp; omega
    have e2 : decide (20 < l.length) = false := by simp; omega
    have e3 : decide ((l.length : Int) ≤ 20) = true := by simp; omega
    have e4 : decide ((20 : Int) < (l.length : Int)) = false := by simp; omega
    rw [decide_eq_false h0, Bool.false_or]
    have hlm : l.length ≤ 20 := by omega
    clear h0
    go_enter Try.func6, Try.ntmps6
    go_wp2
    go_loopw [3] (fun v5 wr => ∃ k : Nat, k ≤ l.length ∧ v5 = .int .i64 (k : Int) ∧ Hid (longB (l.drop k) = longB l) ∧ wr = w) (fun v5 _ => l.length - (RowKit.intOf v5).toNat)
    case atStart => exact ⟨0, by omega, rfl, Lib.hid rfl, rfl⟩
    case round =>
      obtain ⟨k, hk, rfl, hs, rfl⟩ := hrel
      by_cases hp : k < l.length
      · have e0 : decide ((k : Int) < (l.length : Int)) = true := by simp; omega
        obtain ⟨b, o, rfl, hR⟩ := HB.out (by omega)
        obtain ⟨u, c4, hu⟩ := hR k hp
        have hbl : b < wr.heap.size := World.block_lt_of_cell? wr _ c4
        have hs' := hs.out
        rw [List.drop_eq_getElem_cons hp, longB] at hs'
        obtain ⟨ad2, cap2, rfl, _⟩ := hu.form
        clear hs hR hu
        generalize l[k] = T at c4 hs'
        by_cases hx : 200 < T.length
        · have e3 : decide (200 < T.length) = true := by simpa using hx
          have e5 : decide ((200 : Int) < (T.length : Int)) = true := by simp; omega
          rw [e3, Bool.true_or] at hs'
          have HS := Lib.hid hs'
          clear hs'
          go_wp2
          go_ret
          exact ⟨by rw [← HS.out]; rfl, rfl⟩
        · have e3 : decide (200 < T.length) = false := by simpa using hx
          have e5 : decide ((200 : Int) < (T.length : Int)) = false := by simp; omega
          rw [e3, Bool.false_or] at hs'
          have HS := Lib.hid hs'
          clear hs'
          go_wp2
          go_roundw
          case rel => exact ⟨k + 1, hp, by go_num, HS, trivial⟩
          case measure => simp [RowKit.intOf]; omega
      · have e0 : decide ((k : Int) < (l.length : Int)) = false := by simp; omega
        have hs' := hs.out
        rw [List.drop_eq_nil_of_le (by omega), longB] at hs'
        have HS := Lib.hid hs'
        clear hs' hs
        go_wp2
        go_ret
        exact ⟨by rw [← HS.out]; rfl, rfl⟩

end Go.Proofs.Ytgiojpgdjbnbbaa
