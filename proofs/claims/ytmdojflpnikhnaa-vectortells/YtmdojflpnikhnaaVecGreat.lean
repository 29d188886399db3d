/-
  great, by contract; what VectorTells looks at.
-/
import Derived.Test.YtmdojflpnikhnaaVecMath
namespace Go.Proofs.Ytmdojflpnikhnaa
open Go.RowKit Go.Lib

def longB : List (List Int) → Bool
  | [] => false
  | l :: t => decide (20 < l.length) || longB t
def greatB (ls : List (List Int)) (m : Nat) : Bool := decide (m < ls.length) || longB ls
theorem longB_no : ∀ (ls : List (List Int)), longB ls = false → ∀ l ∈ ls, l.length ≤ 20
  | [], _, l, h => by cases h
  | x :: t, e, l, h => by
    rw [longB, Bool.or_eq_false_iff] at e
    rcases List.mem_cons.1 h with rfl | h
    · have := of_decide_eq_false e.1
      omega
    · exact longB_no t e.2 l h

set_option maxHeartbeats 4000000 in
theorem great_c (ls : List (List Int)) (v : Value) (m : Nat) (w : World) (h : Vl w v ls) (hm : m ≤ 1000) : Calls Try.prog 8 #[v, .int .i64 (m : Int)] w fun e w' => e = .returned (.bool (greatB ls m)) ∧ w = w' := by
  obtain ⟨ad, cap, rfl, _, h1⟩ := h
  have H1 := Lib.hid h1
  clear h1
  unfold greatB
  by_cases hl : m < ls.length
  · have e1 : decide (m < ls.length) = true := by simpa using hl
    have e2 : decide (ls.length ≤ m) = false := by simpa using hl
    have e3 : decide ((ls.length : Int) ≤ (m : Int)) = false := by simp; omega
    have e4 : decide ((m : Int) < (ls.length : Int)) = true := by simp; omega
    rw [e1, Bool.true_or]
    have hp0 : decide (0 < ls.length) = true := by simp; omega
    go_enter Try.func8, Try.ntmps8
    go_wp2
    go_loopw [5] (fun v5 wr => v5 = .int .i64 0 ∧ wr = w) (fun _ _ => 0)
    case atStart => exact ⟨rfl, rfl⟩
    case round =>
      obtain ⟨rfl, rfl⟩ := hrel
      go_wp2
      go_ret
      exact ⟨rfl, rfl⟩
  · have e1 : decide (m < ls.length) = false := by simpa using hl
    have e2 : decide (ls.length ≤ m) = true := by simpa using hl
    have e3 : decide ((ls.length : Int) ≤ (m : Int)) = true := by simp; omega
    have e4 : decide ((m : Int) < (ls.length : Int)) = false := by simp; omega
    rw [e1, Bool.false_or]
    go_enter Try.func8, Try.ntmps8
    go_wp2
    go_loopw [5] (fun v5 wr => ∃ k : Nat, k ≤ ls.length ∧ v5 = .int .i64 (k : Int) ∧ wr = w ∧ Hid (longB (ls.drop k) = longB ls)) (fun v5 _ => ls.length - (intOf v5).toNat)
    case atStart => exact ⟨0, by omega, rfl, rfl, Lib.hid rfl⟩
    case round =>
      obtain ⟨k, hk, rfl, rfl, hx⟩ := hrel
      by_cases hp : k < ls.length
      · have e5 : decide (k < ls.length) = true := by simpa using hp
        obtain ⟨b, o, rfl, hs⟩ := H1.out (by omega)
        obtain ⟨u, c0, hu⟩ := hs k hp
        have hx' := hx.out
        rw [List.drop_eq_getElem_cons hp, longB] at hx'
        generalize ls[k] = l at hu hx'
        obtain ⟨adl, capl, rfl, _⟩ := hu.form
        have hbl := World.block_lt_of_cell? wr _ c0
        simp only at hbl
        clear hs hu hx
        by_cases h20 : 20 < l.length
        · have e6 : decide (20 < l.length) = true := by simpa using h20
          have e7 : decide ((20 : Int) < (l.length : Int)) = true := by simp; omega
          rw [e6, Bool.true_or] at hx'
          have HX := Lib.hid hx'
          clear hx'
          go_wp2
          go_ret
          exact ⟨by rw [← HX.out]; rfl, rfl⟩
        · have e6 : decide (20 < l.length) = false := by simpa using h20
          have e7 : decide ((20 : Int) < (l.length : Int)) = false := by simp; omega
          rw [e6, Bool.false_or] at hx'
          have HX := Lib.hid hx'
          clear hx'
          go_wp2
          go_roundw
          case rel => exact ⟨k + 1, hp, by go_num, by trivial, HX⟩
          case measure => simp [intOf]; omega
      · have e5 : decide (k < ls.length) = false := by simpa using hp
        have hx' := hx.out
        rw [List.drop_eq_nil_of_le (by omega), longB] at hx'
        have HX := Lib.hid hx'
        clear hx hx'
        go_wp2
        go_ret
        exact ⟨by rw [← HX.out]; rfl, rfl⟩

/-- Zero, whatever number. -/
theorem zero_any (n : Int) : ∃ zl : List Int, (∀ k (hk : k < zl.length), zl[k] = 0) ∧ zl.length ≤ 8 ∧ (zl.length : Int) = (if manyB n then n else 0) ∧ ∀ w, Calls Try.prog 26 #[.int .i64 n] w (rowT zl w) := by
  cases h : manyB n
  · exact ⟨[], fun k hk => by simp at hk, by simp, by simp, fun w => zero_no n w h⟩
  · have h' : 1 ≤ n ∧ n ≤ 8 := by simpa [manyB] using h
    obtain ⟨N, rfl⟩ : ∃ N : Nat, n = (N : Int) := ⟨n.toNat, by omega⟩
    exact ⟨List.replicate N 0, fun k hk => by simp, by simp; omega, by simp, fun w => zero_c N w (by omega) (by omega)⟩

end Go.Proofs.Ytmdojflpnikhnaa
