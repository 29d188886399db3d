/-
  add, and chapter 5's own more, by contract: a sum with bytes behind it.
-/
import Derived.Test.YtchkadifjbmmpaaDoorWDigBase
namespace Go.Proofs.YtchkadifjbmmpaaDoor.D
open Go.RowKit Go.Lib

def stp (h b : Int) : Int := IntKind.u64.wrap (bits .xor .u64 h (IntKind.u64.wrap b) * 1099511628211)
def fnv (h : Int) : List Int → Int
  | [] => h
  | b :: t => fnv (stp h b) t

set_option maxHeartbeats 4000000 in
theorem add_c (h : Int) (l : List Int) (v : Value) (w : World) (h1 : Bl w v l) (hn : l.length ≤ 1000000) :
    Calls Tryd.prog 66 #[.int .u64 h, v] w fun e w' => e = .returned (.int .u64 (fnv h l)) ∧ w = w' := by
  obtain ⟨ad1, cap1, rfl, k1⟩ := h1.form
  have H1 := Lib.hid k1
  clear h1 k1
  go_enter Tryd.func66, Tryd.ntmps66
  go_wp2
  go_loopw [0, 9] (fun vs vk wr => ∃ (k : Nat) (s : Int), k ≤ l.length ∧ vk = .int .i64 (k : Int) ∧ vs = .int .u64 s ∧ wr = w ∧ Hid (fnv s (l.drop k) = fnv h l)) (fun _ vk _ => l.length - (RowKit.intOf vk).toNat)
  case atStart => exact ⟨0, h, by omega, rfl, rfl, rfl, Lib.hid rfl⟩
  case round =>
    obtain ⟨k, s, hk, rfl, rfl, rfl, hs⟩ := hrel
    by_cases hp : k < l.length
    · obtain ⟨g1, o1, rfl, c1⟩ := H1.out (by omega)
      have c11 := c1 k hp
      have hs' := hs.out
      rw [List.drop_eq_getElem_cons hp, fnv] at hs'
      clear c1 H1 hs
      generalize l[k] = x at c11 hs'
      have HS := Lib.hid hs'
      clear hs'
      go_wp2
      go_roundw
      case rel => exact ⟨k + 1, stp s x, hp, by go_num, rfl, by trivial, HS⟩
      case measure => simp [RowKit.intOf]; omega
    · have hs' := hs.out
      rw [List.drop_eq_nil_of_le (by omega), fnv] at hs'
      have HS := Lib.hid hs'
      clear hs' hs
      go_wp2
      go_ret
      exact ⟨by rw [← HS.out]; rfl, rfl⟩

set_option maxHeartbeats 4000000 in
theorem more_c (h : Int) (l : List Int) (v : Value) (w : World) (h1 : Bl w v l) (hn : l.length ≤ 1000000) :
    Calls Tryd.prog 73 #[.int .u64 h, v] w fun e w' => e = .returned (.int .u64 (fnv h l)) ∧ w = w' := by
  obtain ⟨ad1, cap1, rfl, k1⟩ := h1.form
  have H1 := Lib.hid k1
  clear h1 k1
  go_enter Tryd.func73, Tryd.ntmps73
  go_wp2
  go_loopw [0, 5] (fun vs vk wr => ∃ (k : Nat) (s : Int), k ≤ l.length ∧ vk = .int .i64 (k : Int) ∧ vs = .int .u64 s ∧ wr = w ∧ Hid (fnv s (l.drop k) = fnv h l)) (fun _ vk _ => l.length - (RowKit.intOf vk).toNat)
  case atStart => exact ⟨0, h, by omega, rfl, rfl, rfl, Lib.hid rfl⟩
  case round =>
    obtain ⟨k, s, hk, rfl, rfl, rfl, hs⟩ := hrel
    by_cases hp : k < l.length
    · obtain ⟨g1, o1, rfl, c1⟩ := H1.out (by omega)
      have c11 := c1 k hp
      have hs' := hs.out
      rw [List.drop_eq_getElem_cons hp, fnv] at hs'
      clear c1 H1 hs
      generalize l[k] = x at c11 hs'
      have HS := Lib.hid hs'
      clear hs'
      go_wp2
      go_roundw
      case rel => exact ⟨k + 1, stp s x, hp, by go_num, rfl, by trivial, HS⟩
      case measure => simp [RowKit.intOf]; omega
    · have hs' := hs.out
      rw [List.drop_eq_nil_of_le (by omega), fnv] at hs'
      have HS := Lib.hid hs'
      clear hs' hs
      go_wp2
      go_ret
      exact ⟨by rw [← HS.out]; rfl, rfl⟩
end Go.Proofs.YtchkadifjbmmpaaDoor.D
