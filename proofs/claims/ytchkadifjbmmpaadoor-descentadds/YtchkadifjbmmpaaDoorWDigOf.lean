/-
  Of, and chapter 5's own Of, by contract: the digest of parts.
-/
import Derived.Test.YtchkadifjbmmpaaDoorWDigAdd
namespace Go.Proofs.YtchkadifjbmmpaaDoor.D
open Go.RowKit Go.Lib

def fnvs (h : Int) : List (List Int) → Int
  | [] => h
  | p :: t => fnvs (fnv h p) t

set_option maxHeartbeats 4000000 in
theorem of_c (ps : List (List Int)) (v : Value) (w : World) (h1 : Pl w v ps) (hn : ps.length ≤ 1000000) (hl : ∀ p ∈ ps, p.length ≤ 1000000) :
    Calls Tryd.prog 46 #[v] w fun e w' => e = .returned (.int .u64 (fnvs 14695981039346656037 ps)) ∧ w = w' := by
  obtain ⟨ad1, cap1, rfl, k1⟩ := h1
  have H1 := Lib.hid k1
  have HL := Lib.hid hl
  clear k1 hl
  go_enter Tryd.func46, Tryd.ntmps46
  go_wp2
  go_loopw [3, 8] (fun vs vk wr => ∃ (k : Nat) (s : Int), k ≤ ps.length ∧ vk = .int .i64 (k : Int) ∧ vs = .int .u64 s ∧ wr = w ∧ Hid (fnvs s (ps.drop k) = fnvs 14695981039346656037 ps)) (fun _ vk _ => ps.length - (RowKit.intOf vk).toNat)
  case atStart => exact ⟨0, _, by omega, rfl, rfl, rfl, Lib.hid rfl⟩
  case round =>
    obtain ⟨k, s, hk, rfl, rfl, rfl, hs⟩ := hrel
    by_cases hp : k < ps.length
    · obtain ⟨g1, o1, rfl, c1⟩ := H1.out (by omega)
      obtain ⟨u, c11, hu⟩ := c1 k hp
      have hlk := HL.out _ (List.getElem_mem hp)
      have hs' := hs.out
      rw [List.drop_eq_getElem_cons hp, fnvs] at hs'
      clear c1 H1 hs
      generalize ps[k] = x at hu hs' hlk
      have HS := Lib.hid hs'
      have HC := Lib.hid (add_c s x u wr hu hlk)
      obtain ⟨ad2, cap2, rfl, _⟩ := hu.form
      clear hs' hu hlk
      go_wp2_with fail
      refine HC.out.mono ?_
      rintro e w1 ⟨rfl, rfl⟩
      go_wp2
      go_roundw
      case rel => exact ⟨k + 1, fnv s x, hp, by go_num, rfl, by trivial, HS⟩
      case measure => simp [RowKit.intOf]; omega
    · have hs' := hs.out
      rw [List.drop_eq_nil_of_le (by omega), fnvs] at hs'
      have HS := Lib.hid hs'
      clear hs' hs
      go_wp2
      go_ret
      exact ⟨by rw [← HS.out]; rfl, rfl⟩

set_option maxHeartbeats 4000000 in
theorem refof_c (ps : List (List Int)) (v : Value) (w : World) (h1 : Pl w v ps) (hn : ps.length ≤ 1000000) (hl : ∀ p ∈ ps, p.length ≤ 1000000) :
    Calls Tryd.prog 55 #[v] w fun e w' => e = .returned (.int .u64 (fnvs 14695981039346656037 ps)) ∧ w = w' := by
  obtain ⟨ad1, cap1, rfl, k1⟩ := h1
  have H1 := Lib.hid k1
  have HL := Lib.hid hl
  clear k1 hl
  go_enter Tryd.func55, Tryd.ntmps55
  go_wp2
  go_loopw [3, 4] (fun vs vk wr => ∃ (k : Nat) (s : Int), k ≤ ps.length ∧ vk = .int .i64 (k : Int) ∧ vs = .int .u64 s ∧ wr = w ∧ Hid (fnvs s (ps.drop k) = fnvs 14695981039346656037 ps)) (fun _ vk _ => ps.length - (RowKit.intOf vk).toNat)
  case atStart => exact ⟨0, _, by omega, rfl, rfl, rfl, Lib.hid rfl⟩
  case round =>
    obtain ⟨k, s, hk, rfl, rfl, rfl, hs⟩ := hrel
    by_cases hp : k < ps.length
    · obtain ⟨g1, o1, rfl, c1⟩ := H1.out (by omega)
      obtain ⟨u, c11, hu⟩ := c1 k hp
      have hlk := HL.out _ (List.getElem_mem hp)
      have hs' := hs.out
      rw [List.drop_eq_getElem_cons hp, fnvs] at hs'
      clear c1 H1 hs
      generalize ps[k] = x at hu hs' hlk
      have HS := Lib.hid hs'
      have HC := Lib.hid (more_c s x u wr hu hlk)
      obtain ⟨ad2, cap2, rfl, _⟩ := hu.form
      clear hs' hu hlk
      go_wp2_with fail
      refine HC.out.mono ?_
      rintro e w1 ⟨rfl, rfl⟩
      go_wp2
      go_roundw
      case rel => exact ⟨k + 1, fnv s x, hp, by go_num, rfl, by trivial, HS⟩
      case measure => simp [RowKit.intOf]; omega
    · have hs' := hs.out
      rw [List.drop_eq_nil_of_le (by omega), fnvs] at hs'
      have HS := Lib.hid hs'
      clear hs' hs
      go_wp2
      go_ret
      exact ⟨by rw [← HS.out]; rfl, rfl⟩
end Go.Proofs.YtchkadifjbmmpaaDoor.D
