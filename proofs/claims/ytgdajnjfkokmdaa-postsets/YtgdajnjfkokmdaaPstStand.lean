/-
  mayStand of the program, by contract.
-/
import Derived.Test.YtgdajnjfkokmdaaPstOne
namespace Go.Proofs.Ytgdajnjfkokmdaa
open Go.RowKit Go.Lib

set_option maxHeartbeats 4000000 in
theorem stand_c (l : List Int) (v : Value) (w : World) (h : Nl w v l) (hn : l.length ≤ 1000000) :
    Calls Try.prog 43 #[v] w fun e w' => e = .returned (.bool (oneB l)) ∧ w = w' := by
  obtain ⟨ad, cap, rfl, k1⟩ := h.form
  have H1 := Lib.hid k1
  clear h k1
  go_enter Try.func43, Try.ntmps43
  go_wp2
  go_loopw [7] (fun v7 wr => ∃ (k : Nat) (z : Int), k ≤ l.length ∧ v7 = .int .i64 (k : Int) ∧ w = wr ∧ Hid (upB z (l.drop k) = upB (-1) l) ∧ Hid (-1 ≤ z) ∧ Hid (k = 0 ∧ z = -1 ∨ ∃ j, k = j + 1 ∧ ∃ hj : j < l.length, l[j] = z)) (fun v7 _ => l.length - (intOf v7).toNat)
  case atStart => exact ⟨0, -1, by omega, rfl, rfl, Lib.hid rfl, Lib.hid (by omega), Lib.hid (.inl ⟨rfl, rfl⟩)⟩
  case round =>
    obtain ⟨k, z, hk, rfl, rfl, hs, hz, hj⟩ := hrel
    by_cases hp : k < l.length
    · obtain ⟨g1, o1, rfl, c1⟩ := H1.out (by omega)
      have c11 := c1 k hp
      have hgl1 := World.block_lt_of_cell? _ _ c11
      have hs' := hs.out
      rw [List.drop_eq_getElem_cons hp, upB] at hs'
      have HP := Lib.hid hp
      generalize hy : l[k] = y at c11 hs'
      have HY := Lib.hid hy
      clear hs hy
      cases h1 : decide (y < 0) with
      | true =>
        have hfin : oneB l = false := by
          have hz := hz.out
          have hyn : y < 0 := by simpa using h1
          have hd : decide (z < y) = false := by simp; omega
          rw [hd, Bool.false_and] at hs'
          simp [oneB, ← hs']
        have HF := Lib.hid hfin
        clear hfin hs' hz hj c1
        go_wp2
        go_ret
        exact ⟨by rw [HF.out]; rfl, rfl⟩
      | false =>
        have hy0 : 0 ≤ y := by simpa using h1
        rcases hj.out with ⟨rfl, rfl⟩ | ⟨j, rfl, hj1, hjz⟩
        · have hd : decide ((-1 : Int) < y) = true := by simp; omega
          rw [hd, Bool.true_and] at hs'
          have HS := Lib.hid hs'
          simp only [Nat.add_zero] at c11
          clear hs' hz hj c1 hd
          go_wp2
          go_roundw
          case rel => exact ⟨1, y, HP.out, by go_num, by first | rfl | trivial, HS, Lib.hid (by omega), Lib.hid (.inr ⟨0, rfl, HP.out, HY.out⟩)⟩
          case measure => have := HP.out; simp [intOf]; omega
        · have c12 := c1 j hj1
          rw [hjz] at c12
          have e3 : decide ((0 : Int) < (j : Int) + 1) = true := by rw [decide_eq_true_eq]; omega
          cases h2 : decide (y ≤ z) with
          | true =>
            have hfin : oneB l = false := by
              have hyz : y ≤ z := by simpa using h2
              have hd : decide (z < y) = false := by simp; omega
              rw [hd, Bool.false_and] at hs'
              simp [oneB, ← hs']
            have HF := Lib.hid hfin
            clear hfin hs' hz hj c1 hjz
            go_wp2
            go_ret
            exact ⟨by rw [HF.out]; rfl, rfl⟩
          | false =>
            have hyz : z < y := by simpa using h2
            have hd : decide (z < y) = true := by simpa using hyz
            rw [hd, Bool.true_and] at hs'
            have HS := Lib.hid hs'
            clear hs' hz hj c1 hd hjz hyz
            go_wp2
            go_roundw
            case rel => exact ⟨j + 1 + 1, y, HP.out, by go_num, by first | rfl | trivial, HS, Lib.hid (by omega), Lib.hid (.inr ⟨j + 1, rfl, HP.out, HY.out⟩)⟩
            case measure => have := HP.out; simp [intOf]; omega
    · have hs' := hs.out
      rw [List.drop_of_length_le (by omega), upB] at hs'
      have hfin : oneB l = decide (0 < l.length) := by
        unfold oneB
        rw [← hs', Bool.and_true]
        cases l with
        | nil => rfl
        | cons a r => simp
      have HF := Lib.hid hfin
      obtain rfl : k = l.length := by omega
      clear hfin hs' hs hz hj
      go_wp2
      go_ret
      exact ⟨by rw [HF.out]; simp, rfl⟩
end Go.Proofs.Ytgdajnjfkokmdaa
