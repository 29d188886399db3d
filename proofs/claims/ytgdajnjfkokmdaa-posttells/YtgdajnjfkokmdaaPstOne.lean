/-
  one, of chapter 10's own answer, by contract.
-/
import Derived.Test.YtgdajnjfkokmdaaPstRef
namespace Go.Proofs.Ytgdajnjfkokmdaa
open Go.RowKit Go.Lib

theorem upB_le : ∀ (l : List Int) (p : Int), upB p l = true → ∀ x ∈ l, p < x
  | [], _, _, x, hx => by cases hx
  | a :: r, p, h, x, hx => by
    simp only [upB, Bool.and_eq_true, decide_eq_true_eq] at h
    rcases List.mem_cons.1 hx with rfl | hx
    · exact h.1
    · have := upB_le r a h.2 x hx
      omega
set_option maxHeartbeats 4000000 in
theorem one_c (x : Pv) (w : World) (h : Nl w x.a x.ns) (hn : x.ns.length ≤ 1000000) :
    Calls Try.prog 44 #[.agg #[.int .i64 x.o, .int .i64 x.s, x.a]] w fun e w' => e = .returned (.bool (oneB x.ns)) ∧ Below w.heap.size w w' := by
  obtain ⟨o, s, a, l⟩ := x
  simp only at h hn ⊢
  obtain ⟨ad, cap, rfl, k1⟩ := h.form
  have hal := alloc_below w (.cells #[.int .i64 o, .int .i64 s, .slice ad l.length cap] 37)
  have bx := Bx.new 37 w #[.int .i64 o, .int .i64 s, .slice ad l.length cap]
  obtain ⟨w1, hw1⟩ : ∃ w1, w1 = w.alloc (.cells #[.int .i64 o, .int .i64 s, .slice ad l.length cap] 37) := ⟨_, rfl⟩
  rw [← hw1] at hal bx
  have H1 : Hid (0 < l.length → ∃ b o', ad = some ⟨b, o', none⟩ ∧ Nums w1 b o' l) := Lib.hid (fun h0 => by obtain ⟨b, o', e, hs⟩ := k1 h0; exact ⟨b, o', e, hs.below hal⟩)
  have CB := Lib.hid bx
  have HW := Lib.hid hw1
  have HAL := Lib.hid hal
  clear h k1 hal bx hw1
  go_enter Try.func44, Try.ntmps44
  go_wp2
  go_loopw [3] (fun v3 wr => ∃ (k : Nat) (z : Int), k ≤ l.length ∧ v3 = .int .i64 (k : Int) ∧ Hid (Below w1.heap.size w1 wr) ∧ Hid (upB z (l.drop k) = upB (-1) l) ∧ Hid (-1 ≤ z) ∧ Hid (k = 0 ∧ z = -1 ∨ ∃ j, k = j + 1 ∧ ∃ hj : j < l.length, l[j] = z)) (fun v3 _ => l.length - (intOf v3).toNat)
  case atStart => exact ⟨0, -1, by omega, rfl, Lib.hid (by rw [HW.out]; exact Below.refl _ _), Lib.hid rfl, Lib.hid (by omega), Lib.hid (.inl ⟨rfl, rfl⟩)⟩
  case round =>
    obtain ⟨k, z, hk, rfl, HB, hs, hz, hj⟩ := hrel
    have cb := ((CB.out.below HB.out).cell 2)
    simp only [List.getElem?_toArray, List.getElem?_cons_succ, List.getElem?_cons_zero] at cb
    have hgl := (CB.out.below HB.out).lt
    by_cases hp : k < l.length
    · obtain ⟨g1, o1, rfl, c1⟩ := H1.out (by omega)
      have c11 := (c1.below HB.out) k hp
      have hgl1 := World.block_lt_of_cell? _ _ c11
      have hs' := hs.out
      rw [List.drop_eq_getElem_cons hp, upB] at hs'
      have HP := Lib.hid hp
      generalize hy : l[k] = y at c11 hs'
      have HY := Lib.hid hy
      clear hs hy
      cases h1 : decide (y < 0) with
      | true =>
        have hfin : oneB l = false := by
          have hz := hz.out
          have hyn : y < 0 := by simpa using h1
          have hd : decide (z < y) = false := by simp; omega
          rw [hd, Bool.false_and] at hs'
          simp [oneB, ← hs']
        have HF := Lib.hid hfin
        clear hfin hs' hz hj c1
        go_wp2_with fail
        go_quiet (fail)
        go_wp2
        go_ret
        exact ⟨by rw [HF.out]; rfl, bn HAL.out (below_drewN HB.out _)⟩
      | false =>
        have hy0 : 0 ≤ y := by simpa using h1
        rcases hj.out with ⟨rfl, rfl⟩ | ⟨j, rfl, hj1, hjz⟩
        · have hd : decide ((-1 : Int) < y) = true := by simp; omega
          rw [hd, Bool.true_and] at hs'
          have HS := Lib.hid hs'
          simp only [Nat.add_zero] at c11
          clear hs' hz hj c1 hd
          go_wp2_with fail
          go_quiet (fail)
          go_wp2
          go_roundw
          case rel => exact ⟨1, y, HP.out, by go_num, Lib.hid (below_drewN HB.out _), HS, Lib.hid (by omega), Lib.hid (.inr ⟨0, rfl, HP.out, HY.out⟩)⟩
          case measure => have := HP.out; simp [intOf]; omega
        · have c12 := (c1.below HB.out) j hj1
          rw [hjz] at c12
          have e3 : decide ((0 : Int) < (j : Int) + 1) = true := by rw [decide_eq_true_eq]; omega
          cases h2 : decide (y ≤ z) with
          | true =>
            have hfin : oneB l = false := by
              have hyz : y ≤ z := by simpa using h2
              have hd : decide (z < y) = false := by simp; omega
              rw [hd, Bool.false_and] at hs'
              simp [oneB, ← hs']
            have HF := Lib.hid hfin
            clear hfin hs' hz hj c1 hjz
            go_wp2_with fail
            go_quiet (fail)
            go_wp2
            go_ret
            exact ⟨by rw [HF.out]; rfl, bn HAL.out (below_drewN HB.out _)⟩
          | false =>
            have hyz : z < y := by simpa using h2
            have hd : decide (z < y) = true := by simpa using hyz
            rw [hd, Bool.true_and] at hs'
            have HS := Lib.hid hs'
            clear hs' hz hj c1 hd hjz hyz
            go_wp2_with fail
            go_quiet (fail)
            go_wp2
            go_roundw
            case rel => exact ⟨j + 1 + 1, y, HP.out, by go_num, Lib.hid (below_drewN HB.out _), HS, Lib.hid (by omega), Lib.hid (.inr ⟨j + 1, rfl, HP.out, HY.out⟩)⟩
            case measure => have := HP.out; simp [intOf]; omega
    · have hs' := hs.out
      rw [List.drop_of_length_le (by omega), upB] at hs'
      have hfin : oneB l = decide (0 < l.length) := by
        unfold oneB
        rw [← hs', Bool.and_true]
        cases l with
        | nil => rfl
        | cons a r => simp
      have HF := Lib.hid hfin
      obtain rfl : k = l.length := by omega
      clear hfin hs' hs hz hj
      go_wp2
      go_ret
      exact ⟨by rw [HF.out]; simp, bn HAL.out HB.out⟩
end Go.Proofs.Ytgdajnjfkokmdaa
