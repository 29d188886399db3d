/-
  mayNodes, Many, the two closures, Low, SameInts, May, Below, Sum, by contract.
-/
import Derived.Test.YtcnpckdchjjeoaaDoorMVecBase
namespace Go.Proofs.YtcnpckdchjjeoaaDoor
open Go.RowKit Go.Lib
set_option maxRecDepth 100000
theorem many_c (n : Int) (w : World) : Calls Tryd.prog 57 #[.int .i64 n] w fun e w' => e = .returned (.bool (manyB n)) ∧ w = w' := by
  unfold manyB
  by_cases h1 : 1 ≤ n
  · have e1 : decide (1 ≤ n) = true := by simpa using h1
    by_cases h2 : n ≤ 8
    · have e2 : decide (n ≤ 8) = true := by simpa using h2
      go_enter Tryd.func57, Tryd.ntmps57
      go_wp2
      go_ret
      first | (simp; done) | (simp; omega)
    · have e2 : decide (n ≤ 8) = false := by simpa using h2
      go_enter Tryd.func57, Tryd.ntmps57
      go_wp2
      go_ret
      first | (simp; done) | (simp; omega)
  · have e1 : decide (1 ≤ n) = false := by simpa using h1
    go_enter Tryd.func57, Tryd.ntmps57
    go_wp2
    go_ret
    first | (simp; done) | (simp; omega)

theorem refmany_c (n : Int) (w : World) : Calls Tryd.prog 41 #[.int .i64 n] w fun e w' => e = .returned (.bool (manyB n)) ∧ w = w' := by
  unfold manyB
  by_cases h1 : 1 ≤ n
  · have e1 : decide (1 ≤ n) = true := by simpa using h1
    by_cases h2 : n ≤ 8
    · have e2 : decide (n ≤ 8) = true := by simpa using h2
      go_enter Tryd.func41, Tryd.ntmps41
      go_wp2
      go_ret
      first | (simp; done) | (simp; omega)
    · have e2 : decide (n ≤ 8) = false := by simpa using h2
      go_enter Tryd.func41, Tryd.ntmps41
      go_wp2
      go_ret
      first | (simp; done) | (simp; omega)
  · have e1 : decide (1 ≤ n) = false := by simpa using h1
    go_enter Tryd.func41, Tryd.ntmps41
    go_wp2
    go_ret
    first | (simp; done) | (simp; omega)

theorem max2_run (x y : Int) (ts : Array TypeId) (t : TypeId) (W : World) : (Builtin.max_ ts t #[.int .i64 x, .int .i64 y]).run Tryd.prog W = .ok (.int .i64 (mx x y)) W := by
  rw [run_max_int2]; rfl
theorem min2_run (x y : Int) (ts : Array TypeId) (t : TypeId) (W : World) : (Builtin.min_ ts t #[.int .i64 x, .int .i64 y]).run Tryd.prog W = .ok (.int .i64 (mn x y)) W := by
  rw [run_min_int2]; rfl

def lowT (m : Int) (w : World) (e : Ending) (w' : World) : Prop := ∃ r : Int, e = .returned (.int .i64 r) ∧ 0 ≤ r ∧ r < m ∧ w = w'

theorem low_c (x m : Int) (w : World) (hm : 0 < m) (hm2 : m ≤ 4294967296) : Calls Tryd.prog 24 #[.int .i64 x, .int .i64 m] w (lowT m w) := by
  have hne : (m == 0) = false := by simp; omega
  go_enter Tryd.func24, Tryd.ntmps24
  go_wp2
  go_ret
  have h1 : 0 ≤ IntKind.u64.wrap x := by rw [IntKind.wrap_u64]; omega
  have h2 := Int.tmod_nonneg m h1
  have h3 := Int.tmod_lt_of_pos (IntKind.u64.wrap x) hm
  generalize (IntKind.u64.wrap x).tmod m = r at h2 h3
  have e : wrap64 r = r := by unfold wrap64; omega
  exact ⟨r, by rw [← e]; simp only [e]; rfl, h2, h3, rfl⟩

set_option maxHeartbeats 4000000 in
theorem same_c (l m : List Int) (v1 v2 : Value) (w : World) (h1 : Nl w v1 l) (h2 : Nl w v2 m) (hn : l.length ≤ 1000000) :
    Calls Tryd.prog 11 #[v1, v2] w fun e w' => e = .returned (.bool (sameB l m)) ∧ Below w.heap.size w w' := by
  obtain ⟨ad1, cap1, rfl, k1⟩ := h1.form
  obtain ⟨ad2, cap2, rfl, k2⟩ := h2.form
  have H1 := Lib.hid k1
  have H2 := Lib.hid k2
  clear h1 h2 k1 k2
  by_cases hl : l.length = m.length
  · have e0 : ((l.length : Int) != (m.length : Int)) = false := by simp [hl]
    have HL := Lib.hid hl
    clear hl
    go_enter Tryd.func11, Tryd.ntmps11
    go_wp2
    go_loopw [5] (fun v5 wr => ∃ k q : Nat, k ≤ l.length ∧ v5 = .int .i64 (k : Int) ∧ wr = w.drewN q ∧ Hid (sameB (l.drop k) (m.drop k) = sameB l m)) (fun v5 _ => l.length - (intOf v5).toNat)
    case atStart => exact ⟨0, 0, by omega, rfl, rfl, Lib.hid rfl⟩
    case round =>
      obtain ⟨k, q, hk, rfl, rfl, hs⟩ := hrel
      by_cases hp : k < l.length
      · obtain ⟨g1, o1, rfl, c1⟩ := H1.out (by omega)
        have hpm : k < m.length := by have := HL.out; omega
        obtain ⟨g2, o2, rfl, c2⟩ := H2.out (by omega)
        have c11 := c1 k hp
        have c21 := c2 k hpm
        have hs' := hs.out
        rw [List.drop_eq_getElem_cons hp, List.drop_eq_getElem_cons hpm, sameB] at hs'
        clear c1 c2 H1 H2 hs
        generalize l[k] = x at c11 hs'
        generalize m[k] = y at c21 hs'
        by_cases hxy : x = y
        · have f1 : (x != y) = false := by simpa using hxy
          have f2 : (x == y) = true := by simpa using hxy
          rw [f2, Bool.true_and] at hs'
          have HS := Lib.hid hs'
          clear hs' hxy f2
          go_wp2
          go_quiet (fail)
          go_wp2
          go_roundw
          case rel => exact ⟨k + 1, q + nq, hp, by go_num, rfl, HS⟩
          case measure => simp [intOf]; omega
        · have f1 : (x != y) = true := by simpa using hxy
          have f2 : (x == y) = false := by simpa using hxy
          rw [f2, Bool.false_and] at hs'
          have HS := Lib.hid hs'
          clear hs' hxy f2
          go_wp2
          go_quiet (fail)
          go_wp2
          go_ret
          exact ⟨by rw [← HS.out]; rfl, below_drewN (below_drewN (Below.refl _ _) q) nq⟩
      · have hs' := hs.out
        rw [List.drop_eq_nil_of_le (by omega), List.drop_eq_nil_of_le (by have := HL.out; omega), sameB] at hs'
        have HS := Lib.hid hs'
        clear hs' hs
        go_wp2
        go_ret
        exact ⟨by rw [← HS.out]; rfl, below_drewN (Below.refl _ _) q⟩
  · have e0 : ((l.length : Int) != (m.length : Int)) = true := by simp; omega
    rw [sameB_len l m hl]
    go_enter Tryd.func11, Tryd.ntmps11
    go_wp2
    go_ret
    exact ⟨rfl, Below.refl _ _⟩

set_option maxHeartbeats 4000000 in
theorem below_c (l m : List Int) (v1 v2 : Value) (w : World) (h1 : Nl w v1 l) (h2 : Nl w v2 m) (hn : l.length ≤ 1000000) :
    Calls Tryd.prog 35 #[v1, v2] w fun e w' => e = .returned (.bool (leB l m)) ∧ Below w.heap.size w w' := by
  obtain ⟨ad1, cap1, rfl, k1⟩ := h1.form
  obtain ⟨ad2, cap2, rfl, k2⟩ := h2.form
  have H1 := Lib.hid k1
  have H2 := Lib.hid k2
  clear h1 h2 k1 k2
  by_cases hl : l.length = m.length
  · have e0 : ((l.length : Int) != (m.length : Int)) = false := by simp [hl]
    have HL := Lib.hid hl
    clear hl
    go_enter Tryd.func35, Tryd.ntmps35
    go_wp2
    go_loopw [14] (fun vk wr => ∃ k q : Nat, k ≤ l.length ∧ vk = .int .i64 (k : Int) ∧ wr = w.drewN q ∧ Hid (leB (l.drop k) (m.drop k) = leB l m)) (fun vk _ => l.length - (intOf vk).toNat)
    case atStart => exact ⟨0, 0, by omega, rfl, rfl, Lib.hid rfl⟩
    case round =>
      obtain ⟨k, q, hk, rfl, rfl, hs⟩ := hrel
      by_cases hp : k < l.length
      · obtain ⟨g1, o1, rfl, c1⟩ := H1.out (by omega)
        have hpm : k < m.length := by have := HL.out; omega
        obtain ⟨g2, o2, rfl, c2⟩ := H2.out (by omega)
        have c11 := c1 k hp
        have c21 := c2 k hpm
        have hs' := hs.out
        rw [List.drop_eq_getElem_cons hp, List.drop_eq_getElem_cons hpm, leB] at hs'
        clear c1 c2 H1 H2 hs
        generalize l[k] = x at c11 hs'
        generalize m[k] = y at c21 hs'
        by_cases hxy : x ≤ y
        · have f1 : ¬ y < x := by omega
          have f2 : decide (x ≤ y) = true := by simpa using hxy
          have f3 : decide (y < x) = false := by simpa using f1
          rw [f2, Bool.true_and] at hs'
          have HS := Lib.hid hs'
          clear hs' hxy f2
          go_wp2
          go_roundw
          case rel => exact ⟨k + 1, q, hp, by go_num, rfl, HS⟩
          case measure => simp [intOf]; omega
        · have f1 : y < x := by omega
          have f2 : decide (x ≤ y) = false := by simpa using hxy
          have f3 : decide (y < x) = true := by simpa using f1
          rw [f2, Bool.false_and] at hs'
          have HS := Lib.hid hs'
          clear hs' hxy f2
          go_wp2
          go_ret
          exact ⟨by rw [← HS.out]; rfl, below_drewN (Below.refl _ _) q⟩
      · have hs' := hs.out
        rw [List.drop_eq_nil_of_le (by omega), List.drop_eq_nil_of_le (by have := HL.out; omega), leB] at hs'
        have HS := Lib.hid hs'
        clear hs' hs
        go_wp2
        go_ret
        exact ⟨by rw [← HS.out]; rfl, below_drewN (Below.refl _ _) q⟩
  · have e0 : ((l.length : Int) != (m.length : Int)) = true := by simp; omega
    rw [leB_len l m hl]
    go_enter Tryd.func35, Tryd.ntmps35
    go_wp2
    go_ret
    exact ⟨rfl, Below.refl _ _⟩

set_option maxHeartbeats 4000000 in
theorem refbelow_c (l m : List Int) (v1 v2 : Value) (w : World) (h1 : Nl w v1 l) (h2 : Nl w v2 m) (hn : l.length ≤ 1000000) :
    Calls Tryd.prog 39 #[v1, v2] w fun e w' => e = .returned (.bool (leB l m)) ∧ Below w.heap.size w w' := by
  obtain ⟨ad1, cap1, rfl, k1⟩ := h1.form
  obtain ⟨ad2, cap2, rfl, k2⟩ := h2.form
  have H1 := Lib.hid k1
  have H2 := Lib.hid k2
  clear h1 h2 k1 k2
  by_cases hl : l.length = m.length
  · have e0 : ((l.length : Int) != (m.length : Int)) = false := by simp [hl]
    have HL := Lib.hid hl
    clear hl
    go_enter Tryd.func39, Tryd.ntmps39
    go_wp2
    go_loopw [5] (fun vk wr => ∃ k q : Nat, k ≤ l.length ∧ vk = .int .i64 (k : Int) ∧ wr = w.drewN q ∧ Hid (leB (l.drop k) (m.drop k) = leB l m)) (fun vk _ => l.length - (intOf vk).toNat)
    case atStart => exact ⟨0, 0, by omega, rfl, rfl, Lib.hid rfl⟩
    case round =>
      obtain ⟨k, q, hk, rfl, rfl, hs⟩ := hrel
      by_cases hp : k < l.length
      · obtain ⟨g1, o1, rfl, c1⟩ := H1.out (by omega)
        have hpm : k < m.length := by have := HL.out; omega
        obtain ⟨g2, o2, rfl, c2⟩ := H2.out (by omega)
        have c11 := c1 k hp
        have c21 := c2 k hpm
        have hs' := hs.out
        rw [List.drop_eq_getElem_cons hp, List.drop_eq_getElem_cons hpm, leB] at hs'
        clear c1 c2 H1 H2 hs
        generalize l[k] = x at c11 hs'
        generalize m[k] = y at c21 hs'
        by_cases hxy : x ≤ y
        · have f1 : ¬ y < x := by omega
          have f2 : decide (x ≤ y) = true := by simpa using hxy
          have f3 : decide (y < x) = false := by simpa using f1
          rw [f2, Bool.true_and] at hs'
          have HS := Lib.hid hs'
          clear hs' hxy f2
          go_wp2
          go_quiet (fail)
          go_wp2
          go_roundw
          case rel => exact ⟨k + 1, q + nq, hp, by go_num, rfl, HS⟩
          case measure => simp [intOf]; omega
        · have f1 : y < x := by omega
          have f2 : decide (x ≤ y) = false := by simpa using hxy
          have f3 : decide (y < x) = true := by simpa using f1
          rw [f2, Bool.false_and] at hs'
          have HS := Lib.hid hs'
          clear hs' hxy f2
          go_wp2
          go_quiet (fail)
          go_wp2
          go_ret
          exact ⟨by rw [← HS.out]; rfl, below_drewN (below_drewN (Below.refl _ _) q) nq⟩
      · have hs' := hs.out
        rw [List.drop_eq_nil_of_le (by omega), List.drop_eq_nil_of_le (by have := HL.out; omega), leB] at hs'
        have HS := Lib.hid hs'
        clear hs' hs
        go_wp2
        go_ret
        exact ⟨by rw [← HS.out]; rfl, below_drewN (Below.refl _ _) q⟩
  · have e0 : ((l.length : Int) != (m.length : Int)) = true := by simp; omega
    rw [leB_len l m hl]
    go_enter Tryd.func39, Tryd.ntmps39
    go_wp2
    go_ret
    exact ⟨rfl, Below.refl _ _⟩

set_option maxHeartbeats 4000000 in
theorem may_c (l : List Int) (n : Int) (v : Value) (w : World) (h1 : Nl w v l) (hn : l.length ≤ 1000000) :
    Calls Tryd.prog 34 #[v, .int .i64 n] w fun e w' => e = .returned (.bool (mayB l n)) ∧ Below w.heap.size w w' := by
  obtain ⟨ad1, cap1, rfl, k1⟩ := h1.form
  have H1 := Lib.hid k1
  have cM := fun W => many_c n W
  clear h1 k1
  unfold mayB
  generalize manyB n = M at cM ⊢
  have HM := Lib.hid cM
  clear cM
  cases M
  · go_enter Tryd.func34, Tryd.ntmps34
    go_wp2_with (go_at_call 57; refine (HM.out _).mono ?_; rintro e w' ⟨rfl, rfl⟩)
    go_ret
    exact ⟨rfl, Below.refl _ _⟩
  · by_cases hl : (l.length : Int) = n
    · have e0 : ((l.length : Int) != n) = false := by simp [hl]
      have e1 : decide ((l.length : Int) = n) = true := by simpa using hl
      rw [e1, Bool.true_and, Bool.true_and]
      clear e1
      subst hl
      go_enter Tryd.func34, Tryd.ntmps34
      go_wp2_with (go_at_call 57; refine (HM.out _).mono ?_; rintro e w' ⟨rfl, rfl⟩)
      go_loopw [18] (fun vk wr => ∃ k : Nat, k ≤ l.length ∧ vk = .int .i64 (k : Int) ∧ wr = w ∧ Hid (okN (l.drop k) = okN l)) (fun vk _ => l.length - (intOf vk).toNat)
      case atStart => exact ⟨0, by omega, rfl, rfl, Lib.hid rfl⟩
      case round =>
        obtain ⟨k, hk, rfl, rfl, hs⟩ := hrel
        by_cases hp : k < l.length
        · obtain ⟨g1, o1, rfl, c1⟩ := H1.out (by omega)
          have c11 := c1 k hp
          have hs' := hs.out
          rw [List.drop_eq_getElem_cons hp, okN] at hs'
          clear c1 H1 hs
          generalize l[k] = x at c11 hs'
          by_cases h0 : 0 ≤ x
          · have f0 : decide (x < 0) = false := by simpa using h0
            have f0' : decide (0 ≤ x) = true := by simpa using h0
            by_cases h9 : x ≤ 1023
            · have f9 : decide (1023 < x) = false := by simpa using h9
              have f9' : decide (x ≤ 1023) = true := by simpa using h9
              rw [f0', f9', Bool.true_and, Bool.true_and] at hs'
              have HS := Lib.hid hs'
              clear hs' f0' f9' h0 h9
              go_wp2
              go_roundw
              case rel => exact ⟨k + 1, hp, by go_num, by trivial, HS⟩
              case measure => simp [intOf]; omega
            · have f9 : decide (1023 < x) = true := by simp; omega
              have f9' : decide (x ≤ 1023) = false := by simpa using h9
              rw [f9', Bool.false_and, Bool.and_false] at hs'
              have HS := Lib.hid hs'
              clear hs' f0' f9' h0 h9
              go_wp2
              go_ret
              exact ⟨by rw [← HS.out]; rfl, Below.refl _ _⟩
          · have f0 : decide (x < 0) = true := by simp; omega
            have f0' : decide (0 ≤ x) = false := by simpa using h0
            rw [f0', Bool.false_and] at hs'
            have HS := Lib.hid hs'
            clear hs' f0' h0
            go_wp2
            go_ret
            exact ⟨by rw [← HS.out]; rfl, Below.refl _ _⟩
        · have hs' := hs.out
          rw [List.drop_eq_nil_of_le (by omega), okN] at hs'
          have HS := Lib.hid hs'
          clear hs' hs
          go_wp2
          go_ret
          exact ⟨by rw [← HS.out]; rfl, Below.refl _ _⟩
    · have e0 : ((l.length : Int) != n) = true := by simpa using hl
      have e1 : decide ((l.length : Int) = n) = false := by simpa using hl
      rw [e1, Bool.false_and, Bool.true_and]
      clear e1
      go_enter Tryd.func34, Tryd.ntmps34
      go_wp2_with (go_at_call 57; refine (HM.out _).mono ?_; rintro e w' ⟨rfl, rfl⟩)
      go_ret
      exact ⟨rfl, Below.refl _ _⟩

set_option maxHeartbeats 4000000 in
theorem refmay_c (l : List Int) (n : Int) (v : Value) (w : World) (h1 : Nl w v l) (hn : l.length ≤ 1000000) :
    Calls Tryd.prog 38 #[v, .int .i64 n] w fun e w' => e = .returned (.bool (mayB l n)) ∧ Below w.heap.size w w' := by
  obtain ⟨ad1, cap1, rfl, k1⟩ := h1.form
  have H1 := Lib.hid k1
  have cM := fun W => refmany_c n W
  clear h1 k1
  unfold mayB
  generalize manyB n = M at cM ⊢
  have HM := Lib.hid cM
  clear cM
  cases M
  · go_enter Tryd.func38, Tryd.ntmps38
    go_wp2_with (go_at_call 41; refine (HM.out _).mono ?_; rintro e w' ⟨rfl, rfl⟩)
    go_ret
    exact ⟨rfl, Below.refl _ _⟩
  · by_cases hl : (l.length : Int) = n
    · have e0 : ((l.length : Int) != n) = false := by simp [hl]
      have e1 : decide ((l.length : Int) = n) = true := by simpa using hl
      rw [e1, Bool.true_and, Bool.true_and]
      clear e1
      subst hl
      go_enter Tryd.func38, Tryd.ntmps38
      go_wp2_with (go_at_call 41; refine (HM.out _).mono ?_; rintro e w' ⟨rfl, rfl⟩)
      go_loopw [5] (fun vk wr => ∃ k : Nat, k ≤ l.length ∧ vk = .int .i64 (k : Int) ∧ wr = w ∧ Hid (okN (l.drop k) = okN l)) (fun vk _ => l.length - (intOf vk).toNat)
      case atStart => exact ⟨0, by omega, rfl, rfl, Lib.hid rfl⟩
      case round =>
        obtain ⟨k, hk, rfl, rfl, hs⟩ := hrel
        by_cases hp : k < l.length
        · obtain ⟨g1, o1, rfl, c1⟩ := H1.out (by omega)
          have c11 := c1 k hp
          have hs' := hs.out
          rw [List.drop_eq_getElem_cons hp, okN] at hs'
          clear c1 H1 hs
          generalize l[k] = x at c11 hs'
          by_cases h0 : 0 ≤ x
          · have f0 : decide (x < 0) = false := by simpa using h0
            have f0' : decide (0 ≤ x) = true := by simpa using h0
            by_cases h9 : x ≤ 1023
            · have f9 : decide (1023 < x) = false := by simpa using h9
              have f9' : decide (x ≤ 1023) = true := by simpa using h9
              rw [f0', f9', Bool.true_and, Bool.true_and] at hs'
              have HS := Lib.hid hs'
              clear hs' f0' f9' h0 h9
              go_wp2
              go_roundw
              case rel => exact ⟨k + 1, hp, by go_num, by trivial, HS⟩
              case measure => simp [intOf]; omega
            · have f9 : decide (1023 < x) = true := by simp; omega
              have f9' : decide (x ≤ 1023) = false := by simpa using h9
              rw [f9', Bool.false_and, Bool.and_false] at hs'
              have HS := Lib.hid hs'
              clear hs' f0' f9' h0 h9
              go_wp2
              go_ret
              exact ⟨by rw [← HS.out]; rfl, Below.refl _ _⟩
          · have f0 : decide (x < 0) = true := by simp; omega
            have f0' : decide (0 ≤ x) = false := by simpa using h0
            rw [f0', Bool.false_and] at hs'
            have HS := Lib.hid hs'
            clear hs' f0' h0
            go_wp2
            go_ret
            exact ⟨by rw [← HS.out]; rfl, Below.refl _ _⟩
        · have hs' := hs.out
          rw [List.drop_eq_nil_of_le (by omega), okN] at hs'
          have HS := Lib.hid hs'
          clear hs' hs
          go_wp2
          go_ret
          exact ⟨by rw [← HS.out]; rfl, Below.refl _ _⟩
    · have e0 : ((l.length : Int) != n) = true := by simpa using hl
      have e1 : decide ((l.length : Int) = n) = false := by simpa using hl
      rw [e1, Bool.false_and, Bool.true_and]
      clear e1
      go_enter Tryd.func38, Tryd.ntmps38
      go_wp2_with (go_at_call 41; refine (HM.out _).mono ?_; rintro e w' ⟨rfl, rfl⟩)
      go_ret
      exact ⟨rfl, Below.refl _ _⟩
end Go.Proofs.YtcnpckdchjjeoaaDoor
