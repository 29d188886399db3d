/-
  A vector's bytes: putVector, takeVector, chapter 8's own vector and take, by contract; slices.Equal of numbers.
-/
import Derived.Test.YtcnpckdchjjeoaaDoorMVecMore
import Derived.Test.YtcnpckdchjjeoaaDoorMFrmGet
namespace Go.Proofs.YtcnpckdchjjeoaaDoor
open Go.RowKit Go.Lib
set_option maxRecDepth 100000

theorem Nl.cell {w : World} {ad : Option Addr} {n cap : Nat} {l : List Int} (h : Nl w (.slice ad n cap) l) (k : Nat) (hk : k < l.length) : ∃ g o, ad = some ⟨g, o, none⟩ ∧ w.cell? ⟨g, o + k, none⟩ = some (.int .i64 l[k]) := by
  obtain ⟨ad', cap', e, h2⟩ := h.form
  simp only [Value.slice.injEq] at e
  obtain ⟨rfl, rfl, rfl⟩ := e
  obtain ⟨b, o, e, hs⟩ := h2 (by omega)
  exact ⟨b, o, e, hs k hk⟩

/-- The bytes of numbers, two each; of a vector. -/
def vnum : List Int → List Int
  | [] => []
  | x :: t => numB x 2 ++ vnum t
def vecB (l : List Int) : List Int := numB (l.length : Int) 1 ++ vnum l
theorem vnum_len : ∀ l, (vnum l).length = 2 * l.length
  | [] => rfl
  | x :: t => by simp [vnum, numB_len, vnum_len t]; omega
theorem vecB_len (l : List Int) : (vecB l).length = 1 + 2 * l.length := by simp [vecB, numB_len, vnum_len]

set_option maxHeartbeats 4000000 in
theorem putvec_c (acc l : List Int) (v : Value) (ad : Option Addr) (cap : Nat) (w : World) (B : Nat) (h : BRow w B v acc) (hu : ∀ w', Below B w w' → Nl w' (.slice ad l.length cap) l) (hn : l.length ≤ 1000) (ha : acc.length ≤ 10000) (hB : B ≤ w.heap.size) :
    Calls Tryd.prog 54 #[v, .slice ad l.length cap] w (rowB B (acc ++ vecB l) w) := by
  have HU := Lib.hid hu
  have HC := Lib.hid (put_c acc v (l.length : Int) 1 w B h (by decide) (by omega) hB)
  clear hu h
  go_enter Tryd.func54, Tryd.ntmps54
  go_wp2_with fail
  refine HC.out.mono ?_
  rintro e w1 ⟨v1, rfl, h1, b1⟩
  have H1 := Lib.hid h1
  have HB1 := Lib.hid b1
  clear h1 b1 HC
  go_wp2
  go_loopw [0, 13] (fun v0 vk wr => ∃ (k : Nat) (m : List Int), k ≤ l.length ∧ vk = .int .i64 (k : Int) ∧ Hid (m.length ≤ 20000 + 2 * k) ∧ Hid (m ++ vnum (l.drop k) = acc ++ vecB l) ∧ Hid (BRow wr B v0 m) ∧ Hid (Below B w wr)) (fun _ vk _ => l.length - (RowKit.intOf vk).toNat)
  case atStart => exact ⟨0, _, by omega, rfl, Lib.hid (by simp [numB_len]; omega), Lib.hid (by simp [vecB]), H1, HB1⟩
  case round =>
    obtain ⟨k, m, hk, rfl, hm, hx, HR, HB⟩ := hrel
    have hsz := HB.out.size
    by_cases hp : k < l.length
    · obtain ⟨g, o, rfl, c0⟩ := (HU.out wr HB.out).cell k hp
      have hx' := hx.out
      rw [List.drop_eq_getElem_cons hp, vnum, ← List.append_assoc] at hx'
      have HX := Lib.hid hx'
      clear hx hx' HU
      generalize l[k] = x at c0 HX
      have HC := Lib.hid (put_c m _ x 2 wr B HR.out (by decide) (by have := hm.out; omega) (by omega))
      go_wp2_with fail
      refine HC.out.mono ?_
      rintro e w2 ⟨v2, rfl, h2, b2⟩
      go_wp2
      go_roundw
      case rel => exact ⟨k + 1, _, hp, by go_num, Lib.hid (by have := hm.out; simp [numB_len]; omega), HX, Lib.hid h2, Lib.hid (HB.out.trans b2)⟩
      case measure => simp [RowKit.intOf]; omega
    · have hx' := hx.out
      rw [List.drop_eq_nil_of_le (by omega), vnum, List.append_nil] at hx'
      have HX := Lib.hid hx'
      clear hx hx'
      go_wp2
      go_ret
      exact ⟨_, rfl, by rw [← HX.out]; exact HR.out, HB.out⟩

set_option maxHeartbeats 4000000 in
theorem refvec_c (acc l : List Int) (v : Value) (ad : Option Addr) (cap : Nat) (w : World) (B : Nat) (h : BRow w B v acc) (hu : ∀ w', Below B w w' → Nl w' (.slice ad l.length cap) l) (hn : l.length ≤ 1000) (ha : acc.length ≤ 10000) (hB : B ≤ w.heap.size) :
    Calls Tryd.prog 31 #[v, .slice ad l.length cap] w (rowB B (acc ++ vecB l) w) := by
  have HU := Lib.hid hu
  have HC := Lib.hid (refnum_c acc v (l.length : Int) 1 w B h (by decide) (by omega) hB)
  clear hu h
  go_enter Tryd.func31, Tryd.ntmps31
  go_wp2_with fail
  refine HC.out.mono ?_
  rintro e w1 ⟨v1, rfl, h1, b1⟩
  have H1 := Lib.hid h1
  have HB1 := Lib.hid b1
  clear h1 b1 HC
  go_wp2
  go_loopw [0, 5] (fun v0 vk wr => ∃ (k : Nat) (m : List Int), k ≤ l.length ∧ vk = .int .i64 (k : Int) ∧ Hid (m.length ≤ 20000 + 2 * k) ∧ Hid (m ++ vnum (l.drop k) = acc ++ vecB l) ∧ Hid (BRow wr B v0 m) ∧ Hid (Below B w wr)) (fun _ vk _ => l.length - (RowKit.intOf vk).toNat)
  case atStart => exact ⟨0, _, by omega, rfl, Lib.hid (by simp [numB_len]; omega), Lib.hid (by simp [vecB]), H1, HB1⟩
  case round =>
    obtain ⟨k, m, hk, rfl, hm, hx, HR, HB⟩ := hrel
    have hsz := HB.out.size
    by_cases hp : k < l.length
    · obtain ⟨g, o, rfl, c0⟩ := (HU.out wr HB.out).cell k hp
      have hx' := hx.out
      rw [List.drop_eq_getElem_cons hp, vnum, ← List.append_assoc] at hx'
      have HX := Lib.hid hx'
      clear hx hx' HU
      generalize l[k] = x at c0 HX
      have HC := Lib.hid (refnum_c m _ x 2 wr B HR.out (by decide) (by have := hm.out; omega) (by omega))
      go_wp2_with fail
      refine HC.out.mono ?_
      rintro e w2 ⟨v2, rfl, h2, b2⟩
      go_wp2
      go_roundw
      case rel => exact ⟨k + 1, _, hp, by go_num, Lib.hid (by have := hm.out; simp [numB_len]; omega), HX, Lib.hid h2, Lib.hid (HB.out.trans b2)⟩
      case measure => simp [RowKit.intOf]; omega
    · have hx' := hx.out
      rw [List.drop_eq_nil_of_le (by omega), vnum, List.append_nil] at hx'
      have HX := Lib.hid hx'
      clear hx hx'
      go_wp2
      go_ret
      exact ⟨_, rfl, by rw [← HX.out]; exact HR.out, HB.out⟩

set_option maxHeartbeats 4000000 in
theorem equal_c (l m : List Int) (v1 v2 : Value) (w : World) (h1 : Nl w v1 l) (h2 : Nl w v2 m) (hn : l.length ≤ 1000000) :
    Calls Tryd.prog 43 #[v1, v2] w fun e w' => e = .returned (.bool (sameB l m)) ∧ Below w.heap.size w w' := by
  obtain ⟨ad1, cap1, rfl, k1⟩ := h1.form
  obtain ⟨ad2, cap2, rfl, k2⟩ := h2.form
  have H1 := Lib.hid k1
  have H2 := Lib.hid k2
  clear h1 h2 k1 k2
  by_cases hl : l.length = m.length
  · have e0 : ((l.length : Int) != (m.length : Int)) = false := by simp [hl]
    have HL := Lib.hid hl
    clear hl
    go_enter Tryd.func43, Tryd.ntmps43
    go_wp2
    go_loopw [13] (fun v5 wr => ∃ k q : Nat, k ≤ l.length ∧ v5 = .int .i64 (k : Int) ∧ wr = w.drewN q ∧ Hid (sameB (l.drop k) (m.drop k) = sameB l m)) (fun v5 _ => l.length - (RowKit.intOf v5).toNat)
    case atStart => exact ⟨0, 0, by omega, rfl, rfl, Lib.hid rfl⟩
    case round =>
      obtain ⟨k, q, hk, rfl, rfl, hs⟩ := hrel
      by_cases hp : k < l.length
      · obtain ⟨g1, o1, rfl, c1⟩ := H1.out (by omega)
        have hpm : k < m.length := by have := HL.out; omega
        obtain ⟨g2, o2, rfl, c2⟩ := H2.out (by omega)
        have c11 := c1 k hp
        have c21 := c2 k hpm
        have hs' := hs.out
        rw [List.drop_eq_getElem_cons hp, List.drop_eq_getElem_cons hpm, sameB] at hs'
        clear c1 c2 H1 H2 hs
        generalize l[k] = x at c11 hs'
        generalize m[k] = y at c21 hs'
        by_cases hxy : x = y
        · have f1 : (x != y) = false := by simpa using hxy
          have f2 : (x == y) = true := by simpa using hxy
          rw [f2, Bool.true_and] at hs'
          have HS := Lib.hid hs'
          clear hs' hxy f2
          go_wp2
          go_quiet (fail)
          go_wp2
          go_roundw
          case rel => exact ⟨k + 1, q + nq, hp, by go_num, rfl, HS⟩
          case measure => simp [RowKit.intOf]; omega
        · have f1 : (x != y) = true := by simpa using hxy
          have f2 : (x == y) = false := by simpa using hxy
          rw [f2, Bool.false_and] at hs'
          have HS := Lib.hid hs'
          clear hs' hxy f2
          go_wp2
          go_quiet (fail)
          go_wp2
          go_ret
          exact ⟨by rw [← HS.out]; rfl, below_drewN (below_drewN (Below.refl _ _) q) nq⟩
      · have hs' := hs.out
        rw [List.drop_eq_nil_of_le (by omega), List.drop_eq_nil_of_le (by have := HL.out; omega), sameB] at hs'
        have HS := Lib.hid hs'
        clear hs' hs
        go_wp2
        go_ret
        exact ⟨by rw [← HS.out]; rfl, below_drewN (Below.refl _ _) q⟩
  · have e0 : ((l.length : Int) != (m.length : Int)) = true := by simp; omega
    rw [sameB_len l m hl]
    go_enter Tryd.func43, Tryd.ntmps43
    go_wp2
    go_ret
    exact ⟨rfl, Below.refl _ _⟩
end Go.Proofs.YtcnpckdchjjeoaaDoor
