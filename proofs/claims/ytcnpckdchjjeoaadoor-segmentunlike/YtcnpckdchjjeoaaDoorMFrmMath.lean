/-
  PLAIN LEAN: what was laid is found; cut, spoilt or shifted it is not.
-/
import Derived.Test.YtcnpckdchjjeoaaDoorMFrmRefNext
namespace Go.Proofs.YtcnpckdchjjeoaaDoor
open Go.RowKit Go.Lib
set_option maxRecDepth 100000
theorem okF_iff {k : Int} {b : List Int} (h : okF k b = true) : 1 ≤ k ∧ k ≤ 255 ∧ b.length ≤ 65535 := by simpa [okF] using h
theorem okF_of {k : Int} {b : List Int} (h1 : 1 ≤ k) (h2 : k ≤ 255) (h3 : b.length ≤ 65535) : okF k b = true := by simp [okF]; omega
theorem numB_one {k : Int} (h1 : 0 ≤ k) (h2 : k ≤ 255) : numB k 1 = [k] := by simp [numB]; omega
theorem hdF_ok {k : Int} {b : List Int} (ho : OkB b) : OkB (hdF k b) := (((numB_ok _ _).append (numB_ok _ _)).append (numB_ok _ _)).append ho
theorem layF_ok {k : Int} {b : List Int} (ho : OkB b) : OkB (layF k b) := (hdF_ok ho).append (numB_ok _ _)
def dF (k : Int) (b : List Int) : Int := fnv 14695981039346656037 (hdF k b)
theorem dF_u64 (k : Int) (b : List Int) : U64 (dF k b) := fnv_u64 _ _ begin_u64
theorem un_dF (k : Int) (b : List Int) : unB 0 (numB (dF k b) 8) = dF k b := un_num _ 8 (dF_u64 k b).1 (by have := (dF_u64 k b).2; simpa using this)
theorem hdF_cons {k : Int} {b : List Int} (h : okF k b = true) : hdF k b = 71 :: k :: (numB (b.length : Int) 2 ++ b) := by
  obtain ⟨h1, h2, h3⟩ := okF_iff h
  unfold hdF
  rw [numB_one (show (0 : Int) ≤ 71 by decide) (by decide), numB_one (by omega) h2]
  rfl
/-- What a frame in front tells. -/
theorem front {k : Int} {b t : List Int} (h : okF k b = true) : unB 0 ((layF k b ++ t).take 1) = 71 ∧ kd (layF k b ++ t) = k ∧ sz (layF k b ++ t) = b.length := by
  obtain ⟨h1, h2, h3⟩ := okF_iff h
  have e : layF k b ++ t = 71 :: k :: (numB (b.length : Int) 2 ++ (b ++ numB (dF k b) 8 ++ t)) := by
    unfold layF
    rw [hdF_cons h]
    simp [dF, hdF_cons h]
  rw [e]
  refine ⟨by simp [unB], by simp [kd, unB], ?_⟩
  have e2 : ((71 :: k :: (numB (b.length : Int) 2 ++ (b ++ numB (dF k b) 8 ++ t))).drop 2).take 2 = numB (b.length : Int) 2 := by
    show (numB (b.length : Int) 2 ++ _).take 2 = _
    rw [List.take_append_of_le_length (by rw [numB_len]; exact Nat.le_refl _), List.take_of_length_le (by rw [numB_len]; exact Nat.le_refl _)]
  unfold sz
  rw [e2, un_num _ 2 (by omega) (by omega)]
  omega
theorem lay_take {k : Int} {b t : List Int} : (layF k b ++ t).take (4 + b.length) = hdF k b := by
  unfold layF
  rw [List.append_assoc, List.take_append_of_le_length (by rw [hdF_len]; omega), List.take_of_length_le (by rw [hdF_len]; omega)]
theorem lay_drop {k : Int} {b t : List Int} : (layF k b ++ t).drop (4 + b.length) = numB (dF k b) 8 ++ t := by
  unfold layF
  rw [List.append_assoc, show 4 + b.length = (hdF k b).length by rw [hdF_len]; omega, List.drop_left]
  rfl
theorem lay_seal {k : Int} {b t : List Int} : ((layF k b ++ t).drop (4 + b.length)).take 8 = numB (dF k b) 8 := by
  rw [lay_drop, List.take_append_of_le_length (by rw [numB_len]; exact Nat.le_refl _), List.take_of_length_le (by rw [numB_len]; exact Nat.le_refl _)]
theorem lay_found {k : Int} {b t : List Int} (h : okF k b = true) : fsT (layF k b ++ t) = some (k, b.length) := by
  obtain ⟨f1, f2, f3⟩ := front (t := t) h
  rw [fsT_long (by rw [List.length_append, layF_len]; omega), f1, f2, f3, lay_seal, lay_take, un_dF, if_pos]
  exact ⟨rfl, (okF_iff h).1, by rw [List.length_append, layF_len]; omega, rfl⟩
theorem lay_body {k : Int} {b t : List Int} : ((layF k b ++ t).drop 4).take b.length = b := by
  have e : (layF k b ++ t).drop 4 = b ++ (numB (dF k b) 8 ++ t) := by
    unfold dF
    unfold layF
    generalize numB (fnv 14695981039346656037 (hdF k b)) 8 = S
    unfold hdF
    obtain ⟨H, hH⟩ : ∃ H, (numB 71 1 ++ numB k 1) ++ numB (b.length : Int) 2 = H := ⟨_, rfl⟩
    have hl : H.length = 4 := by rw [← hH]; simp [numB_len]
    rw [hH, List.append_assoc, List.append_assoc, ← hl, List.drop_left]
  rw [e, List.take_append_of_le_length (Nat.le_refl _), List.take_of_length_le (Nat.le_refl _)]
theorem lay_next {k : Int} {b a t : List Int} (h : okF k b = true) : nxT (a ++ (layF k b ++ t)) (a.length : Int) = some (k, b.length) ∧ nxL (a ++ (layF k b ++ t)) (a.length : Int) (some (k, b.length)) = b := by
  have e : (a ++ (layF k b ++ t)).drop (a.length : Int).toNat = layF k b ++ t := by rw [Int.toNat_natCast, List.drop_left]
  unfold nxT nxL
  rw [if_pos (by rw [List.length_append]; omega), e]
  exact ⟨lay_found h, lay_body⟩
theorem lay_cut {k : Int} {b : List Int} (h : okF k b = true) {c : Nat} (hc : c < (layF k b).length) : fsT ((layF k b).take c) = none := by
  by_cases h4 : c < 4
  · exact fsT_short (by rw [List.length_take]; omega)
  · have hs : sz ((layF k b).take c) = b.length := by
      have := (front (t := []) h).2.2
      rw [List.append_nil] at this
      rw [← this]
      unfold sz
      rw [List.drop_take, List.take_take, Nat.min_eq_left (by omega)]
    rw [fsT_long (by rw [List.length_take]; omega), if_neg]
    rw [hs, List.length_take]
    rw [layF_len] at hc
    omega
theorem lay_inj {k k' : Int} {b b' : List Int} (h : okF k b = true) (h' : okF k' b' = true) : sameB (layF k b) (layF k' b') = ((k == k') && sameB b b') := by
  cases e : sameB (layF k b) (layF k' b')
  · cases e2 : (k == k') && sameB b b'
    · rfl
    · simp only [Bool.and_eq_true, beq_iff_eq, sameB_iff] at e2
      obtain ⟨rfl, rfl⟩ := e2
      rw [sameB_self] at e
      cases e
  · rw [sameB_iff] at e
    have f1 := lay_found (t := []) h
    have f2 := lay_found (t := []) h'
    have g1 := lay_body (k := k) (b := b) (t := [])
    have g2 := lay_body (k := k') (b := b') (t := [])
    rw [e, f2] at f1
    simp only [Option.some.injEq, Prod.mk.injEq] at f1
    obtain ⟨rfl, hl⟩ := f1
    rw [e, ← hl, g2] at g1
    subst g1
    rw [sameB_self]
    simp
end Go.Proofs.YtcnpckdchjjeoaaDoor
