/-
  PLAIN LEAN: what was laid is found; cut, spoilt or shifted it is not.
-/
import Derived.Test.YtkgenjiccidfgaaFrmRefCount
namespace Go.Proofs.Ytkgenjiccidfgaa
open Go.RowKit Go.Lib

theorem okF_iff {k : Int} {b : List Int} (h : okF k b = true) : 1 ≤ k ∧ k ≤ 255 ∧ b.length ≤ 65535 := by simpa [okF] using h
theorem okF_of {k : Int} {b : List Int} (h1 : 1 ≤ k) (h2 : k ≤ 255) (h3 : b.length ≤ 65535) : okF k b = true := by simp [okF]; omega
theorem numB_one {k : Int} (h1 : 0 ≤ k) (h2 : k ≤ 255) : numB k 1 = [k] := by simp [numB]; omega
theorem hdF_ok {k : Int} {b : List Int} (ho : OkB b) : OkB (hdF k b) := (((numB_ok _ _).append (numB_ok _ _)).append (numB_ok _ _)).append ho
theorem layF_ok {k : Int} {b : List Int} (ho : OkB b) : OkB (layF k b) := (hdF_ok ho).append (numB_ok _ _)
def dF (k : Int) (b : List Int) : Int := fnv 14695981039346656037 (hdF k b)
theorem dF_u64 (k : Int) (b : List Int) : U64 (dF k b) := fnv_u64 _ _ begin_u64
theorem un_dF (k : Int) (b : List Int) : unB 0 (numB (dF k b) 8) = dF k b := un_num _ 8 (dF_u64 k b).1 (by have := (dF_u64 k b).2; simpa using this)
theorem hdF_cons {k : Int} {b : List Int} (h : okF k b = true) : hdF k b = 71 :: k :: (numB (b.length : Int) 2 ++ b) := by
  obtain ⟨h1, h2, h3⟩ := okF_iff h
  unfold hdF
  rw [numB_one (show (0 : Int) ≤ 71 by decide) (by decide), numB_one (by omega) h2]
  rfl
/-- What a frame in front tells. -/
theorem front {k : Int} {b t : List Int} (h : okF k b = true) : unB 0 ((layF k b ++ t).take 1) = 71 ∧ kd (layF k b ++ t) = k ∧ sz (layF k b ++ t) = b.length := by
  obtain ⟨h1, h2, h3⟩ := okF_iff h
  have e : layF k b ++ t = 71 :: k :: (numB (b.length : Int) 2 ++ (b ++ numB (dF k b) 8 ++ t)) := by
    unfold layF
    rw [hdF_cons h]
    simp [dF, hdF_cons h]
  rw [e]
  refine ⟨by simp [unB], by simp [kd, unB], ?_⟩
  have e2 : ((71 :: k :: (numB (b.length : Int) 2 ++ (b ++ numB (dF k b) 8 ++ t))).drop 2).take 2 = numB (b.length : Int) 2 := by
    show (numB (b.length : Int) 2 ++ _).take 2 = _
    rw [List.take_append_of_le_length (by rw [numB_len]; exact Nat.le_refl _), List.take_of_length_le (by rw [numB_len]; exact Nat.le_refl _)]
  unfold sz
  rw [e2, un_num _ 2 (by omega) (by omega)]
  omega
theorem lay_take {k : Int} {b t : List Int} : (layF k b ++ t).take (4 + b.length) = hdF k b := by
  unfold layF
  rw [List.append_assoc, List.take_append_of_le_length (by rw [hdF_len]; omega), List.take_of_length_le (by rw [hdF_len]; omega)]
theorem lay_drop {k : Int} {b t : List Int} : (layF k b ++ t).drop (4 + b.length) = numB (dF k b) 8 ++ t := by
  unfold layF
  rw [List.append_assoc, show 4 + b.length = (hdF k b).length by rw [hdF_len]; omega, List.drop_left]
  rfl
theorem lay_seal {k : Int} {b t : List Int} : ((layF k b ++ t).drop (4 + b.length)).take 8 = numB (dF k b) 8 := by
  rw [lay_drop, List.take_append_of_le_length (by rw [numB_len]; exact Nat.le_refl _), List.take_of_length_le (by rw [numB_len]; exact Nat.le_refl _)]
theorem lay_found {k : Int} {b t : List Int} (h : okF k b = true) : fsT (layF k b ++ t) = some (k, b.length) := by
  obtain ⟨f1, f2, f3⟩ := front (t := t) h
  rw [fsT_long (by rw [List.length_append, layF_len]; omega), f1, f2, f3, lay_seal, lay_take, un_dF, if_pos]
  exact ⟨rfl, (okF_iff h).1, by rw [List.length_append, layF_len]; omega, rfl⟩
theorem lay_body {k : Int} {b t : List Int} : ((layF k b ++ t).drop 4).take b.length = b := by
  have e : (layF k b ++ t).drop 4 = b ++ (numB (dF k b) 8 ++ t) := by
    unfold dF
    unfold layF
    generalize numB (fnv 14695981039346656037 (hdF k b)) 8 = S
    unfold hdF
    obtain ⟨H, hH⟩ : ∃ H, (numB 71 1 ++ numB k 1) ++ numB (b.length : Int) 2 = H := ⟨_, rfl⟩
    have hl : H.length = 4 := by rw [← hH]; simp [numB_len]
    rw [hH, List.append_assoc, List.append_assoc, ← hl, List.drop_left]
  rw [e, List.take_append_of_le_length (Nat.le_refl _), List.take_of_length_le (Nat.le_refl _)]
theorem lay_next {k : Int} {b a t : List Int} (h : okF k b = true) : nxT (a ++ (layF k b ++ t)) (a.length : Int) = some (k, b.length) ∧ nxL (a ++ (layF k b ++ t)) (a.length : Int) (some (k, b.length)) = b := by
  have e : (a ++ (layF k b ++ t)).drop (a.length : Int).toNat = layF k b ++ t := by rw [Int.toNat_natCast, List.drop_left]
  unfold nxT nxL
  rw [if_pos (by rw [List.length_append]; omega), e]
  exact ⟨lay_found h, lay_body⟩
theorem lay_cut {k : Int} {b : List Int} (h : okF k b = true) {c : Nat} (hc : c < (layF k b).length) : fsT ((layF k b).take c) = none := by
  by_cases h4 : c < 4
  · exact fsT_short (by rw [List.length_take]; omega)
  · have hs : sz ((layF k b).take c) = b.length := by
      have := (front (t := []) h).2.2
      rw [List.append_nil] at this
      rw [← this]
      unfold sz
      rw [List.drop_take, List.take_take, Nat.min_eq_left (by omega)]
    rw [fsT_long (by rw [List.length_take]; omega), if_neg]
    rw [hs, List.length_take]
    rw [layF_len] at hc
    omega
theorem lay_spoilt {k : Int} {b : List Int} (h : okF k b = true) (ho : OkB b) {n : Nat} {y : Int} (hn : n < (layF k b).length) (h2 : n ≠ 2) (h3 : n ≠ 3) (hy : 0 ≤ y ∧ y < 256) (hne : y ≠ (layF k b)[n]) : fsT ((layF k b).set n y) = none := by
  have hlen : ((layF k b).set n y).length = b.length + 12 := by rw [List.length_set, layF_len]
  have hs : sz ((layF k b).set n y) = b.length := by
    have := (front (t := []) h).2.2
    rw [List.append_nil] at this
    rw [← this]
    unfold sz
    rw [List.drop_set]
    split
    · rfl
    · rw [List.take_set, List.set_eq_of_length_le (by rw [List.length_take]; omega)]
  have hT : (layF k b).take (4 + b.length) = hdF k b := by have := lay_take (k := k) (b := b) (t := []); rwa [List.append_nil] at this
  have hD : (layF k b).drop (4 + b.length) = numB (dF k b) 8 := by have := lay_drop (k := k) (b := b) (t := []); rwa [List.append_nil, List.append_nil] at this
  rw [fsT_long (by rw [hlen]; omega), hs, if_neg]
  rintro ⟨_, _, _, e⟩
  rw [List.take_set, hT, List.drop_set, hD] at e
  have e0 : hdF k b ++ numB (dF k b) 8 = layF k b := rfl
  by_cases hlt : n < 4 + b.length
  · rw [if_pos hlt, List.take_of_length_le (by rw [numB_len]; exact Nat.le_refl _), un_dF] at e
    have hnh : n < (hdF k b).length := by rw [hdF_len]; omega
    refine fnv_unlike (hdF k b) n hnh y (hdF_ok ho) hy ?_ e.symm
    intro hh
    apply hne
    rw [hh]
    simp only [← e0]
    rw [List.getElem_append_left hnh]
  · rw [if_neg hlt, List.set_eq_of_length_le (l := hdF k b) (by rw [hdF_len]; omega), List.take_of_length_le (by rw [List.length_set, numB_len]; exact Nat.le_refl _)] at e
    rw [layF_len] at hn
    have hj : n - (4 + b.length) < (numB (dF k b) 8).length := by rw [numB_len]; omega
    have hok : OkB ((numB (dF k b) 8).set (n - (4 + b.length)) y) := fun x hx => by
      rcases List.mem_or_eq_of_mem_set hx with hx | rfl
      · exact numB_ok _ _ x hx
      · exact hy
    have e1 := unB_inj _ (numB (dF k b) 8) (by rw [List.length_set]) hok (numB_ok _ _) (by rw [e, un_dF]; rfl)
    have e2 : ((numB (dF k b) 8).set (n - (4 + b.length)) y)[n - (4 + b.length)]'(by rw [List.length_set]; exact hj) = (numB (dF k b) 8)[n - (4 + b.length)] := by simp only [e1]
    rw [List.getElem_set_self] at e2
    apply hne
    rw [e2]
    simp only [← e0]
    rw [List.getElem_append_right (by rw [hdF_len]; omega)]
    simp only [hdF_len]
    congr 1
    omega
theorem lay_inj {k k' : Int} {b b' : List Int} (h : okF k b = true) (h' : okF k' b' = true) : sameB (layF k b) (layF k' b') = ((k == k') && sameB b b') := by
  cases e : sameB (layF k b) (layF k' b')
  · cases e2 : (k == k') && sameB b b'
    · rfl
    · simp only [Bool.and_eq_true, beq_iff_eq, sameB_iff] at e2
      obtain ⟨rfl, rfl⟩ := e2
      rw [sameB_self] at e
      cases e
  · rw [sameB_iff] at e
    have f1 := lay_found (t := []) h
    have f2 := lay_found (t := []) h'
    have g1 := lay_body (k := k) (b := b) (t := [])
    have g2 := lay_body (k := k') (b := b') (t := [])
    rw [e, f2] at f1
    simp only [Option.some.injEq, Prod.mk.injEq] at f1
    obtain ⟨rfl, hl⟩ := f1
    rw [e, ← hl, g2] at g1
    subst g1
    rw [sameB_self]
    simp
theorem begin_moves : stp 14695981039346656037 71 ≠ 14695981039346656037 := by decide +kernel
/-- Without its first byte nothing in front of it is all of it. -/
theorem lay_shift {k : Int} {b t : List Int} (h : okF k b = true) (ho : OkB b) {q : Int} {n : Nat} (hf : fsT ((layF k b ++ t).drop 1) = some (q, n)) : n + 1 ≠ b.length := by
  intro hn
  have hl4 : 4 ≤ ((layF k b ++ t).drop 1).length := by rw [List.length_drop, List.length_append, layF_len]; omega
  rw [fsT_long hl4] at hf
  split at hf
  case isFalse => cases hf
  case isTrue hc =>
    simp only [Option.some.injEq, Prod.mk.injEq] at hf
    obtain ⟨_, hs⟩ := hf
    obtain ⟨_, _, _, e⟩ := hc
    rw [hs, List.drop_drop, show 1 + (4 + n) = 4 + b.length by omega, lay_seal, un_dF] at e
    have e1 : ((layF k b ++ t).drop 1).take (4 + n) = (hdF k b).drop 1 := by
      rw [← lay_take (k := k) (b := b) (t := t), List.drop_take]
      congr 1
      omega
    rw [e1, hdF_cons h] at e
    unfold dF at e
    rw [hdF_cons h] at e
    rw [List.drop_succ_cons, List.drop_zero] at e
    generalize hZ : k :: (numB (b.length : Int) 2 ++ b) = Z at e
    rw [fnv] at e
    have hok : OkB (k :: (numB (b.length : Int) 2 ++ b)) := by
      have := hdF_ok (k := k) ho
      rw [hdF_cons h] at this
      exact fun x hx => this x (List.mem_cons_of_mem _ hx)
    rw [hZ] at hok
    exact begin_moves (fnv_left _ _ _ hok (stp_u64 _ _) begin_u64 e)
theorem lay_count {k : Int} {b t : List Int} (h : okF k b = true) : cnt (layF k b ++ t) = ((cnt t).1 + 1, (cnt t).2 + (b.length + 12)) := by
  rw [cnt_yes (lay_found h)]
  have e : (layF k b ++ t).drop (b.length + 12) = t := by rw [← layF_len k b, List.drop_left]
  rw [e]
/-- Many frames, one behind the other. -/
def rowsF (k : Int) : List (List Int) → List Int
  | [] => []
  | b :: t => layF k b ++ rowsF k t
theorem rowsF_append (k : Int) : ∀ s t : List (List Int), rowsF k (s ++ t) = rowsF k s ++ rowsF k t
  | [], t => rfl
  | b :: s, t => by rw [List.cons_append, rowsF, rowsF, rowsF_append, List.append_assoc]
theorem rows_count {k : Int} : ∀ (bs : List (List Int)) (t : List Int), (∀ b ∈ bs, okF k b = true) → fsT t = none → cnt (rowsF k bs ++ t) = (bs.length, (rowsF k bs).length)
  | [], t, _, h => by rw [rowsF, List.nil_append, cnt_no h]; rfl
  | b :: s, t, hb, h => by
    rw [rowsF, List.append_assoc, lay_count (hb b (List.mem_cons_self ..)), rows_count s t (fun x hx => hb x (List.mem_cons_of_mem _ hx)) h]
    rw [List.length_append, layF_len, List.length_cons]
    exact Prod.ext rfl (by simp only; omega)
end Go.Proofs.Ytkgenjiccidfgaa
