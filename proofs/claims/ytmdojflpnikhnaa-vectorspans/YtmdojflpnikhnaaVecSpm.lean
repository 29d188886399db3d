/-
  Who is given what is lacking has the join: of lists.
-/
import Derived.Test.YtmdojflpnikhnaaVecSpn
namespace Go.Proofs.Ytmdojflpnikhnaa
open Go.RowKit Go.Lib

def addS (g : List Int) : List (Int × Int × Int) → List Int
  | [] => g
  | s :: t => addS (g.set s.1.toNat (g.getD s.1.toNat 0 + s.2.2)) t
theorem mx_z {y : Int} (h : 0 ≤ y) : mx y 0 = y := by unfold mx; rw [if_neg (by omega)]
theorem addS_lack : ∀ (a b c pre : List Int), a.length = b.length → a.length = c.length → Okay a → Okay b → (∀ x ∈ c, x = 0) → addS (pre ++ b) (lackF pre.length a b c) = pre ++ List.zipWith mx a b
  | [], b, c, pre, hb, _, _, _, _ => by
    have : b = [] := List.eq_nil_of_length_eq_zero (by simpa using hb.symm)
    subst this
    rw [lackF_end]; rfl
  | m :: a, [], c, pre, hb, _, _, _, _ => by simp at hb
  | m :: a, y :: b, [], pre, _, hc, _, _, _ => by simp at hc
  | m :: a, y :: b, f :: c, pre, hb, hc, oa, ob, zc => by
    have hf := zc f (List.mem_cons_self ..)
    subst hf
    have hm := oa m (List.mem_cons_self ..)
    have hy := ob y (List.mem_cons_self ..)
    rw [lackF_cons pre.length m y 0 a b c hm hy (by omega), mx_z hy.1]
    have ih := fun z => addS_lack a b c (pre ++ [z]) (by simpa using hb) (by simpa using hc) (okay_tail oa) (okay_tail ob) (fun x hx => zc x (List.mem_cons_of_mem _ hx))
    simp only [List.length_append, List.length_singleton, List.append_assoc, List.singleton_append] at ih
    split
    · rename_i hlt
      rw [addS]
      simp only [Int.toNat_natCast]
      rw [List.set_append_right _ _ (Nat.le_refl _), Nat.sub_self, List.set_cons_zero, List.getD_eq_getElem?_getD, List.getElem?_append_right (Nat.le_refl _), Nat.sub_self]
      simp only [List.getElem?_cons_zero, Option.getD_some]
      rw [show y + (m - y) = m from by omega, ih m, List.zipWith_cons_cons]
      have : mx m y = m := by unfold mx; rw [if_neg (by omega)]
      rw [this]
    · rename_i hlt
      rw [ih y, List.zipWith_cons_cons]
      have : mx m y = y := by unfold mx; split <;> omega
      rw [this]
theorem lackF_nil : ∀ (a b c : List Int) (i : Nat), a.length = b.length → a.length = c.length → Okay a → Okay b → (∀ x ∈ c, x = 0) → lackF i a b c = [] → leB a b = true
  | [], b, c, i, hb, _, _, _, _, _ => by
    have : b = [] := List.eq_nil_of_length_eq_zero (by simpa using hb.symm)
    subst this
    rfl
  | m :: a, [], c, i, hb, _, _, _, _, _ => by simp at hb
  | m :: a, y :: b, [], i, _, hc, _, _, _, _ => by simp at hc
  | m :: a, y :: b, f :: c, i, hb, hc, oa, ob, zc, h => by
    have hf := zc f (List.mem_cons_self ..)
    subst hf
    have hm := oa m (List.mem_cons_self ..)
    have hy := ob y (List.mem_cons_self ..)
    rw [lackF_cons i m y 0 a b c hm hy (by omega), mx_z hy.1] at h
    split at h
    · cases h
    · rw [leB, lackF_nil a b c (i + 1) (by simpa using hb) (by simpa using hc) (okay_tail oa) (okay_tail ob) (fun x hx => zc x (List.mem_cons_of_mem _ hx)) h, Bool.and_true]
      simp; omega

/-- What VectorSpans asks of two vectors. -/
structure Spn (a b J : List Int) (P Q : List (Int × Int × Int)) (n : Nat) : Prop where
  p : lackL a b (List.replicate n 0) = P
  q : lackL b a (List.replicate n 0) = Q
  j : allF mx [a, b] = J
  ln : J.length = n ∧ P.length ≤ n ∧ Q.length ≤ n
  sa : sumL 0 a = a.sum ∧ 0 ≤ a.sum ∧ a.sum ≤ 8184
  sb : sumL 0 b = b.sum ∧ 0 ≤ b.sum ∧ b.sum ≤ 8184
  add : addS b P = J
  many : manyS P - manyS Q = a.sum - b.sum
  none : ((P.length : Int) == 0) = leB a b
  ofp : ∀ s ∈ P, ∃ i : Nat, i < n ∧ s.1 = (i : Int) ∧ 1 ≤ s.2.2 ∧ s.2.2 ≤ 1023
  ofq : ∀ s ∈ Q, ∃ i : Nat, i < n ∧ s.1 = (i : Int) ∧ 1 ≤ s.2.2 ∧ s.2.2 ≤ 1023
  apart : ∀ s ∈ P, ∀ t ∈ Q, s.1 ≠ t.1
theorem sp_of {a b : List Int} {n : Nat} (ha : a.length = n) (oa : Okay a) (ob : Okay b) (s : (Int × Int × Int)) (h : SpOf 0 a b (List.replicate n 0) s) : ∃ i : Nat, i < n ∧ s.1 = (i : Int) ∧ 1 ≤ s.2.2 ∧ s.2.2 ≤ 1023 := by
  obtain ⟨p, m, y, f, rfl, h1, h2, h3, h4⟩ := h
  obtain ⟨hp, rfl⟩ := List.getElem?_eq_some_iff.1 h1
  obtain ⟨hp2, rfl⟩ := List.getElem?_eq_some_iff.1 h2
  obtain ⟨hp3, rfl⟩ := List.getElem?_eq_some_iff.1 h3
  have k1 := oa _ (List.getElem_mem hp)
  have k2 := ob _ (List.getElem_mem hp2)
  rw [List.getElem_replicate, mx_z k2.1] at h4 ⊢
  exact ⟨p, by omega, by simp, by simp only; omega, by simp only; omega⟩
theorem spn (a b : List Int) (n : Nat) (ha : a.length = n) (hb : b.length = n) (h8 : n ≤ 8) (oa : Okay a) (ob : Okay b) : ∃ J P Q, Spn a b J P Q n := by
  have ej := allF_two mx a b (by omega)
  have ep : lackL a b (List.replicate n 0) = lackF 0 a b (List.replicate n 0) := by unfold lackL; rw [if_pos (by simp; omega)]
  have eq : lackL b a (List.replicate n 0) = lackF 0 b a (List.replicate n 0) := by unfold lackL; rw [if_pos (by simp; omega)]
  have oz := okay_zero n
  have zz : ∀ x ∈ List.replicate n (0 : Int), x = 0 := fun x hx => List.eq_of_mem_replicate hx
  have lz : (List.replicate n (0 : Int)).length = n := by simp
  refine ⟨_, _, _, ⟨rfl, rfl, rfl, ?_, sums oa ha h8, sums ob hb h8, ?_, ?_, ?_, ?_, ?_, ?_⟩⟩
  · rw [ej, ep, eq]
    have h1 := lackF_len a b (List.replicate n 0) 0
    have h2 := lackF_len b a (List.replicate n 0) 0
    refine ⟨by simp; omega, by omega, by omega⟩
  · rw [ej, ep]
    exact addS_lack a b _ [] (by omega) (by omega) oa ob zz
  · rw [ep, eq, manyS_lack a b _ 0 (by omega) (by omega) oa ob oz, manyS_lack b a _ 0 (by omega) (by omega) ob oa oz]
    have zip : ∀ l : List Int, l.length = n → Okay l → List.zipWith mx l (List.replicate n 0) = l := fun l hl ol => by
      have := join_zero l n hl ol
      rwa [allF_two mx _ _ (by omega)] at this
    have e1 : List.zipWith mx a b = List.zipWith mx b a := by
      refine List.ext_getElem (by simp; omega) fun i p1 p2 => ?_
      simp only [List.getElem_zipWith]
      unfold mx
      repeat' split
      all_goals omega
    rw [e1, zip a ha oa, zip b hb ob]
    omega
  · rw [ep]
    cases hl : leB a b
    · have : lackF 0 a b (List.replicate n 0) ≠ [] := fun e => by
        rw [lackF_nil a b _ 0 (by omega) (by omega) oa ob zz e] at hl
        cases hl
      have : 0 < (lackF 0 a b (List.replicate n 0)).length := List.length_pos_iff.2 this
      simp; omega
    · rw [lackF_none a b _ 0 hl]
      rfl
  · rw [ep]; exact fun s hs => sp_of ha oa ob s (lackF_of _ _ _ _ oa ob oz s hs)
  · rw [eq]; exact fun s hs => sp_of hb ob oa s (lackF_of _ _ _ _ ob oa oz s hs)
  · rw [ep, eq]
    intro s hs t ht e
    obtain ⟨p, m, y, f, rfl, h1, h2, h3, h4⟩ := lackF_of _ _ _ _ oa ob oz s hs
    obtain ⟨p', m', y', f', rfl, k1, k2, k3, k4⟩ := lackF_of _ _ _ _ ob oa oz t ht
    simp only [Nat.zero_add] at e
    have e' : p = p' := by omega
    subst e'
    rw [h1] at k2
    rw [h2] at k1
    cases k1
    cases k2
    have := (mx_ge y f).1
    have := (mx_ge m f').1
    omega

end Go.Proofs.Ytmdojflpnikhnaa
