/-
  What one lacks, of lists: origins in order, each span just what is behind.
-/
import Derived.Test.YtmdojflpnikhnaaVecLat
namespace Go.Proofs.Ytmdojflpnikhnaa
open Go.RowKit Go.Lib

theorem okay_tail {x : Int} {t : List Int} (h : Okay (x :: t)) : Okay t := fun y hy => h y (List.mem_cons_of_mem _ hy)
theorem mx_ok {x y : Int} (hx : 0 ≤ x ∧ x ≤ 1023) (hy : 0 ≤ y ∧ y ≤ 1023) : 0 ≤ mx x y ∧ mx x y ≤ 1023 := by unfold mx; split <;> omega
theorem w64 {x : Int} (h0 : -1000000000 ≤ x) (h1 : x ≤ 1000000000) : wrap64 x = x := by unfold wrap64; omega

/-- One span of what a lacks of b and c, its origins counted from i on. -/
def SpOf (i : Nat) (a b c : List Int) (s : (Int × Int × Int)) : Prop :=
  ∃ (p : Nat) (m y f : Int), s = (((i + p : Nat) : Int), mx y f + 1, m - mx y f) ∧ a[p]? = some m ∧ b[p]? = some y ∧ c[p]? = some f ∧ mx y f < m
theorem SpOf.up {i : Nat} {a b c : List Int} {s : (Int × Int × Int)} (x y z : Int) (h : SpOf (i + 1) a b c s) : SpOf i (x :: a) (y :: b) (z :: c) s := by
  obtain ⟨p, m, y', f, rfl, h1, h2, h3, h4⟩ := h
  refine ⟨p + 1, m, y', f, ?_, by simpa using h1, by simpa using h2, by simpa using h3, h4⟩
  rw [show i + 1 + p = i + (p + 1) from by omega]
theorem lackF_cons (i : Nat) (m y f : Int) (a b c : List Int) (hm : 0 ≤ m ∧ m ≤ 1023) (hy : 0 ≤ y ∧ y ≤ 1023) (hf : 0 ≤ f ∧ f ≤ 1023) :
    lackF i (m :: a) (y :: b) (f :: c) = if mx y f < m then ((i : Int), mx y f + 1, m - mx y f) :: lackF (i + 1) a b c else lackF (i + 1) a b c := by
  have h := mx_ok hy hf
  rw [lackF, w64 (x := mx y f + 1) (by omega) (by omega), w64 (x := m - mx y f) (by omega) (by omega)]
theorem lackF_of : ∀ (a b c : List Int) (i : Nat), Okay a → Okay b → Okay c → ∀ s ∈ lackF i a b c, SpOf i a b c s
  | [], b, c, i, _, _, _, s, h => by rw [lackF_end] at h; cases h
  | m :: a, [], c, i, _, _, _, s, h => by unfold lackF at h; cases h
  | m :: a, y :: b, [], i, _, _, _, s, h => by unfold lackF at h; cases h
  | m :: a, y :: b, f :: c, i, oa, ob, oc, s, h => by
    rw [lackF_cons i m y f a b c (oa m (List.mem_cons_self ..)) (ob y (List.mem_cons_self ..)) (oc f (List.mem_cons_self ..))] at h
    split at h
    · rename_i hlt
      rcases List.mem_cons.1 h with rfl | h
      · exact ⟨0, m, y, f, by simp, rfl, rfl, rfl, hlt⟩
      · exact (lackF_of a b c (i + 1) (okay_tail oa) (okay_tail ob) (okay_tail oc) s h).up m y f
    · exact (lackF_of a b c (i + 1) (okay_tail oa) (okay_tail ob) (okay_tail oc) s h).up m y f
theorem lackF_ge (a b c : List Int) (i : Nat) (oa : Okay a) (ob : Okay b) (oc : Okay c) (s : (Int × Int × Int)) (h : s ∈ lackF i a b c) : (i : Int) ≤ s.1 := by
  obtain ⟨p, m, y, f, rfl, _⟩ := lackF_of a b c i oa ob oc s h
  show (i : Int) ≤ ((i + p : Nat) : Int)
  omega
theorem lackF_sorted : ∀ (a b c : List Int) (i : Nat), Okay a → Okay b → Okay c → (lackF i a b c).Pairwise (fun s t => s.1 < t.1)
  | [], b, c, i, _, _, _ => by rw [lackF_end]; exact List.Pairwise.nil
  | m :: a, [], c, i, _, _, _ => by unfold lackF; exact List.Pairwise.nil
  | m :: a, y :: b, [], i, _, _, _ => by unfold lackF; exact List.Pairwise.nil
  | m :: a, y :: b, f :: c, i, oa, ob, oc => by
    rw [lackF_cons i m y f a b c (oa m (List.mem_cons_self ..)) (ob y (List.mem_cons_self ..)) (oc f (List.mem_cons_self ..))]
    split
    · refine List.Pairwise.cons (fun t ht => ?_) (lackF_sorted a b c (i + 1) (okay_tail oa) (okay_tail ob) (okay_tail oc))
      have := lackF_ge a b c (i + 1) (okay_tail oa) (okay_tail ob) (okay_tail oc) t ht
      show (i : Int) < t.1
      omega
    · exact lackF_sorted a b c (i + 1) (okay_tail oa) (okay_tail ob) (okay_tail oc)
theorem lackF_len : ∀ (a b c : List Int) (i : Nat), (lackF i a b c).length ≤ a.length
  | [], b, c, i => by rw [lackF_end]; simp
  | m :: a, [], c, i => by unfold lackF; simp
  | m :: a, y :: b, [], i => by unfold lackF; simp
  | m :: a, y :: b, f :: c, i => by
    have := lackF_len a b c (i + 1)
    rw [lackF]
    split <;> simp only [List.length_cons] <;> omega

def manyS (l : List (Int × Int × Int)) : Int := (l.map (fun s => s.2.2)).sum
theorem manyS_snoc (l : List (Int × Int × Int)) (s : (Int × Int × Int)) : manyS (l ++ [s]) = manyS l + s.2.2 := by simp [manyS]
theorem manyS_lack : ∀ (a b c : List Int) (i : Nat), a.length = b.length → a.length = c.length → Okay a → Okay b → Okay c → manyS (lackF i a b c) = (List.zipWith mx (List.zipWith mx a b) c).sum - (List.zipWith mx b c).sum
  | [], b, c, i, hb, hc, _, _, _ => by
    have : b = [] := List.eq_nil_of_length_eq_zero (by simpa using hb.symm)
    subst this
    rw [lackF_end]; rfl
  | m :: a, [], c, i, hb, _, _, _, _ => by simp at hb
  | m :: a, y :: b, [], i, _, hc, _, _, _ => by simp at hc
  | m :: a, y :: b, f :: c, i, hb, hc, oa, ob, oc => by
    have ih := manyS_lack a b c (i + 1) (by simpa using hb) (by simpa using hc) (okay_tail oa) (okay_tail ob) (okay_tail oc)
    rw [lackF_cons i m y f a b c (oa m (List.mem_cons_self ..)) (ob y (List.mem_cons_self ..)) (oc f (List.mem_cons_self ..))]
    simp only [List.zipWith_cons_cons, List.sum_cons]
    split
    · rename_i hlt
      have e : mx (mx m y) f = m := by unfold mx at hlt ⊢; repeat' split; all_goals (repeat' split at hlt) <;> omega
      have e2 : manyS (((i : Int), mx y f + 1, m - mx y f) :: lackF (i + 1) a b c) = (m - mx y f) + manyS (lackF (i + 1) a b c) := by simp [manyS]
      rw [e, e2, ih]
      omega
    · rename_i hlt
      have e : mx (mx m y) f = mx y f := by unfold mx at hlt ⊢; repeat' split; all_goals (repeat' split at hlt) <;> omega
      rw [e, ih]
      omega
theorem lackF_none : ∀ (a b c : List Int) (i : Nat), leB a b = true → lackF i a b c = []
  | [], b, c, i, _ => lackF_end ..
  | m :: a, [], c, i, h => by simp [leB] at h
  | m :: a, y :: b, [], i, _ => by unfold lackF; rfl
  | m :: a, y :: b, f :: c, i, h => by
    rw [leB, Bool.and_eq_true] at h
    have h1 := of_decide_eq_true h.1
    rw [lackF, if_neg (by have := (mx_ge y f).1; omega)]
    exact lackF_none a b c (i + 1) h.2

/-- What VectorLacks asks of three vectors. -/
structure Lck (a b c J K : List Int) (S : List (Int × Int × Int)) (n : Nat) : Prop where
  s : lackL a b c = S
  j : allF mx [a, b, c] = J
  k : allF mx [b, c] = K
  no : lackL a J c = []
  ln : J.length = n ∧ K.length = n ∧ S.length ≤ n
  sj : sumL 0 J = J.sum ∧ 0 ≤ J.sum ∧ J.sum ≤ 8184
  sk : sumL 0 K = K.sum ∧ 0 ≤ K.sum ∧ K.sum ≤ 8184
  many : manyS S = J.sum - K.sum
  of : ∀ s ∈ S, SpOf 0 a b c s
  sorted : S.Pairwise (fun s t => s.1 < t.1)
theorem sum_bounds : ∀ (l : List Int), Okay l → 0 ≤ l.sum ∧ l.sum ≤ 1023 * l.length
  | [], _ => by simp
  | x :: t, h => by
    have h1 := sum_bounds t (okay_tail h)
    have h2 := h x (List.mem_cons_self ..)
    simp only [List.sum_cons, List.length_cons]
    omega
theorem sums {l : List Int} {n : Nat} (h : Okay l) (hl : l.length = n) (hn : n ≤ 8) : sumL 0 l = l.sum ∧ 0 ≤ l.sum ∧ l.sum ≤ 8184 := by
  have := sum_bounds l h
  refine ⟨by rw [sumL_eq l 0 h (by omega) (by omega)]; omega, this.1, by omega⟩
theorem lck (a b c : List Int) (n : Nat) (ha : a.length = n) (hb : b.length = n) (hc : c.length = n) (h8 : n ≤ 8) (oa : Okay a) (ob : Okay b) (oc : Okay c) : ∃ J K S, Lck a b c J K S n := by
  have ej := allF_three mx a b c (by omega) (by omega)
  have ek := allF_two mx b c (by omega)
  have oJ : Okay (List.zipWith mx (List.zipWith mx a b) c) := okay_zip mx mx_or _ _ (okay_zip mx mx_or _ _ oa ob) oc
  have oK : Okay (List.zipWith mx b c) := okay_zip mx mx_or _ _ ob oc
  have es : lackL a b c = lackF 0 a b c := by unfold lackL; rw [if_pos (by omega)]
  refine ⟨_, _, _, ⟨rfl, rfl, rfl, ?_, ?_, ?_, ?_, ?_, ?_, ?_⟩⟩
  · rw [ej]
    unfold lackL
    split
    · refine lackF_none _ _ _ _ (leB_mk _ _ (by simp; omega) fun i p1 p2 => ?_)
      rw [List.getElem_zipWith, List.getElem_zipWith]
      exact Int.le_trans (mx_ge _ _).1 (mx_ge _ _).1
    · rfl
  · rw [ej, ek, es]
    have := lackF_len a b c 0
    simp
    omega
  · rw [ej]; exact sums oJ (by simp; omega) h8
  · rw [ek]; exact sums oK (by simp; omega) h8
  · rw [ej, ek, es]; exact manyS_lack a b c 0 (by omega) (by omega) oa ob oc
  · rw [es]; exact lackF_of a b c 0 oa ob oc
  · rw [es]; exact lackF_sorted a b c 0 oa ob oc

end Go.Proofs.Ytmdojflpnikhnaa
