/-
  The lattice of vectors: what the laws ask, of lists.
-/
import Derived.Test.YtmdojflpnikhnaaVecMath
namespace Go.Proofs.Ytmdojflpnikhnaa
open Go.RowKit Go.Lib

theorem mx_ge (x y : Int) : x ≤ mx x y ∧ y ≤ mx x y := by unfold mx; split <;> omega
theorem mn_le (x y : Int) : mn x y ≤ x ∧ mn x y ≤ y := by unfold mn; split <;> omega
theorem leB_mk : ∀ (a b : List Int), a.length = b.length → (∀ i (h1 : i < a.length) (h2 : i < b.length), a[i] ≤ b[i]) → leB a b = true
  | [], [], _, _ => rfl
  | [], _ :: _, h, _ => by simp at h
  | _ :: _, [], h, _ => by simp at h
  | x :: s, y :: t, h, hi => by
    have h0 := hi 0 (by simp) (by simp)
    rw [leB, leB_mk s t (by simpa using h) (fun i h1 h2 => by have := hi (i + 1) (by simpa using h1) (by simpa using h2); simpa using this), Bool.and_true]
    simpa using h0
theorem leB_sum : ∀ (a b : List Int), leB a b = true → a.sum ≤ b.sum
  | [], [], _ => by simp
  | [], _ :: _, h => by simp [leB] at h
  | _ :: _, [], h => by simp [leB] at h
  | x :: s, y :: t, h => by
    rw [leB, Bool.and_eq_true] at h
    have h1 := leB_sum s t h.2
    have h2 := of_decide_eq_true h.1
    simp only [List.sum_cons]
    omega
theorem sumL_eq : ∀ (l : List Int) (s : Int), Okay l → 0 ≤ s → s + 1023 * l.length ≤ 1000000000 → sumL s l = s + l.sum
  | [], s, _, _, _ => by simp [sumL]
  | x :: t, s, ho, h0, h1 => by
    have hx := ho x (List.mem_cons_self ..)
    simp only [List.length_cons] at h1
    have hw : wrap64 (s + x) = s + x := by unfold wrap64; omega
    rw [sumL, hw, sumL_eq t (s + x) (fun y hy => ho y (List.mem_cons_of_mem _ hy)) (by omega) (by omega)]
    simp only [List.sum_cons]
    omega
theorem okay_zip (f : Int → Int → Int) (hf : ∀ x y, f x y = x ∨ f x y = y) (a b : List Int) (ha : Okay a) (hb : Okay b) : Okay (List.zipWith f a b) := by
  intro z hz
  obtain ⟨i, hi, rfl⟩ := List.getElem_of_mem hz
  rw [List.getElem_zipWith]
  have h1 : i < a.length := by simp at hi; omega
  have h2 : i < b.length := by simp at hi; omega
  rcases hf a[i] b[i] with e | e
  · rw [e]; exact ha _ (List.getElem_mem h1)
  · rw [e]; exact hb _ (List.getElem_mem h2)
theorem mx_or (x y : Int) : mx x y = x ∨ mx x y = y := by unfold mx; split <;> simp
theorem mn_or (x y : Int) : mn x y = x ∨ mn x y = y := by unfold mn; split <;> simp

/-- What VectorLattice asks of three vectors. -/
structure Lat (a b c J M Jab Mab : List Int) (n : Nat) : Prop where
  j : allF mx [a, b, c] = J
  m : allF mn [a, b, c] = M
  j4 : allF mx [c, a, b, a] = J
  m4 : allF mn [c, a, b, a] = M
  jab : allF mx [a, b] = Jab
  j2 : allF mx [Jab, c] = J
  mab : allF mn [a, b] = Mab
  ja : allF mx [a, Mab] = a
  ma : allF mn [a, Jab] = a
  la : leB a J = true
  lm : leB M a = true
  lb : leB b J = true
  lc : leB M c = true
  may : mayB J (n : Int) = true
  same : sameB Jab b = leB a b
  sum : sumL 0 a ≤ sumL 0 J
  ln : J.length = n ∧ M.length = n ∧ Jab.length = n ∧ Mab.length = n

theorem same_le : ∀ (a b : List Int), a.length = b.length → sameB (List.zipWith mx a b) b = leB a b
  | [], [], _ => rfl
  | [], _ :: _, h => by simp at h
  | _ :: _, [], h => by simp at h
  | x :: s, y :: t, h => by
    rw [List.zipWith_cons_cons, sameB, leB, same_le s t (by simpa using h)]
    congr 1
    unfold mx
    by_cases hxy : x ≤ y
    · rw [decide_eq_true hxy]
      split
      · simp
      · have : x = y := by omega
        simp [this]
    · rw [decide_eq_false hxy, if_neg (by omega)]
      simp; omega

theorem lat (a b c : List Int) (n : Nat) (ha : a.length = n) (hb : b.length = n) (hc : c.length = n) (h1 : 1 ≤ n) (h8 : n ≤ 8) (oa : Okay a) (ob : Okay b) (oc : Okay c) : ∃ J M Jab Mab, Lat a b c J M Jab Mab n := by
  have ej := allF_three mx a b c (by omega) (by omega)
  have em := allF_three mn a b c (by omega) (by omega)
  refine ⟨List.zipWith mx (List.zipWith mx a b) c, List.zipWith mn (List.zipWith mn a b) c, List.zipWith mx a b, List.zipWith mn a b, ?_⟩
  have lJ : leB a (List.zipWith mx (List.zipWith mx a b) c) = true := by
    refine leB_mk _ _ (by simp; omega) fun i p1 p2 => ?_
    rw [List.getElem_zipWith, List.getElem_zipWith]
    exact Int.le_trans (mx_ge _ _).1 (mx_ge _ _).1
  have oJ : Okay (List.zipWith mx (List.zipWith mx a b) c) := okay_zip mx mx_or _ _ (okay_zip mx mx_or _ _ oa ob) oc
  refine ⟨ej, em, ?_, ?_, allF_two mx a b (by omega), ?_, allF_two mn a b (by omega), ?_, ?_, lJ, ?_, ?_, ?_, ?_, ?_, ?_, ?_⟩
  · rw [allF_four mx c a b a (by omega) (by omega) (by omega)]
    refine List.ext_getElem (by simp; omega) fun i p1 p2 => ?_
    simp only [List.getElem_zipWith]
    unfold mx
    repeat' split
    all_goals omega
  · rw [allF_four mn c a b a (by omega) (by omega) (by omega)]
    refine List.ext_getElem (by simp; omega) fun i p1 p2 => ?_
    simp only [List.getElem_zipWith]
    unfold mn
    repeat' split
    all_goals omega
  · exact allF_two mx _ _ (by simp; omega)
  · rw [allF_two mx _ _ (by simp; omega)]
    refine List.ext_getElem (by simp; omega) fun i p1 p2 => ?_
    simp only [List.getElem_zipWith]
    unfold mx mn
    repeat' split
    all_goals omega
  · rw [allF_two mn _ _ (by simp; omega)]
    refine List.ext_getElem (by simp; omega) fun i p1 p2 => ?_
    simp only [List.getElem_zipWith]
    unfold mx mn
    repeat' split
    all_goals omega
  · refine leB_mk _ _ (by simp; omega) fun i p1 p2 => ?_
    rw [List.getElem_zipWith, List.getElem_zipWith]
    exact Int.le_trans (mn_le _ _).1 (mn_le _ _).1
  · refine leB_mk _ _ (by simp; omega) fun i p1 p2 => ?_
    rw [List.getElem_zipWith, List.getElem_zipWith]
    exact Int.le_trans (mx_ge _ _).2 (mx_ge _ _).1
  · refine leB_mk _ _ (by simp; omega) fun i p1 p2 => ?_
    rw [List.getElem_zipWith]
    exact (mn_le _ _).2
  · exact mayB_of _ n (by simp; omega) h1 h8 oJ
  · exact same_le a b (by omega)
  · rw [sumL_eq a 0 oa (by omega) (by omega), sumL_eq _ 0 oJ (by omega) (by simp; omega)]
    have := leB_sum _ _ lJ
    omega
  · simp
    omega

end Go.Proofs.Ytmdojflpnikhnaa
