/-
  What joins, meets, sums of vectors come to.
-/
import Derived.Test.YtmdojflpnikhnaaVecAwake
namespace Go.Proofs.Ytmdojflpnikhnaa
open Go.RowKit Go.Lib

theorem allF_two (f : Int → Int → Int) (a b : List Int) (h : b.length = a.length) : allF f [a, b] = List.zipWith f a b := by simp [allF, foldF, h]
theorem allF_three (f : Int → Int → Int) (a b c : List Int) (h : b.length = a.length) (h' : c.length = a.length) : allF f [a, b, c] = List.zipWith f (List.zipWith f a b) c := by simp [allF, foldF, h, h']
theorem allF_four (f : Int → Int → Int) (a b c d : List Int) (h : b.length = a.length) (h' : c.length = a.length) (h'' : d.length = a.length) : allF f [a, b, c, d] = List.zipWith f (List.zipWith f (List.zipWith f a b) c) d := by simp [allF, foldF, h, h', h'']
theorem allF_unlike (f : Int → Int → Int) (a b : List Int) (h : b.length ≠ a.length) : allF f [a, b] = [] := by simp [allF, foldF, h]
theorem mx_same (x : Int) : mx x x = x := by unfold mx; split <;> rfl
theorem mn_same (x : Int) : mn x x = x := by unfold mn; split <;> rfl

theorem join_zero (a : List Int) (n : Nat) (hn : a.length = n) (h : Okay a) : allF mx [a, List.replicate n 0] = a := by
  rw [allF_two _ _ _ (by simp [hn])]
  refine List.ext_getElem (by simp [hn]) fun i h1 h2 => ?_
  rw [List.getElem_zipWith, List.getElem_replicate]
  have := h a[i] (List.getElem_mem h2)
  unfold mx
  split <;> omega
theorem meet_zero (a : List Int) (n : Nat) (hn : a.length = n) (h : Okay a) : allF mn [a, List.replicate n 0] = List.replicate n 0 := by
  rw [allF_two _ _ _ (by simp [hn])]
  refine List.ext_getElem (by simp [hn]) fun i h1 h2 => ?_
  have h3 : i < a.length := by simp at h2; omega
  rw [List.getElem_zipWith, List.getElem_replicate]
  have := h a[i] (List.getElem_mem h3)
  unfold mn
  split <;> omega
theorem join_thrice (a : List Int) : allF mx [a, a, a] = a := by
  rw [allF_three _ _ _ _ rfl rfl]
  refine List.ext_getElem (by simp) fun i h1 h2 => ?_
  rw [List.getElem_zipWith, List.getElem_zipWith, mx_same, mx_same]
theorem leB_zero : ∀ (a : List Int) (n : Nat), a.length = n → Okay a → leB (List.replicate n 0) a = true
  | [], 0, _, _ => rfl
  | [], n + 1, h, _ => by simp at h
  | x :: t, 0, h, _ => by simp at h
  | x :: t, n + 1, h, ho => by
    rw [List.replicate_succ, leB, leB_zero t n (by simpa using h) (fun y hy => ho y (List.mem_cons_of_mem _ hy)), Bool.and_true]
    have := ho x (List.mem_cons_self ..)
    simpa using this.1
theorem sumL_zero : ∀ n : Nat, sumL 0 (List.replicate n 0) = 0
  | 0 => rfl
  | n + 1 => by
    rw [List.replicate_succ, sumL]
    have : wrap64 (0 + 0) = 0 := by simp [wrap64]
    rw [this]
    exact sumL_zero n
theorem okN_of : ∀ (a : List Int), Okay a → okN a = true
  | [], _ => rfl
  | x :: t, h => by
    have h1 := h x (List.mem_cons_self ..)
    rw [okN, okN_of t (fun y hy => h y (List.mem_cons_of_mem _ hy))]
    simp [h1]
theorem mayB_of (a : List Int) (n : Nat) (hn : a.length = n) (h1 : 1 ≤ n) (h8 : n ≤ 8) (h : Okay a) : mayB a (n : Int) = true := by
  unfold mayB manyB
  rw [okN_of a h, hn]
  simp
  omega
theorem okay_zero (n : Nat) : Okay (List.replicate n 0) := fun x hx => by rw [List.eq_of_mem_replicate hx]; omega
theorem lackL_unlike (a b c : List Int) (h : a.length ≠ b.length) : lackL a b c = [] := by
  unfold lackL
  rw [if_neg (fun e => h e.1)]

end Go.Proofs.Ytmdojflpnikhnaa
