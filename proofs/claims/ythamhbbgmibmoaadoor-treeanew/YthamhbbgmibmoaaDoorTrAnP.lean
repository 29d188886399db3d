/-
  TreeAnew: plain facts: the chapter's own records and the tree's Keys with their bytes.
-/
import Derived.Test.YthamhbbgmibmoaaDoorTrGrA
import Derived.Test.YthamhbbgmibmoaaDoorTrRefD
import Derived.Test.YthamhbbgmibmoaaDoorTrOrP
namespace Go.Proofs.YthamhbbgmibmoaaDoor
open Go.RowKit Go.Lib Go.Maps
set_option maxRecDepth 100000
set_option linter.unusedSimpArgs false

/-- Records as Keys with their bytes. -/
def sx (l : List R.Rc) : Sb := l.map fun r => (kyR r, R.layL r)
theorem sx_keys (l : List R.Rc) : (sx l).map Prod.fst = l.map kyR := by simp [sx]
theorem sx_len (l : List R.Rc) : (sx l).length = l.length := by simp [sx]
theorem sx_put (L : List R.Rc) (r : R.Rc) : putS (sx L) r = sx (refPut L r) := by
  unfold putS refPut
  rw [sx_keys]
  split
  · simp [sx]
  · rfl
theorem put_nd {L : List R.Rc} (r : R.Rc) (h : (L.map kyR).Nodup) : ((refPut L r).map kyR).Nodup := by
  unfold refPut
  split
  · rename_i hc
    rw [List.map_append, List.nodup_append]
    refine ⟨h, by simp, fun a ha b hb e => ?_⟩
    simp only [List.map_cons, List.map_nil, List.mem_singleton] at hb
    subst hb
    exact hc.2 (e ▸ ha)
  · exact h
theorem drop_sub (L : List R.Rc) (k : Ky) : (refDrop L k).Sublist L := List.eraseP_sublist
theorem drop_nd {L : List R.Rc} (k : Ky) (h : (L.map kyR).Nodup) : ((refDrop L k).map kyR).Nodup := ((drop_sub L k).map kyR).nodup h
theorem put_may {L : List R.Rc} (r : R.Rc) (h : ∀ x ∈ L, R.mayR x = true) : ∀ x ∈ refPut L r, R.mayR x = true := by
  unfold refPut
  split
  · rename_i hc
    intro x hx
    rcases List.mem_append.1 hx with hx | hx
    · exact h x hx
    · rw [List.mem_singleton.1 hx]
      exact hc.1
  · exact h
theorem drop_may {L : List R.Rc} (k : Ky) (h : ∀ x ∈ L, R.mayR x = true) : ∀ x ∈ refDrop L k, R.mayR x = true := fun x hx => h x ((drop_sub L k).subset hx)
theorem sx_drop : ∀ {L : List R.Rc} (k : Ky), (L.map kyR).Nodup → dropS (sx L) k = sx (refDrop L k)
  | [], _, _ => rfl
  | a :: L, k, h => by
    rw [List.map_cons, List.nodup_cons] at h
    have ih := sx_drop (L := L) k h.2
    unfold dropS sx refDrop at ih ⊢
    by_cases hk : kyR a = k
    · rw [List.eraseP_cons_of_pos (by simpa using hk), List.map_cons, List.filter_cons_of_neg (by simp [hk])]
      rw [List.filter_eq_self]
      intro x hx
      obtain ⟨r, hr, rfl⟩ := List.mem_map.1 hx
      rw [decide_eq_true_eq]
      intro e
      exact h.1 (hk ▸ e ▸ List.mem_map_of_mem hr)
    · rw [List.eraseP_cons_of_neg (by simpa using hk), List.map_cons, List.filter_cons_of_pos (by simpa using hk), ih]
      rfl
/-- Keys once: a number's digest is told by what is there, in whatever order. -/
theorem leaf_mem {S S' : Sb} (_h : (S.map Prod.fst).Nodup) (h' : (S'.map Prod.fst).Nodup) (hm : ∀ x, x ∈ S ↔ x ∈ S') (o n : Nat) : leafS S o n = leafS S' o n := by
  have one : ∀ {T : Sb}, (T.map Prod.fst).Nodup → ∀ {x y : Ky × List Int}, x ∈ T → y ∈ T → x.1 = y.1 → x = y := by
    intro T hT x y hx hy e
    induction T with
    | nil => cases hx
    | cons a T ih =>
      rw [List.map_cons, List.nodup_cons] at hT
      rcases List.mem_cons.1 hx with ex | hx2
      · rcases List.mem_cons.1 hy with ey | hy2
        · rw [ex, ey]
        · exact absurd (by rw [← ex, e]; exact List.mem_map_of_mem hy2) hT.1
      · rcases List.mem_cons.1 hy with ey | hy2
        · exact absurd (by rw [← ey, ← e]; exact List.mem_map_of_mem hx2) hT.1
        · exact ih hT.2 hx2 hy2
  unfold leafS
  cases hf : S.find? (fun x => decide (x.1 = ((o : Int), (n : Int)))) with
  | some x =>
    cases hf' : S'.find? (fun x => decide (x.1 = ((o : Int), (n : Int)))) with
    | some y =>
      have d1 := List.find?_some hf
      have d2 := List.find?_some hf'
      rw [decide_eq_true_eq] at d1 d2
      have := one h' ((hm x).1 (List.mem_of_find?_eq_some hf)) (List.mem_of_find?_eq_some hf') (d1.trans d2.symm)
      rw [this]
    | none => exact absurd (List.find?_some hf) (List.find?_eq_none.1 hf' x ((hm x).1 (List.mem_of_find?_eq_some hf)))
  | none =>
    cases hf' : S'.find? (fun x => decide (x.1 = ((o : Int), (n : Int)))) with
    | some y => exact absurd (List.find?_some hf') (List.find?_eq_none.1 hf y ((hm y).2 (List.mem_of_find?_eq_some hf')))
    | none => rfl
theorem tree_rev {L : List R.Rc} (h : (L.map kyR).Nodup) (o a : Nat) (ha : a < 1365) : treeF (sx L.reverse) o a = treeF (sx L) o a :=
  treeF_same (fun m _ => leaf_mem (by rw [sx_keys, List.map_reverse]; exact List.pairwise_reverse.2 (List.Pairwise.imp (fun hh e => hh e.symm) h)) (by rw [sx_keys]; exact h) (fun x => by simp [sx]) o m) a ha
theorem same_rev (L : List R.Rc) : sameS (sx L) (sx L.reverse) := ⟨by simp [sx], fun x hx => by simpa [sx] using hx⟩
end Go.Proofs.YthamhbbgmibmoaaDoor
