/-
  The library's sort of Keys, by contract: the row behind it.
-/
import Derived.Test.YtgdajnjfkokmdaaSortf
import Derived.Test.YtgdajnjfkokmdaaPstCmp
import Derived.Test.YtgdajnjfkokmdaaPstRow
namespace Go.Proofs.Ytgdajnjfkokmdaa
open Go.RowKit Go.Lib Go.Sort Go.Shelf
set_option maxRecDepth 100000

def encK (k : Ky) : List Value := [.int .i64 k.1, .int .i64 k.2]
theorem flat_cs2 (l : List Ky) : (flatK encK 2 l.toArray).toList = cs2 l := by
  apply List.ext_getElem?
  intro t
  by_cases ht : t < l.length * 2
  · have hs : (flatK encK 2 l.toArray).size = l.length * 2 := by simp
    rw [Array.getElem?_toList]
    have h1 := get_flatK encK 2 l.toArray t (by simpa using ht)
    rw [getElem!_pos _ t (by rw [hs]; exact ht)] at h1
    rw [Array.getElem?_eq_getElem (by rw [hs]; exact ht), h1]
    have hk : t / 2 < l.length := by omega
    have e : l.toArray[t / 2]! = l[t / 2] := by rw [getElem!_pos _ _ (by simpa using hk)]; simp
    rw [e]
    obtain ⟨c0, c1⟩ := cs2_at l (t / 2) hk
    rcases Nat.mod_two_eq_zero_or_one t with hm | hm
    · rw [hm]
      have e2 : (cs2 l)[t]? = (cs2 l)[t / 2 * 2]? := by rw [show t / 2 * 2 = t by omega]
      rw [e2, c0]
      rfl
    · rw [hm]
      have e2 : (cs2 l)[t]? = (cs2 l)[t / 2 * 2 + 1]? := by rw [show t / 2 * 2 + 1 = t by omega]
      rw [e2, c1]
      rfl
  · rw [List.getElem?_eq_none (by simp; omega), List.getElem?_eq_none (by rw [cs2_len]; omega)]
theorem cs2_bang (l : List Ky) (j : Nat) (hj : j < l.length * 2) : (cs2 l)[j]? = some (flatK encK 2 l.toArray)[j]! := by
  have hs : (flatK encK 2 l.toArray).size = l.length * 2 := by simp
  rw [← flat_cs2, Array.getElem?_toList, Array.getElem?_eq_getElem (by rw [hs]; exact hj), getElem!_pos _ j (by rw [hs]; exact hj)]
theorem holds_krow {w : World} {B g cap : Nat} {l : List Ky} (h : KRow w B (.slice (some ⟨g, 0, none⟩) l.length cap) l) : HoldsK encK 2 w g 0 l.toArray := by
  intro j hj
  have hj' : j < l.length * 2 := by simpa using hj
  have hc := World.ownsRow.cellAt h j (by omega)
  have hf := World.ownsRow.frozenAt h j
  rw [Nat.zero_add]
  exact ⟨by rw [hc, cs2_bang l j hj']; rfl, hf⟩
theorem krow_sorted {w : World} {B g cap n : Nat} {l m : List Ky} {os : Array Obj} (h : KRow w B (.slice (some ⟨g, 0, none⟩) l.length cap) l) (hm : m.length = l.length) :
    KRow (sortWorldK encK 2 w g 0 n m.toArray os) B (.slice (some ⟨g, 0, none⟩) l.length cap) m ∧ w.grownBy (sortWorldK encK 2 w g 0 n m.toArray os) (some g) := by
  obtain ⟨h0, h | ⟨g', cap', cur, e, hB, hh, h1, h2, h3, h4⟩⟩ := h
  · cases h.1
  · simp only [Value.slice.injEq, Option.some.injEq, Addr.mk.injEq, and_true, true_and] at e
    obtain ⟨rfl, rfl⟩ := e
    have hg : g < w.heap.size := (Array.getElem?_eq_some_iff.1 hh).1
    have hs : (flatK encK 2 m.toArray).size = m.length * 2 := by simp
    have hheap : (sortWorldK encK 2 w g 0 n m.toArray os).heap[g]? = some (.cells (putCells id 0 (flatK encK 2 m.toArray) cur) 34 (0, 0)) := by
      unfold sortWorldK putRowK
      rw [heap_grow_old _ _ (by simpa [putRow, mapBlock, Sort.ahead] using hg)]
      simp [putRow, mapBlock, Sort.ahead, Array.getElem?_modify, hh, onCells]
    refine ⟨⟨by rw [cs2_len], .inr ⟨g, cap, _, by rw [hm], hB, hheap, by omega, h2, by simp [putCells, h3], ?_⟩⟩, ?_⟩
    · apply List.ext_getElem?
      intro j
      by_cases hj : j < m.length * 2
      · rw [List.getElem?_take_of_lt hj, Array.getElem?_toList, cs2_bang m j hj]
        have hjc : j < cur.size := by omega
        simp only [putCells, Array.getElem?_mapIdx, Array.getElem?_eq_getElem hjc, Option.map_some, hs]
        simp [hj]
      · rw [List.getElem?_take_eq_none (by omega), List.getElem?_eq_none (by rw [cs2_len]; omega)]
    · refine ⟨rfl, rfl, rfl, by simp [sortWorldK, putRowK, putRow, mapBlock, Sort.ahead], fun k hk hne => ?_⟩
      unfold sortWorldK putRowK
      rw [heap_grow_old _ _ (by simpa [putRow, mapBlock, Sort.ahead] using hk)]
      have : g ≠ k := fun e => hne (by rw [e])
      simp [putRow, mapBlock, Sort.ahead, Array.getElem?_modify, this]
theorem ltOf_cmpK (x y : Ky) : ltOf cmpK x y = kLt x y := cmpK_lt x y
theorem swo_cmpK : SWO (ltOf cmpK) where
  irrefl x := by rw [ltOf_cmpK, kLt_irrefl]
  trans x y z h1 h2 := by rw [ltOf_cmpK] at *; exact kLt_trans h1 h2
  ntrans x y z h1 h2 := by
    rw [ltOf_cmpK] at *
    cases h : kLt x z with
    | false => rfl
    | true =>
      rcases kLt_tri x y with k | k | k
      · rw [k] at h1; cases h1
      · subst k; rw [h] at h2; cases h2
      · exact absurd (kLt_trans k h) (by rw [h2]; simp)
def srtK (l : List Ky) : List Ky := l.mergeSort fun x y => !kLt y x
theorem srtK_perm (l : List Ky) : (srtK l).Perm l := List.mergeSort_perm _ _
theorem srtK_len (l : List Ky) : (srtK l).length = l.length := (srtK_perm l).length_eq
theorem srtK_pair (l : List Ky) : (srtK l).Pairwise fun x y => kLt y x = false := by
  have h := List.pairwise_mergeSort (le := fun x y : Ky => !kLt y x) (fun a b c h k => by
    simp only [Bool.not_eq_true'] at *
    have := swo_cmpK.ntrans c b a
    rw [ltOf_cmpK, ltOf_cmpK, ltOf_cmpK] at this
    exact this k h) (fun a b => by
    rcases kLt_tri a b with h | h | h
    · simp [kLt_no h]
    · subst h; simp [kLt_irrefl]
    · simp [kLt_no h]) l
  exact h.imp fun h => by simpa using h
theorem sorted_grown (w : World) (g n : Nat) (m : List Ky) (os : Array Obj) : w.grownBy (sortWorldK encK 2 w g 0 n m.toArray os) (some g) := by
  refine ⟨rfl, rfl, rfl, by simp [sortWorldK, putRowK, putRow, mapBlock, Sort.ahead], fun k hk hne => ?_⟩
  unfold sortWorldK putRowK
  rw [heap_grow_old _ _ (by simpa [putRow, mapBlock, Sort.ahead] using hk)]
  have : g ≠ k := fun e => hne (by rw [e])
  simp [putRow, mapBlock, Sort.ahead, Array.getElem?_modify, this]
theorem cmp_lays (r blk size : Nat) (w : World) (hb : Bx 44 w r #[befV]) (hne : r ≠ blk) : CmpLays Try.prog 52 #[.pointer (some ⟨r, 0, none⟩)] encK 2 cmpK blk 0 size w := fun m os dk _ x y =>
  (by1_g r x.1 x.2 y.1 y.2 _ (((sorted_grown w blk m dk.toList os).block r hb.lt (fun e => hne (Option.some.inj e))).trans hb)).mono fun e w' ⟨h1, os', h2⟩ => ⟨h1, 0, os', by rw [h2]; rfl⟩
/-- slices.SortFunc at Keys with the comparison of order.By: the row holds them sorted. -/
theorem sortf_c (r : Nat) (l : List Ky) (v : Value) (w : World) (B : Nat) (h : KRow w B v l) (hn : l.length ≤ 100000) (hb : Bx 44 w r #[befV]) (hne : ∀ g, v.ownBlock = some g → r ≠ g) :
    Calls Try.prog 34 #[v, .func (.func 52) #[] #[.pointer (some ⟨r, 0, none⟩)]] w fun e w' => e = .returned (.tuple #[]) ∧ KRow w' B v (srtK l) ∧ w.grownBy w' v.ownBlock := by
  rcases Nat.eq_zero_or_pos l.length with hz | hz
  · obtain rfl : l = [] := List.eq_nil_of_length_eq_zero hz
    obtain ⟨A, C, rfl, _⟩ := own_form h
    have hcon := AnyF.slices_SortFunc_none { Try.sortKy with } A C (.func (.func 52) #[] #[.pointer (some ⟨r, 0, none⟩)]) w
    exact hcon.mono fun e w' ⟨h1, h2⟩ => ⟨h1, by rw [h2, show srtK [] = [] by simp [srtK]]; exact h, by rw [h2]; exact grown_refl _ _⟩
  · obtain ⟨g, cap, rfl, hB, hlt⟩ := World.ownsRow.form h (by omega)
    have eg : ∀ args w, (callFunc 52 args).run Try.prog w = .ok (.enter 52 args) w := enters_of Try.func52 (by kernel_rfl) rfl
    have hcon := AnyQ.slices_SortFunc_total Try.sortKy 2 Try.isAgg34 Try.sizeOf34 encK (fun _ => rfl) (fun x v hv => by simp [encK] at hv; rcases hv with rfl | rfl <;> rfl) cmpK swo_cmpK 52 #[.pointer (some ⟨r, 0, none⟩)] g 0 cap l.toArray w eg (cmp_lays r g _ w hb (hne g rfl)) (holds_krow h) hlt (by simp; omega)
      (fun x y h1 h2 => by
        rw [ltOf_cmpK] at h1 h2
        rcases kLt_tri x y with k | k | k
        · rw [k] at h1; cases h1
        · exact k
        · rw [k] at h2; cases h2)
    refine hcon.mono fun e w' ⟨h1, n, os, h2⟩ => ⟨h1, ?_⟩
    have he : ((l.toArray.toList.mergeSort fun x y => !(ltOf cmpK) y x).toArray : Array Ky) = (srtK l).toArray := by
      have hf : (fun x y : Ky => !(ltOf cmpK) y x) = fun x y => !kLt y x := by funext x y; rw [ltOf_cmpK]
      rw [hf]
      rfl
    rw [he] at h2
    obtain ⟨h3, h4⟩ := krow_sorted (n := n) (os := os) h (srtK_len l)
    rw [h2]
    exact ⟨h3, h4⟩
end Go.Proofs.Ytgdajnjfkokmdaa
