/-
  Before, order.By, the comparison that it makes, and byKey of the program, by contract.
-/
import Derived.Test.YtdjlgiinekighaaGreatDoorPkIp
import Derived.Sort.Grow
import Derived.Shelf.Abstract
import Derived.Test.YtdjlgiinekighaaGreatDoorSortf
namespace Go.Proofs.YtdjlgiinekighaaGreatDoor.P
open Go.RowKit Go.Lib Go.Sort

theorem below_grow (w : World) (os : Array Obj) : Below w.heap.size w (grow w os) :=
  ⟨rfl, rfl, rfl, by rw [size_grow]; omega, fun k hk => by
    show (w.heap ++ os)[k]? = w.heap[k]?
    rw [Array.getElem?_append_left hk]⟩
theorem grow_two (w : World) (o o' : Obj) : ∃ os, (w.alloc o).alloc o' = grow w os := ⟨_, by rw [alloc_eq_grow, alloc_eq_grow, grow_grow]⟩
theorem kLt_ne1 {o s p q : Int} (h : o ≠ p) : kLt (o, s) (p, q) = decide (o < p) := by
  simp only [kLt_eq]
  rw [show (o == p) = false by simpa using h]
  simp
theorem kLt_eq1 (o s q : Int) : kLt (o, s) (o, q) = decide (s < q) := by simp [kLt_eq]
set_option maxHeartbeats 2000000 in
theorem before_g (o s p q : Int) (w : World) : Calls Tryz.prog 69 #[.agg #[.int .i64 o, .int .i64 s], .agg #[.int .i64 p, .int .i64 q]] w fun e w' => e = .returned (.bool (kLt (o, s) (p, q))) ∧ ∃ os, w' = grow w os := by
  by_cases h : o = p
  · subst h
    have e0 : (o != o) = false := by simp
    rw [kLt_eq1]
    generalize hC : decide (s < q) = C
    go_enter Tryz.func69, Tryz.ntmps69
    go_wp2
    go_ret
    exact ⟨by simp, grow_two _ _ _⟩
  · have e0 : (o != p) = true := by simpa using h
    rw [kLt_ne1 h]
    generalize hC : decide (o < p) = C
    go_enter Tryz.func69, Tryz.ntmps69
    go_wp2
    go_ret
    exact ⟨by simp, grow_two _ _ _⟩
theorem before_c (o s p q : Int) (w : World) : Calls Tryz.prog 69 #[.agg #[.int .i64 o, .int .i64 s], .agg #[.int .i64 p, .int .i64 q]] w fun e w' => e = .returned (.bool (kLt (o, s) (p, q))) ∧ Below w.heap.size w w' :=
  (before_g o s p q w).mono fun e w' ⟨he, os, hw⟩ => ⟨he, by rw [hw]; exact below_grow _ _⟩
/-- -1, 0, 1. -/
def cmpK (a b : Ky) : Int := if kLt a b then -1 else if kLt b a then 1 else 0
theorem cmpK_lt (a b : Ky) : decide (cmpK a b < 0) = kLt a b := by
  unfold cmpK
  cases h : kLt a b <;> cases h2 : kLt b a <;> simp
theorem cmpK_self (a : Ky) : cmpK a a = 0 := by simp [cmpK, kLt_irrefl]
theorem cmpK_zero {a b : Ky} : cmpK a b = 0 ↔ a = b := by
  refine ⟨fun h => ?_, fun h => by rw [h, cmpK_self]⟩
  rcases kLt_tri a b with k | k | k
  · rw [cmpK, if_pos k] at h; cases h
  · exact k
  · rw [cmpK, kLt_no k, if_neg (by simp), if_pos k] at h; cases h
theorem cmpK_gt {a b : Ky} (h : kLt b a = true) : cmpK a b = 1 := by rw [cmpK, kLt_no h, if_neg (by simp), if_pos h]
theorem cmpK_less {a b : Ky} (h : kLt a b = true) : cmpK a b = -1 := by rw [cmpK, if_pos h]
/-- What order.By is handed: Before. -/
abbrev befV : Value := .func (.func 69) #[] #[]
theorem by_box {w w' : World} (h : w' = w.alloc (.cells #[befV] 82)) : Bx 82 w' w.heap.size #[befV] := by rw [h]; exact Bx.new _ _ _
set_option maxHeartbeats 2000000 in
theorem by_g (w : World) : Calls Tryz.prog 68 #[befV] w fun e w' => e = .returned (.func (.func 86) #[] #[.pointer (some ⟨w.heap.size, 0, none⟩)]) ∧ w' = w.alloc (.cells #[befV] 82) := by
  unfold befV
  go_enter Tryz.func68, Tryz.ntmps68
  go_wp2
  go_ret
  exact ⟨by first | rfl | simp, rfl⟩
set_option maxHeartbeats 4000000 in
/-- The comparison that order.By makes of Before. -/
theorem by1_g (r : Nat) (o s p q : Int) (w : World) (hb : Bx 82 w r #[befV]) : Calls Tryz.prog 86 #[.agg #[.int .i64 o, .int .i64 s], .agg #[.int .i64 p, .int .i64 q], .pointer (some ⟨r, 0, none⟩)] w fun e w' => e = .returned (.int .i64 (cmpK (o, s) (p, q))) ∧ ∃ os, w' = grow w os := by
  have C1 := Lib.hid (fun W => before_g o s p q W)
  have C2 := Lib.hid (fun W => before_g p q o s W)
  have eg : ∀ args w, (callFunc 69 args).run Tryz.prog w = .ok (.enter 69 args) w := enters_of Tryz.func69 (by kernel_rfl) rfl
  have B1 := Lib.hid ((Bx.new 31 w #[.int .i64 o, .int .i64 s]).below (alloc_below _ (.cells #[.int .i64 p, .int .i64 q] 31)))
  have B2 := Lib.hid (Bx.new 31 (w.alloc (.cells #[.int .i64 o, .int .i64 s] 31)) #[.int .i64 p, .int .i64 q])
  have B3 := Lib.hid (hb.below (below_two w (.cells #[.int .i64 o, .int .i64 s] 31) (.cells #[.int .i64 p, .int .i64 q] 31)))
  have r0 := B3.out.cell 0
  simp only [List.getElem?_toArray, List.getElem?_cons_zero] at r0
  obtain ⟨os0, h0⟩ := grow_two w (.cells #[.int .i64 o, .int .i64 s] 31) (.cells #[.int .i64 p, .int .i64 q] 31)
  have H0 := Lib.hid h0
  clear h0
  unfold cmpK
  generalize kLt (o, s) (p, q) = L at C1 ⊢
  generalize kLt (p, q) (o, s) = M at C2 ⊢
  cases L with
  | true =>
    go_enter Tryz.func86, Tryz.ntmps86
    go_wp2_with fail
    refine (C1.out _).mono ?_
    rintro e w1 ⟨rfl, os, rfl⟩
    clear C1 C2
    go_wp2
    go_ret
    exact ⟨by simp, _, by rw [H0.out, grow_grow]⟩
  | false =>
    go_enter Tryz.func86, Tryz.ntmps86
    go_wp2_with fail
    refine (C1.out _).mono ?_
    rintro e w1 ⟨rfl, os, hw1⟩
    have b1 := Lib.hid (B1.out.below (w' := w1) (by rw [hw1]; exact below_grow _ _))
    have b2 := Lib.hid (B2.out.below (w' := w1) (by rw [hw1]; exact below_grow _ _))
    have b3 := Lib.hid (B3.out.below (w' := w1) (by rw [hw1]; exact below_grow _ _))
    have x0 := b1.out.cell 0
    have x1 := b1.out.cell 1
    have y0 := b2.out.cell 0
    have y1 := b2.out.cell 1
    have z0 := b3.out.cell 0
    simp only [List.getElem?_toArray, List.getElem?_cons_succ, List.getElem?_cons_zero, World.size_alloc] at x0 x1 y0 y1 z0
    have hl := b1.out.lt
    have hl2 : w.heap.size + 1 < w1.heap.size := by simpa using b2.out.lt
    have HW := Lib.hid hw1
    clear hw1 C1 r0
    cases M with
    | true =>
      go_wp2_with fail
      refine (C2.out _).mono ?_
      rintro e w2 ⟨rfl, os2, hw2⟩
      have HW2 := Lib.hid hw2
      clear hw2 C2
      go_wp2
      go_ret
      exact ⟨by simp, _, by rw [HW2.out, HW.out, H0.out, grow_grow, grow_grow]⟩
    | false =>
      go_wp2_with fail
      refine (C2.out _).mono ?_
      rintro e w2 ⟨rfl, os2, hw2⟩
      have HW2 := Lib.hid hw2
      clear hw2 C2
      go_wp2
      go_ret
      exact ⟨by simp, _, by rw [HW2.out, HW.out, H0.out, grow_grow, grow_grow]⟩
end Go.Proofs.YtdjlgiinekighaaGreatDoor.P
/-
  The library's sort of Keys, by contract: the row behind it.
-/
namespace Go.Proofs.YtdjlgiinekighaaGreatDoor.P
open Go.RowKit Go.Lib Go.Sort Go.Shelf
set_option maxRecDepth 100000

def encK (k : Ky) : List Value := [.int .i64 k.1, .int .i64 k.2]
theorem flat_cs2 (l : List Ky) : (flatK encK 2 l.toArray).toList = cs2 l := by
  apply List.ext_getElem?
  intro t
  by_cases ht : t < l.length * 2
  · have hs : (flatK encK 2 l.toArray).size = l.length * 2 := by simp
    rw [Array.getElem?_toList]
    have h1 := get_flatK encK 2 l.toArray t (by simpa using ht)
    rw [getElem!_pos _ t (by rw [hs]; exact ht)] at h1
    rw [Array.getElem?_eq_getElem (by rw [hs]; exact ht), h1]
    have hk : t / 2 < l.length := by omega
    have e : l.toArray[t / 2]! = l[t / 2] := by rw [getElem!_pos _ _ (by simpa using hk)]; simp
    rw [e]
    obtain ⟨c0, c1⟩ := cs2_at l (t / 2) hk
    rcases Nat.mod_two_eq_zero_or_one t with hm | hm
    · rw [hm]
      have e2 : (cs2 l)[t]? = (cs2 l)[t / 2 * 2]? := by rw [show t / 2 * 2 = t by omega]
      rw [e2, c0]
      rfl
    · rw [hm]
      have e2 : (cs2 l)[t]? = (cs2 l)[t / 2 * 2 + 1]? := by rw [show t / 2 * 2 + 1 = t by omega]
      rw [e2, c1]
      rfl
  · rw [List.getElem?_eq_none (by simp; omega), List.getElem?_eq_none (by rw [cs2_len]; omega)]
theorem cs2_bang (l : List Ky) (j : Nat) (hj : j < l.length * 2) : (cs2 l)[j]? = some (flatK encK 2 l.toArray)[j]! := by
  have hs : (flatK encK 2 l.toArray).size = l.length * 2 := by simp
  rw [← flat_cs2, Array.getElem?_toList, Array.getElem?_eq_getElem (by rw [hs]; exact hj), getElem!_pos _ j (by rw [hs]; exact hj)]
theorem holds_krow {w : World} {B g cap : Nat} {l : List Ky} (h : KRow w B (.slice (some ⟨g, 0, none⟩) l.length cap) l) : HoldsK encK 2 w g 0 l.toArray := by
  intro j hj
  have hj' : j < l.length * 2 := by simpa using hj
  have hc := World.ownsRow.cellAt h j (by omega)
  have hf := World.ownsRow.frozenAt h j
  rw [Nat.zero_add]
  exact ⟨by rw [hc, cs2_bang l j hj']; rfl, hf⟩
theorem krow_sorted {w : World} {B g cap n : Nat} {l m : List Ky} {os : Array Obj} (h : KRow w B (.slice (some ⟨g, 0, none⟩) l.length cap) l) (hm : m.length = l.length) :
    KRow (sortWorldK encK 2 w g 0 n m.toArray os) B (.slice (some ⟨g, 0, none⟩) l.length cap) m ∧ w.grownBy (sortWorldK encK 2 w g 0 n m.toArray os) (some g) := by
  obtain ⟨h0, h | ⟨g', cap', cur, e, hB, hh, h1, h2, h3, h4⟩⟩ := h
  · cases h.1
  · simp only [Value.slice.injEq, Option.some.injEq, Addr.mk.injEq, and_true, true_and] at e
    obtain ⟨rfl, rfl⟩ := e
    have hg : g < w.heap.size := (Array.getElem?_eq_some_iff.1 hh).1
    have hs : (flatK encK 2 m.toArray).size = m.length * 2 := by simp
    have hheap : (sortWorldK encK 2 w g 0 n m.toArray os).heap[g]? = some (.cells (putCells id 0 (flatK encK 2 m.toArray) cur) 31 (0, 0)) := by
      unfold sortWorldK putRowK
      rw [heap_grow_old _ _ (by simpa [putRow, mapBlock, Sort.ahead] using hg)]
      simp [putRow, mapBlock, Sort.ahead, Array.getElem?_modify, hh, onCells]
    refine ⟨⟨by rw [cs2_len], .inr ⟨g, cap, _, by rw [hm], hB, hheap, by omega, h2, by simp [putCells, h3], ?_⟩⟩, ?_⟩
    · apply List.ext_getElem?
      intro j
      by_cases hj : j < m.length * 2
      · rw [List.getElem?_take_of_lt hj, Array.getElem?_toList, cs2_bang m j hj]
        have hjc : j < cur.size := by omega
        simp only [putCells, Array.getElem?_mapIdx, Array.getElem?_eq_getElem hjc, Option.map_some, hs]
        simp [hj]
      · rw [List.getElem?_take_eq_none (by omega), List.getElem?_eq_none (by rw [cs2_len]; omega)]
    · refine ⟨rfl, rfl, rfl, by simp [sortWorldK, putRowK, putRow, mapBlock, Sort.ahead], fun k hk hne => ?_⟩
      unfold sortWorldK putRowK
      rw [heap_grow_old _ _ (by simpa [putRow, mapBlock, Sort.ahead] using hk)]
      have : g ≠ k := fun e => hne (by rw [e])
      simp [putRow, mapBlock, Sort.ahead, Array.getElem?_modify, this]
theorem ltOf_cmpK (x y : Ky) : ltOf cmpK x y = kLt x y := cmpK_lt x y
theorem swo_cmpK : SWO (ltOf cmpK) where
  irrefl x := by rw [ltOf_cmpK, kLt_irrefl]
  trans x y z h1 h2 := by rw [ltOf_cmpK] at *; exact kLt_trans h1 h2
  ntrans x y z h1 h2 := by
    rw [ltOf_cmpK] at *
    cases h : kLt x z with
    | false => rfl
    | true =>
      rcases kLt_tri x y with k | k | k
      · rw [k] at h1; cases h1
      · subst k; rw [h] at h2; cases h2
      · exact absurd (kLt_trans k h) (by rw [h2]; simp)
def srtK (l : List Ky) : List Ky := l.mergeSort fun x y => !kLt y x
theorem srtK_perm (l : List Ky) : (srtK l).Perm l := List.mergeSort_perm _ _
theorem srtK_len (l : List Ky) : (srtK l).length = l.length := (srtK_perm l).length_eq
theorem srtK_pair (l : List Ky) : (srtK l).Pairwise fun x y => kLt y x = false := by
  have h := List.pairwise_mergeSort (le := fun x y : Ky => !kLt y x) (fun a b c h k => by
    simp only [Bool.not_eq_true'] at *
    have := swo_cmpK.ntrans c b a
    rw [ltOf_cmpK, ltOf_cmpK, ltOf_cmpK] at this
    exact this k h) (fun a b => by
    rcases kLt_tri a b with h | h | h
    · simp [kLt_no h]
    · subst h; simp [kLt_irrefl]
    · simp [kLt_no h]) l
  exact h.imp fun h => by simpa using h
theorem sorted_grown (w : World) (g n : Nat) (m : List Ky) (os : Array Obj) : w.grownBy (sortWorldK encK 2 w g 0 n m.toArray os) (some g) := by
  refine ⟨rfl, rfl, rfl, by simp [sortWorldK, putRowK, putRow, mapBlock, Sort.ahead], fun k hk hne => ?_⟩
  unfold sortWorldK putRowK
  rw [heap_grow_old _ _ (by simpa [putRow, mapBlock, Sort.ahead] using hk)]
  have : g ≠ k := fun e => hne (by rw [e])
  simp [putRow, mapBlock, Sort.ahead, Array.getElem?_modify, this]
theorem cmp_lays (r blk size : Nat) (w : World) (hb : Bx 82 w r #[befV]) (hne : r ≠ blk) : CmpLays Tryz.prog 86 #[.pointer (some ⟨r, 0, none⟩)] encK 2 cmpK blk 0 size w := fun m os dk _ x y =>
  (by1_g r x.1 x.2 y.1 y.2 _ (((sorted_grown w blk m dk.toList os).block r hb.lt (fun e => hne (Option.some.inj e))).trans hb)).mono fun e w' ⟨h1, os', h2⟩ => ⟨h1, 0, os', by rw [h2]; rfl⟩
/-- slices.SortFunc at Keys with the comparison of order.By: the row holds them sorted. -/
theorem sortf_c (r : Nat) (l : List Ky) (v : Value) (w : World) (B : Nat) (h : KRow w B v l) (hn : l.length ≤ 100000) (hb : Bx 82 w r #[befV]) (hne : ∀ g, v.ownBlock = some g → r ≠ g) :
    Calls Tryz.prog 84 #[v, .func (.func 86) #[] #[.pointer (some ⟨r, 0, none⟩)]] w fun e w' => e = .returned (.tuple #[]) ∧ KRow w' B v (srtK l) ∧ w.grownBy w' v.ownBlock := by
  rcases Nat.eq_zero_or_pos l.length with hz | hz
  · obtain rfl : l = [] := List.eq_nil_of_length_eq_zero hz
    obtain ⟨A, C, rfl, _⟩ := own_form h
    have hcon := AnyF.slices_SortFunc_none { Tryz.sortKy with } A C (.func (.func 86) #[] #[.pointer (some ⟨r, 0, none⟩)]) w
    exact hcon.mono fun e w' ⟨h1, h2⟩ => ⟨h1, by rw [h2, show srtK [] = [] by simp [srtK]]; exact h, by rw [h2]; exact grown_refl _ _⟩
  · obtain ⟨g, cap, rfl, hB, hlt⟩ := World.ownsRow.form h (by omega)
    have eg : ∀ args w, (callFunc 86 args).run Tryz.prog w = .ok (.enter 86 args) w := enters_of Tryz.func86 (by kernel_rfl) rfl
    have hcon := AnyQ.slices_SortFunc_total Tryz.sortKy 2 Tryz.isAgg31 Tryz.sizeOf31 encK (fun _ => rfl) (fun x v hv => by simp [encK] at hv; rcases hv with rfl | rfl <;> rfl) cmpK swo_cmpK 86 #[.pointer (some ⟨r, 0, none⟩)] g 0 cap l.toArray w eg (cmp_lays r g _ w hb (hne g rfl)) (holds_krow h) hlt (by simp; omega)
      (fun x y h1 h2 => by
        rw [ltOf_cmpK] at h1 h2
        rcases kLt_tri x y with k | k | k
        · rw [k] at h1; cases h1
        · exact k
        · rw [k] at h2; cases h2)
    refine hcon.mono fun e w' ⟨h1, n, os, h2⟩ => ⟨h1, ?_⟩
    have he : ((l.toArray.toList.mergeSort fun x y => !(ltOf cmpK) y x).toArray : Array Ky) = (srtK l).toArray := by
      have hf : (fun x y : Ky => !(ltOf cmpK) y x) = fun x y => !kLt y x := by funext x y; rw [ltOf_cmpK]
      rw [hf]
      rfl
    rw [he] at h2
    obtain ⟨h3, h4⟩ := krow_sorted (n := n) (os := os) h (srtK_len l)
    rw [h2]
    exact ⟨h3, h4⟩
end Go.Proofs.YtdjlgiinekighaaGreatDoor.P
