/-
  PLAIN LEAN: the order of records; sorted runs; what keeps equals in order.
-/
import Derived.Test.YtkmcieiglhdjeaaDoorVRecSwap
namespace Go.Proofs.YtkmcieiglhdjeaaDoor
open Go.RowKit Go.Lib

theorem less_iff (a b : Rc) : lessR a b = true ↔ (a.w < b.w ∨ (a.w = b.w ∧ (a.c < b.c ∨ (a.c = b.c ∧ (a.o < b.o ∨ (a.o = b.o ∧ a.s < b.s)))))) := by
  unfold lessR slessB befB
  simp only [Bool.or_eq_true, Bool.and_eq_true, decide_eq_true_eq, beq_iff_eq]
  omega
theorem less_no (a b : Rc) : lessR a b = false ↔ ¬ (a.w < b.w ∨ (a.w = b.w ∧ (a.c < b.c ∨ (a.c = b.c ∧ (a.o < b.o ∨ (a.o = b.o ∧ a.s < b.s)))))) := by
  rw [← less_iff]
  simp
def Le (a b : Rc) : Prop := lessR b a = false
theorem le_iff (a b : Rc) : Le a b ↔ ¬ (b.w < a.w ∨ (b.w = a.w ∧ (b.c < a.c ∨ (b.c = a.c ∧ (b.o < a.o ∨ (b.o = a.o ∧ b.s < a.s)))))) := less_no b a
theorem le_refl (a : Rc) : Le a a := by rw [le_iff]; omega
theorem le_trans {a b c : Rc} (h : Le a b) (k : Le b c) : Le a c := by rw [le_iff] at *; omega
theorem le_of_less {a b : Rc} (h : lessR a b = true) : Le a b := by rw [le_iff]; rw [less_iff] at h; omega
theorem less_of_less_le {a b c : Rc} (h : lessR a b = true) (k : Le b c) : lessR a c = true := by rw [less_iff] at *; rw [le_iff] at k; omega
theorem less_of_le_less {a b c : Rc} (h : Le a b) (k : lessR b c = true) : lessR a c = true := by rw [less_iff] at *; rw [le_iff] at h; omega

/-- The same stamp and key. -/
def eqB (x y : Rc) : Bool := (decide (x.w = y.w) && decide (x.c = y.c)) && (decide (x.o = y.o) && decide (x.s = y.s))
theorem eqB_iff (x y : Rc) : eqB x y = true ↔ (x.w = y.w ∧ x.c = y.c) ∧ (x.o = y.o ∧ x.s = y.s) := by
  unfold eqB
  simp only [Bool.and_eq_true, decide_eq_true_eq]
theorem eqB_self (x : Rc) : eqB x x = true := by rw [eqB_iff]; simp
theorem not_both {x u v : Rc} (h : lessR v u = true) (hu : eqB x u = true) : eqB x v = false := by
  cases hv : eqB x v
  · rfl
  · rw [eqB_iff] at hu hv
    rw [less_iff] at h
    omega

def seg (d : Nat → Rc) (a b : Nat) : List Rc := (List.range' a (b - a)).map d
theorem seg_split (d : Nat → Rc) {a m b : Nat} (h1 : a ≤ m) (h2 : m ≤ b) : seg d a b = seg d a m ++ seg d m b := by
  unfold seg
  rw [← List.map_append, show b - a = (m - a) + (b - m) from by omega, ← List.range'_append_1]
  rw [show a + (m - a) = m from by omega]
theorem seg_congr {d d' : Nat → Rc} {a b : Nat} (h : ∀ k, a ≤ k → k < b → d' k = d k) : seg d' a b = seg d a b := by
  unfold seg
  apply List.map_congr_left
  intro k hk
  rw [List.mem_range'_1] at hk
  exact h k hk.1 (by omega)
theorem seg_shift {d d' : Nat → Rc} {a b a' b' : Nat} (hab : b - a = b' - a') (h : ∀ k, a ≤ k → k < b → d' k = d (k - a + a')) : seg d' a b = seg d a' b' := by
  unfold seg
  rw [hab]
  apply List.ext_getElem
  · simp
  · intro i h1 h2
    simp at h1 h2
    simp
    rw [h (a + i) (by omega) (by omega)]
    congr 1
    omega
theorem mem_seg {d : Nat → Rc} {a b : Nat} {x : Rc} : x ∈ seg d a b ↔ ∃ k, (a ≤ k ∧ k < b) ∧ d k = x := by
  unfold seg
  rw [List.mem_map]
  constructor
  · rintro ⟨k, hk, e⟩
    rw [List.mem_range'_1] at hk
    exact ⟨k, ⟨hk.1, by omega⟩, e⟩
  · rintro ⟨k, hk, e⟩
    exact ⟨k, by rw [List.mem_range'_1]; omega, e⟩
theorem seg_len (d : Nat → Rc) (a b : Nat) : (seg d a b).length = b - a := by simp [seg]

/-- Of each stamp and key the same ones, in the same order. -/
def Cls (l l' : List Rc) : Prop := ∀ x, l'.filter (eqB x) = l.filter (eqB x)
theorem Cls.refl (l : List Rc) : Cls l l := fun _ => rfl
theorem Cls.trans {a b c : List Rc} (h : Cls a b) (k : Cls b c) : Cls a c := fun x => (k x).trans (h x)
theorem Cls.append {a b c e : List Rc} (h : Cls a b) (k : Cls c e) : Cls (a ++ c) (b ++ e) := fun x => by rw [List.filter_append, List.filter_append, h x, k x]
theorem Cls.mem {a b : List Rc} (h : Cls a b) (x : Rc) : x ∈ b ↔ x ∈ a := by
  have h1 := h x
  constructor
  · intro hx
    have : x ∈ b.filter (eqB x) := List.mem_filter.2 ⟨hx, eqB_self x⟩
    rw [h1] at this
    exact (List.mem_filter.1 this).1
  · intro hx
    have : x ∈ a.filter (eqB x) := List.mem_filter.2 ⟨hx, eqB_self x⟩
    rw [← h1] at this
    exact (List.mem_filter.1 this).1
/-- Two runs of which each of the second is below each of the first, exchanged. -/
theorem Cls.swap {u v : List Rc} (h : ∀ x ∈ u, ∀ y ∈ v, lessR y x = true) : Cls (u ++ v) (v ++ u) := fun x => by
  rw [List.filter_append, List.filter_append]
  cases hu : u.filter (eqB x) with
  | nil => simp
  | cons z t =>
    have hz : z ∈ u.filter (eqB x) := by rw [hu]; exact List.mem_cons_self ..
    obtain ⟨hzu, hze⟩ := List.mem_filter.1 hz
    have hv : v.filter (eqB x) = [] := by
      rw [List.filter_eq_nil_iff]
      intro y hy
      rw [not_both (h z hzu y hy) hze]
      simp
    rw [hv]
    simp
def Srt (d : Nat → Rc) (a b : Nat) : Prop := ∀ i j, a ≤ i → i < j → j < b → Le (d i) (d j)
theorem Srt.sub {d : Nat → Rc} {a b a' b' : Nat} (h : Srt d a b) (h1 : a ≤ a') (h2 : b' ≤ b) : Srt d a' b' := fun i j hi hij hj => h i j (by omega) hij (by omega)
theorem Srt.le {d : Nat → Rc} {a b : Nat} (h : Srt d a b) {i j : Nat} (hi : a ≤ i) (hij : i ≤ j) (hj : j < b) : Le (d i) (d j) := by
  rcases Nat.eq_or_lt_of_le hij with rfl | hlt
  · exact le_refl _
  · exact h i j hi hlt hj
theorem Srt.congr {d d' : Nat → Rc} {a b : Nat} (h : Srt d a b) (he : ∀ k, a ≤ k → k < b → d' k = d k) : Srt d' a b := fun i j hi hij hj => by
  rw [he i hi (by omega), he j (by omega) hj]
  exact h i j hi hij hj

/-- Sorted runs of the same ones in the same order are the same. -/
theorem cls_unique : ∀ (n : Nat) (l l' : List Rc), l.length = n → l.Pairwise Le → l'.Pairwise Le → Cls l l' → l' = l
  | 0, l, l', hn, _, _, hc => by
    have : l = [] := List.eq_nil_of_length_eq_zero hn
    subst this
    cases l' with
    | nil => rfl
    | cons x t => exact absurd ((hc.mem x).1 (List.mem_cons_self ..)) (by simp)
  | n + 1, [], l', hn, _, _, _ => by simp at hn
  | n + 1, x :: t, l', hn, h1, h2, hc => by
    cases l' with
    | nil => exact absurd ((hc.mem x).2 (List.mem_cons_self ..)) (by simp)
    | cons y s =>
      rw [List.pairwise_cons] at h1 h2
      have hxy : Le x y := by
        rcases List.mem_cons.1 ((hc.mem y).1 (List.mem_cons_self ..)) with e | hm
        · rw [e]; exact le_refl _
        · exact h1.1 y hm
      have hyx : Le y x := by
        rcases List.mem_cons.1 ((hc.mem x).2 (List.mem_cons_self ..)) with e | hm
        · rw [e]; exact le_refl _
        · exact h2.1 x hm
      have he : eqB x y = true := by
        rw [le_iff] at hxy hyx
        rw [eqB_iff]
        omega
      have e : y = x := by
        have h3 := hc x
        rw [List.filter_cons_of_pos he, List.filter_cons_of_pos (eqB_self x)] at h3
        exact (List.cons.injEq .. ▸ h3).1
      subst e
      have hc2 : Cls t s := fun z => by
        have h3 := hc z
        cases hz : eqB z y
        · rw [List.filter_cons_of_neg (by rw [hz]; simp), List.filter_cons_of_neg (by rw [hz]; simp)] at h3
          exact h3
        · rw [List.filter_cons_of_pos hz, List.filter_cons_of_pos hz] at h3
          exact (List.cons.injEq .. ▸ h3).2
      rw [cls_unique n t s (by simpa using hn) h1.2 h2.2 hc2]
theorem srt_pairwise {d : Nat → Rc} {a b : Nat} (h : Srt d a b) : (seg d a b).Pairwise Le := by
  unfold seg
  rw [List.pairwise_map, List.pairwise_iff_getElem]
  intro i j hi hj hij
  simp at hi hj
  simp
  exact h _ _ (by omega) (by omega) (by omega)

/-! What is rotated. -/
theorem rot_seg (d : Nat → Rc) {a s m e b : Nat} (h1 : a ≤ s) (h2 : s ≤ m) (h3 : m ≤ e) (h4 : e ≤ b) :
    seg (rotF d m (m - s) (e - m)) a b = seg d a s ++ (seg d m e ++ seg d s m) ++ seg d e b := by
  have hm : m - (m - s) = s := by omega
  rw [seg_split _ (show a ≤ e by omega) h4, seg_split _ h1 (show s ≤ e by omega), seg_split _ (show s ≤ s + (e - m) by omega) (show s + (e - m) ≤ e by omega)]
  rw [seg_congr (d := d) (a := a) (b := s) (fun k _ hk => by unfold rotF; rw [if_neg (by omega), if_neg (by omega)])]
  rw [seg_congr (d := d) (a := e) (b := b) (fun k hk _ => by unfold rotF; rw [if_neg (by omega), if_neg (by omega)])]
  rw [seg_shift (d := d) (a := s) (b := s + (e - m)) (a' := m) (b' := e) (by omega) (fun k hk hk2 => by unfold rotF; rw [if_pos (by omega)]; congr 1; omega)]
  rw [seg_shift (d := d) (a := s + (e - m)) (b := e) (a' := s) (b' := m) (by omega) (fun k hk hk2 => by unfold rotF; rw [if_neg (by omega), if_pos (by omega)]; congr 1; omega)]
theorem rot_cls (d : Nat → Rc) {a s m e b : Nat} (h1 : a ≤ s) (h2 : s ≤ m) (h3 : m ≤ e) (h4 : e ≤ b) (hu : ∀ p q, s ≤ p → p < m → m ≤ q → q < e → lessR (d q) (d p) = true) :
    Cls (seg d a b) (seg (rotF d m (m - s) (e - m)) a b) := by
  rw [rot_seg d h1 h2 h3 h4, seg_split d (show a ≤ e by omega) h4, seg_split d h1 (show s ≤ e by omega), seg_split d h2 h3]
  refine ((Cls.refl _).append (Cls.swap fun x hx y hy => ?_)).append (Cls.refl _)
  obtain ⟨p, hp, rfl⟩ := mem_seg.1 hx
  obtain ⟨q, hq, rfl⟩ := mem_seg.1 hy
  exact hu p q hp.1 hp.2 hq.1 hq.2

/-- What symMerge makes of a row. -/
structure SMQ (d : Nat → Rc) (a b : Nat) (d' : Nat → Rc) : Prop where
  out : ∀ k, k < a ∨ b ≤ k → d' k = d k
  srt : Srt d' a b
  cls : Cls (seg d a b) (seg d' a b)

/-- Where rotated runs are merged on both sides, the whole is merged. -/
theorem merge_whole (d d1 d2 d3 : Nat → Rc) {a s m e b mid : Nat} (h1 : a ≤ s) (h2 : s ≤ m) (h3 : m ≤ e) (h4 : e ≤ b) (hmid : mid = s + (e - m)) (sl : Srt d a m) (sr : Srt d m b)
    (hu : ∀ p q, s ≤ p → p < m → m ≤ q → q < e → lessR (d q) (d p) = true) (hl : ∀ p q, a ≤ p → p < s → e ≤ q → q < b → Le (d p) (d q))
    (e1 : ∀ k, d1 k = rotF d m (m - s) (e - m) k) (q2 : SMQ d1 a mid d2) (q3 : SMQ d2 mid b d3) : SMQ d a b d3 := by
  have hlow : ∀ k, a ≤ k → k < mid → (∃ p, (a ≤ p ∧ p < s) ∧ d1 k = d p) ∨ (∃ q, (m ≤ q ∧ q < e) ∧ d1 k = d q) := fun k hk hk2 => by
    rw [e1 k]
    unfold rotF
    by_cases hks : k < s
    · exact .inl ⟨k, by omega, by rw [if_neg (by omega), if_neg (by omega)]⟩
    · exact .inr ⟨k + (m - s), by omega, by rw [if_pos (by omega)]⟩
  have hhigh : ∀ k, mid ≤ k → k < b → (∃ p, (s ≤ p ∧ p < m) ∧ d1 k = d p) ∨ (∃ q, (e ≤ q ∧ q < b) ∧ d1 k = d q) := fun k hk hk2 => by
    rw [e1 k]
    unfold rotF
    by_cases hke : k < e
    · exact .inl ⟨k - (e - m), by omega, by rw [if_neg (by omega), if_pos (by omega)]⟩
    · exact .inr ⟨k, by omega, by rw [if_neg (by omega), if_neg (by omega)]⟩
  have hcross : ∀ x ∈ seg d1 a mid, ∀ y ∈ seg d1 mid b, Le x y := fun x hx y hy => by
    obtain ⟨k, hk, rfl⟩ := mem_seg.1 hx
    obtain ⟨k', hk', rfl⟩ := mem_seg.1 hy
    rcases hlow k hk.1 hk.2 with ⟨p, hp, e2⟩ | ⟨q, hq, e2⟩ <;> rcases hhigh k' hk'.1 hk'.2 with ⟨p', hp', e3⟩ | ⟨q', hq', e3⟩ <;> rw [e2, e3]
    · exact sl.le hp.1 (by omega) hp'.2
    · exact hl p q' hp.1 hp.2 hq'.1 hq'.2
    · exact le_of_less (hu p' q hp'.1 hp'.2 hq.1 hq.2)
    · exact sr.le hq.1 (by omega) hq'.2
  have hmb : mid ≤ b := by omega
  have ham : a ≤ mid := by omega
  have c2 : Cls (seg d1 a mid) (seg d3 a mid) := by
    have : seg d3 a mid = seg d2 a mid := seg_congr (fun k hk hk2 => q3.out k (.inl hk2))
    rw [this]
    exact q2.cls
  have c3 : Cls (seg d1 mid b) (seg d3 mid b) := by
    have : seg d2 mid b = seg d1 mid b := seg_congr (fun k hk hk2 => q2.out k (.inr hk))
    have h := q3.cls
    rw [this] at h
    exact h
  refine ⟨fun k hk => ?_, fun i j hi hij hj => ?_, ?_⟩
  · rw [q3.out k (by omega), q2.out k (by omega), e1 k]
    unfold rotF
    rw [if_neg (by omega), if_neg (by omega)]
  · by_cases hjm : j < mid
    · rw [q3.out i (by omega), q3.out j (by omega)]
      exact q2.srt i j hi hij hjm
    · by_cases him : i < mid
      · exact hcross _ ((c2.mem _).1 (mem_seg.2 ⟨i, ⟨hi, him⟩, rfl⟩)) _ ((c3.mem _).1 (mem_seg.2 ⟨j, ⟨by omega, hj⟩, rfl⟩))
      · exact q3.srt i j (by omega) hij hj
  · have hr := rot_cls d h1 h2 h3 h4 hu
    have e2 : seg d1 a b = seg (rotF d m (m - s) (e - m)) a b := seg_congr (fun k _ _ => e1 k)
    rw [← e2] at hr
    refine hr.trans ?_
    rw [seg_split d1 ham hmb, seg_split d3 ham hmb]
    exact c2.append c3
end Go.Proofs.YtkmcieiglhdjeaaDoor
