/-
  Package descent: plain facts: a list of ranges that grows, level by level.
-/
import Derived.Test.YtchkadifjbmmpaaDoorDsRow
namespace Go.Proofs.YtchkadifjbmmpaaDoor
open Go.RowKit Go.Lib Go.Maps
set_option maxRecDepth 100000
set_option linter.unusedSimpArgs false

/-- What is done told by what has been looked at. -/
def Bfs (s : Rg → List Rg) (T X : List Rg) (a : Nat) : Prop := X = T ++ (X.take a).flatMap s
theorem bfs_start (s : Rg → List Rg) (T : List Rg) : Bfs s T T 0 := by simp [Bfs]
theorem bfs_next {s : Rg → List Rg} {T X : List Rg} {a : Nat} (h : Bfs s T X a) (ha : a < X.length) : Bfs s T (X ++ s X[a]) (a + 1) := by
  unfold Bfs at h ⊢
  rw [List.take_append_of_le_length (by omega), List.take_succ_eq_append_getElem ha, List.flatMap_append, ← List.append_assoc, ← h]
  simp
theorem bfs_end {s : Rg → List Rg} {T X : List Rg} (h : Bfs s T X X.length) : X = T ++ X.flatMap s := by
  unfold Bfs at h
  rwa [List.take_length] at h
/-- How many ranges a range is cut into, down to level 5, with itself. -/
def wt (l : Int) : Nat := if l = 0 then 1365 else if l = 1 then 341 else if l = 2 then 85 else if l = 3 then 21 else if l = 4 then 5 else 1
def wtL (X : List Rg) : Nat := (X.map fun r => wt r.2.1).sum
theorem wt_pos (l : Int) : 1 ≤ wt l := by
  unfold wt
  repeat' split
  all_goals omega
theorem wtL_app (a b : List Rg) : wtL (a ++ b) = wtL a + wtL b := by simp [wtL]
theorem wtL_len : ∀ X : List Rg, X.length ≤ wtL X
  | [] => Nat.le_refl _
  | r :: X => by
    have h1 := wtL_len X
    have h2 := wt_pos r.2.1
    simp only [wtL, List.map_cons, List.sum_cons, List.length_cons] at h1 ⊢
    omega
theorem wtL_filter (p : Rg → Bool) : ∀ X : List Rg, wtL (X.filter p) ≤ wtL X
  | [] => Nat.le_refl _
  | r :: X => by
    have h1 := wtL_filter p X
    by_cases h : p r = true
    · rw [List.filter_cons_of_pos h]
      simp only [wtL, List.map_cons, List.sum_cons] at h1 ⊢
      omega
    · rw [List.filter_cons_of_neg h]
      simp only [wtL, List.map_cons, List.sum_cons] at h1 ⊢
      omega
theorem wtL_parts {r : Rg} (h0 : 0 ≤ r.2.1) (h4 : r.2.1 ≤ 4) : wtL (partsR r) + 1 = wt r.2.1 := by
  have : wtL (partsR r) = wt (r.2.1 + 1) + (wt (r.2.1 + 1) + (wt (r.2.1 + 1) + (wt (r.2.1 + 1) + 0))) := rfl
  rw [this]
  have h : r.2.1 = 0 ∨ r.2.1 = 1 ∨ r.2.1 = 2 ∨ r.2.1 = 3 ∨ r.2.1 = 4 := by omega
  rcases h with h | h | h | h | h <;> rw [h] <;> decide
/-- What is left to look at is bounded. -/
def Pot (X : List Rg) (a : Nat) : Prop := a + wtL (X.drop a) ≤ 10920
theorem pot_len {X : List Rg} {a : Nat} (h : Pot X a) : X.length ≤ 10920 := by
  unfold Pot at h
  have := wtL_len (X.drop a)
  rw [List.length_drop] at this
  omega
theorem pot_next {X Y : List Rg} {a : Nat} (h : Pot X a) (ha : a < X.length) (hy : wtL Y + 1 ≤ wt X[a].2.1) : Pot (X ++ Y) (a + 1) := by
  unfold Pot at h ⊢
  rw [List.drop_eq_getElem_cons ha] at h
  rw [List.drop_append_of_le_length (by omega), wtL_app]
  simp only [wtL, List.map_cons, List.sum_cons] at h hy ⊢
  omega
theorem pot_tops {n : Nat} (h : n ≤ 8) : Pot (topsL n) 0 := by
  have : ∀ n, n < 9 → 0 + wtL ((topsL n).drop 0) ≤ 10920 := by decide
  exact this n (by omega)
theorem pot_filter {n : Nat} (h : n ≤ 8) (p : Rg → Bool) : Pot ((topsL n).filter p) 0 := by
  have := pot_tops h
  unfold Pot at this ⊢
  rw [List.drop_zero] at this ⊢
  have := wtL_filter p (topsL n)
  omega
/-- The parts that differ of a range that differs. -/
def stepL (D : Rg → Bool) (r : Rg) : List Rg := if D r = true then (partsR r).filter D else []
/-- Only ranges that there are differ. -/
def Deep (D : Rg → Bool) : Prop := ∀ r, D r = true → 0 ≤ r.2.1 ∧ r.2.1 ≤ 5
theorem parts_lv {r x : Rg} (h : x ∈ partsR r) : x.2.1 = r.2.1 + 1 := by
  unfold partsR at h
  obtain ⟨j, _, rfl⟩ := List.mem_map.1 h
  rfl
theorem step_lv {D : Rg → Bool} {r x : Rg} (h : x ∈ stepL D r) : x.2.1 = r.2.1 + 1 ∧ D x = true := by
  unfold stepL at h
  split at h
  · obtain ⟨h1, h2⟩ := List.mem_filter.1 h
    exact ⟨parts_lv h1, h2⟩
  · cases h
theorem step_five {D : Rg → Bool} (hD : Deep D) {r : Rg} (h : r.2.1 = 5) : stepL D r = [] := by
  rw [List.eq_nil_iff_forall_not_mem]
  intro x hx
  have h1 := step_lv hx
  have h2 := hD x h1.2
  omega
theorem step_wt {D : Rg → Bool} (hD : Deep D) {r : Rg} (h : D r = true) : wtL (stepL D r) + 1 ≤ wt r.2.1 := by
  have h2 := hD r h
  by_cases h5 : r.2.1 = 5
  · rw [step_five hD h5, h5]
    decide
  · unfold stepL
    rw [if_pos h]
    have h3 := wtL_parts (r := r) (by omega) (by omega)
    have h4 := wtL_filter D (partsR r)
    omega
/-- By levels. -/
def lvF (k : Int) (r : Rg) : Bool := decide (r.2.1 = k)
def levD (D : Rg → Bool) (n : Nat) : Nat → List Rg
  | 0 => (topsL n).filter D
  | k + 1 => (levD D n k).flatMap (stepL D)
theorem tops_lv {n : Nat} {r : Rg} (h : r ∈ topsL n) : r.2.1 = 0 := by
  unfold topsL at h
  obtain ⟨j, _, rfl⟩ := List.mem_map.1 h
  rfl
theorem lev_lv {D : Rg → Bool} {n : Nat} : ∀ {k : Nat} {r : Rg}, r ∈ levD D n k → r.2.1 = (k : Int) ∧ D r = true
  | 0, r, h => by
    obtain ⟨h1, h2⟩ := List.mem_filter.1 h
    exact ⟨tops_lv h1, h2⟩
  | k + 1, r, h => by
    obtain ⟨a, h1, h2⟩ := List.mem_flatMap.1 h
    have h3 := lev_lv h1
    have h4 := step_lv h2
    exact ⟨by rw [h4.1, h3.1]; omega, h4.2⟩
theorem flatMap_if (p : Rg → Bool) (s : Rg → List Rg) : ∀ X : List Rg, X.flatMap (fun a => if p a = true then s a else []) = (X.filter p).flatMap s
  | [] => rfl
  | a :: X => by
    by_cases h : p a = true
    · rw [List.filter_cons_of_pos h, List.flatMap_cons, List.flatMap_cons, flatMap_if p s X, if_pos h]
    · rw [List.filter_cons_of_neg h, List.flatMap_cons, flatMap_if p s X, if_neg h, List.nil_append]
theorem lev_all {D : Rg → Bool} {n : Nat} {X : List Rg} (hX : X = (topsL n).filter D ++ X.flatMap (stepL D)) (hp : ∀ r ∈ X, 0 ≤ r.2.1) : ∀ k : Nat, X.filter (lvF (k : Int)) = levD D n k
  | 0 => by
    conv => lhs; rw [hX]
    rw [List.filter_append, List.filter_flatMap]
    have h1 : ((topsL n).filter D).filter (lvF ((0 : Nat) : Int)) = (topsL n).filter D := by
      rw [List.filter_eq_self]
      intro r hr
      have := tops_lv (List.mem_filter.1 hr).1
      simp [lvF, this]
    have h2 : X.flatMap (fun a => (stepL D a).filter (lvF ((0 : Nat) : Int))) = [] := by
      rw [List.flatMap_eq_nil_iff]
      intro a ha
      rw [List.filter_eq_nil_iff]
      intro x hx
      have h3 := (step_lv hx).1
      have h4 := hp a ha
      simp only [lvF, decide_eq_true_eq]
      omega
    rw [h1, h2, List.append_nil]
    rfl
  | k + 1 => by
    conv => lhs; rw [hX]
    rw [List.filter_append, List.filter_flatMap]
    have h1 : ((topsL n).filter D).filter (lvF ((k + 1 : Nat) : Int)) = [] := by
      rw [List.filter_eq_nil_iff]
      intro r hr
      have := tops_lv (List.mem_filter.1 hr).1
      simp only [lvF, decide_eq_true_eq]
      omega
    have h2 : (fun a => (stepL D a).filter (lvF ((k + 1 : Nat) : Int))) = fun a => if lvF (k : Int) a = true then stepL D a else [] := by
      funext a
      by_cases h : lvF (k : Int) a = true
      · rw [if_pos h, List.filter_eq_self]
        intro x hx
        have h3 := (step_lv hx).1
        simp only [lvF, decide_eq_true_eq] at h ⊢
        omega
      · rw [if_neg h, List.filter_eq_nil_iff]
        intro x hx
        have h3 := (step_lv hx).1
        simp only [lvF, decide_eq_true_eq] at h ⊢
        omega
    rw [h1, h2, List.nil_append, flatMap_if, lev_all hX hp k]
    rfl
/-- How many of X are above level 5. -/
theorem above_five : ∀ X : List Rg, (∀ r ∈ X, 0 ≤ r.2.1 ∧ r.2.1 ≤ 5) → (X.filter (fun r => !lvF 5 r)).length = (X.filter (lvF 0)).length + (X.filter (lvF 1)).length + (X.filter (lvF 2)).length + (X.filter (lvF 3)).length + (X.filter (lvF 4)).length
  | [], _ => rfl
  | a :: X, h => by
    have ih := above_five X (fun r hr => h r (List.mem_cons_of_mem _ hr))
    have ha := h a List.mem_cons_self
    have hk : a.2.1 = 0 ∨ a.2.1 = 1 ∨ a.2.1 = 2 ∨ a.2.1 = 3 ∨ a.2.1 = 4 ∨ a.2.1 = 5 := by omega
    rcases hk with hk | hk | hk | hk | hk | hk <;> simp [List.filter_cons, lvF, hk] <;> simp [lvF] at ih <;> omega
/-- The Keys that are found; how many ranges are asked. -/
def keyF (r : Rg) : Int × Int := (r.1, r.2.2)
def findK (D : Rg → Bool) (n : Nat) : List (Int × Int) := (levD D n 5).map keyF
def findN (D : Rg → Bool) (n : Nat) : Nat := n + 4 * ((levD D n 0).length + (levD D n 1).length + (levD D n 2).length + (levD D n 3).length + (levD D n 4).length)
theorem find_end {D : Rg → Bool} {n : Nat} {X : List Rg} (h : Bfs (stepL D) ((topsL n).filter D) X X.length) (hp : ∀ r ∈ X, 0 ≤ r.2.1 ∧ r.2.1 ≤ 5) :
    (X.filter (lvF 5)).map keyF = findK D n ∧ n + 4 * (X.filter (fun r => !lvF 5 r)).length = findN D n := by
  have hX := bfs_end h
  have hl := lev_all hX (fun r hr => (hp r hr).1)
  refine ⟨?_, ?_⟩
  · unfold findK
    rw [← hl 5]
    rfl
  · unfold findN
    rw [above_five X hp, ← hl 0, ← hl 1, ← hl 2, ← hl 3, ← hl 4]
    rfl
def wdR : Nat → Nat
  | 0 => 1
  | k + 1 => 4 * wdR k
/-- All ranges of a level. -/
def allR (n : Nat) : Nat → List Rg
  | 0 => topsL n
  | k + 1 => (allR n k).flatMap partsR
theorem mem_parts {r x : Rg} : x ∈ partsR r ↔ ∃ j : Nat, j < 4 ∧ x = (r.1, r.2.1 + 1, r.2.2 * 4 + (j : Int)) := by
  unfold partsR
  rw [List.mem_map]
  constructor
  · rintro ⟨j, hj, rfl⟩
    exact ⟨j, by simpa using hj, rfl⟩
  · rintro ⟨j, hj, rfl⟩
    exact ⟨j, by simpa using hj, rfl⟩
theorem flatMap_same {f g : Rg → List Rg} : ∀ X : List Rg, (∀ a ∈ X, f a = g a) → X.flatMap f = X.flatMap g
  | [], _ => rfl
  | a :: X, h => by rw [List.flatMap_cons, List.flatMap_cons, h a List.mem_cons_self, flatMap_same X (fun b hb => h b (List.mem_cons_of_mem _ hb))]
/-- Where no range hides what differs, all that differ are reached. -/
theorem lev_clear {D : Rg → Bool} {n : Nat} : ∀ k : Nat, (∀ j, j < k → ∀ r ∈ allR n j, D r = false → ∀ x ∈ partsR r, D x = false) → levD D n k = (allR n k).filter D
  | 0, _ => rfl
  | k + 1, h => by
    have ih := lev_clear k (fun j hj => h j (by omega))
    show (levD D n k).flatMap (stepL D) = ((allR n k).flatMap partsR).filter D
    rw [ih, List.filter_flatMap, ← flatMap_if]
    have hk := h k (by omega)
    refine flatMap_same _ (fun r hr => ?_)
    by_cases hd : D r = true
    · rw [if_pos hd]
      unfold stepL
      rw [if_pos hd]
    · rw [if_neg hd, eq_comm, List.filter_eq_nil_iff]
      intro x hx
      rw [hk r hr (by simpa using hd) x hx]
      decide
theorem mem_all {n : Nat} : ∀ {k : Nat} {x : Rg}, x ∈ allR n k ↔ ∃ o i : Nat, o < n ∧ i < wdR k ∧ x = ((o : Int), (k : Int), (i : Int))
  | 0, x => by
    unfold allR topsL
    rw [List.mem_map]
    constructor
    · rintro ⟨j, hj, rfl⟩
      exact ⟨j, 0, by simpa using hj, by decide, rfl⟩
    · rintro ⟨o, i, ho, hi, rfl⟩
      have : i = 0 := by
        have : wdR 0 = 1 := rfl
        omega
      subst this
      exact ⟨o, by simpa using ho, rfl⟩
  | k + 1, x => by
    have hw : wdR (k + 1) = 4 * wdR k := rfl
    unfold allR
    rw [List.mem_flatMap]
    constructor
    · rintro ⟨r, hr, hx⟩
      obtain ⟨o, i, ho, hi, rfl⟩ := mem_all.1 hr
      obtain ⟨j, hj, rfl⟩ := mem_parts.1 hx
      refine ⟨o, i * 4 + j, ho, by omega, ?_⟩
      simp only [Prod.mk.injEq, true_and]
      omega
    · rintro ⟨o, i, ho, hi, rfl⟩
      refine ⟨((o : Int), (k : Int), ((i / 4 : Nat) : Int)), mem_all.2 ⟨o, i / 4, ho, by omega, rfl⟩, mem_parts.2 ⟨i % 4, by omega, ?_⟩⟩
      simp only [Prod.mk.injEq, true_and]
      omega
/-- In order. -/
def ltR (x y : Rg) : Prop := x.1 < y.1 ∨ x.1 = y.1 ∧ x.2.2 < y.2.2
theorem all_rise (n : Nat) : ∀ k : Nat, (allR n k).Pairwise ltR
  | 0 => by
    unfold allR topsL
    rw [List.pairwise_map]
    refine List.Pairwise.imp ?_ (List.pairwise_lt_range (n := n))
    intro a b hab
    exact .inl (by simp only; omega)
  | k + 1 => by
    unfold allR
    rw [List.pairwise_flatMap]
    refine ⟨fun r _ => ?_, List.Pairwise.imp ?_ (all_rise n k)⟩
    · unfold partsR
      rw [List.pairwise_map]
      refine List.Pairwise.imp ?_ (List.pairwise_lt_range (n := 4))
      intro a b hab
      exact .inr ⟨rfl, by simp only [partR]; omega⟩
    · intro a b hab x hx y hy
      obtain ⟨i, hi, rfl⟩ := mem_parts.1 hx
      obtain ⟨j, hj, rfl⟩ := mem_parts.1 hy
      rcases hab with hab | ⟨h1, h2⟩
      · exact .inl hab
      · exact .inr ⟨h1, by simp only; omega⟩
/-- Where each range that differs has a part that does, no level has more than the next one. -/
theorem flat_long {s : Rg → List Rg} : ∀ X : List Rg, (∀ r ∈ X, s r ≠ []) → X.length ≤ (X.flatMap s).length
  | [], _ => Nat.le_refl _
  | r :: X, h => by
    have h1 := flat_long X (fun a ha => h a (List.mem_cons_of_mem _ ha))
    have h2 := h r List.mem_cons_self
    rw [List.flatMap_cons, List.length_append, List.length_cons]
    have : 0 < (s r).length := List.length_pos_iff.2 h2
    omega
theorem lev_long {D : Rg → Bool} {n k : Nat} (h : ∀ r, r ∈ levD D n k → ∃ x ∈ partsR r, D x = true) : (levD D n k).length ≤ (levD D n (k + 1)).length := by
  refine flat_long _ (fun r hr he => ?_)
  obtain ⟨x, hx, hd⟩ := h r hr
  have : x ∈ stepL D r := by
    unfold stepL
    rw [if_pos (lev_lv hr).2]
    exact List.mem_filter.2 ⟨hx, hd⟩
  rw [he] at this
  cases this
theorem findN_low (D : Rg → Bool) (n : Nat) : n ≤ findN D n := by unfold findN; omega
theorem findN_high {D : Rg → Bool} {n : Nat} (h : ∀ k, k < 5 → ∀ r, r ∈ levD D n k → ∃ x ∈ partsR r, D x = true) : findN D n ≤ n + 20 * (findK D n).length := by
  have h0 := lev_long (h 0 (by omega))
  have h1 := lev_long (h 1 (by omega))
  have h2 := lev_long (h 2 (by omega))
  have h3 := lev_long (h 3 (by omega))
  have h4 := lev_long (h 4 (by omega))
  simp only [Nat.zero_add, Nat.reduceAdd] at h0 h1 h2 h3 h4
  unfold findN findK
  rw [List.length_map]
  omega
theorem lev_none {D : Rg → Bool} {n k : Nat} (h : levD D n k = []) : levD D n (k + 1) = [] := by
  show (levD D n k).flatMap (stepL D) = []
  rw [h]
  rfl
theorem findN_one {D : Rg → Bool} {n : Nat} (h : ∀ k, k < 5 → ∀ r, r ∈ levD D n k → ∃ x ∈ partsR r, D x = true) (h1 : (findK D n).length = 1) : findN D n = n + 20 := by
  have hh := findN_high h
  have h5 : levD D n 5 ≠ [] := fun e => by
    unfold findK at h1
    rw [e] at h1
    cases h1
  have h4 : levD D n 4 ≠ [] := fun e => h5 (lev_none e)
  have h3 : levD D n 3 ≠ [] := fun e => h4 (lev_none e)
  have h2 : levD D n 2 ≠ [] := fun e => h3 (lev_none e)
  have h1' : levD D n 1 ≠ [] := fun e => h2 (lev_none e)
  have h0 : levD D n 0 ≠ [] := fun e => h1' (lev_none e)
  have p0 := List.length_pos_iff.2 h0
  have p1 := List.length_pos_iff.2 h1'
  have p2 := List.length_pos_iff.2 h2
  have p3 := List.length_pos_iff.2 h3
  have p4 := List.length_pos_iff.2 h4
  unfold findN at hh ⊢
  omega
theorem find_none {D : Rg → Bool} {n : Nat} (h : ∀ r, D r = false) : findK D n = [] ∧ findN D n = n := by
  have h0 : levD D n 0 = [] := by
    show (topsL n).filter D = []
    rw [List.filter_eq_nil_iff]
    intro r _
    rw [h r]
    decide
  have h1 := lev_none h0
  have h2 := lev_none h1
  have h3 := lev_none h2
  have h4 := lev_none h3
  have h5 := lev_none h4
  unfold findK findN
  rw [h0, h1, h2, h3, h4, h5]
  exact ⟨rfl, rfl⟩
end Go.Proofs.YtchkadifjbmmpaaDoor
