/-
  How many places there are: plain facts.
-/
import Derived.Test.YtdjlgiinekighaaGreatDoorPkIw
namespace Go.Proofs.YtdjlgiinekighaaGreatDoor
open Go.RowKit Go.Lib Go.Sort Go.Shelf Go.Maps Go.Proofs.YtdjlgiinekighaaGreatDoor.P Go.Proofs
set_option maxRecDepth 100000
set_option linter.unusedSimpArgs false

/-- All places of a list together. -/
def lens (l : List Po) : Nat := (l.map fun x => x.ns.length).sum
theorem sum_add {α : Type} (f g : α → Nat) : ∀ V : List α, (V.map fun t => f t + g t).sum = (V.map f).sum + (V.map g).sum
  | [] => rfl
  | a :: r => by simp only [List.map_cons, List.sum_cons, sum_add f g r]; omega
theorem sum_swap {α β : Type} (f : β → α → Nat) (V : List α) : ∀ K : List β, (V.map fun t => (K.map fun k => f k t).sum).sum = (K.map fun k => (V.map fun t => f k t).sum).sum
  | [] => by
    simp only [List.map_nil, List.sum_nil]
    induction V with
    | nil => rfl
    | cons a r ih => simp [ih]
  | k :: r => by
    simp only [List.map_cons, List.sum_cons]
    rw [sum_add, sum_swap f V r]
theorem sum_filter {α : Type} (f : α → Nat) (q : α → Bool) (h : ∀ a, q a = false → f a = 0) : ∀ K : List α, ((K.filter q).map f).sum = (K.map f).sum
  | [] => rfl
  | a :: r => by
    cases hq : q a with
    | true => rw [List.filter_cons_of_pos hq, List.map_cons, List.map_cons, List.sum_cons, List.sum_cons, sum_filter f q h r]
    | false => rw [List.filter_cons_of_neg (by rw [hq]; decide), List.map_cons, List.sum_cons, sum_filter f q h r, h a hq, Nat.zero_add]
theorem sum_ite {α : Type} (c : Prop) [Decidable c] (f : α → Nat) (V : List α) : (if c then (V.map f).sum else 0) = (V.map fun t => if c then f t else 0).sum := by
  split
  · rfl
  · induction V with
    | nil => rfl
    | cons a r ih => simp [← ih]
theorem lens_srt (K : List Ky) (F : Ky → List Int) : lens ((srtK (K.filter fun k => decide (F k ≠ []))).map fun k => (⟨k, F k⟩ : Po)) = (K.map fun k => (F k).length).sum := by
  unfold lens
  rw [List.map_map]
  have h1 : ((srtK (K.filter fun k => decide (F k ≠ []))).map ((fun x : Po => x.ns.length) ∘ fun k => (⟨k, F k⟩ : Po))).sum = ((K.filter fun k => decide (F k ≠ [])).map fun k => (F k).length).sum := ((srtK_perm _).map _).sum_nat
  rw [h1]
  refine sum_filter _ _ (fun a ha => ?_) K
  rw [decide_eq_false_iff_not] at ha
  rw [Classical.not_not.1 ha]
  rfl
theorem lens_lstS (S : Sx) (t : Bs) : lens (lstS S t) = ((S.map Prod.fst).map fun k => (posS S k t).length).sum := lens_srt _ _
theorem lens_lstR (S : Sx) (p : Bs) : lens (lstR S p) = ((S.map Prod.fst).map fun k => (preS S k p).length).sum := lens_srt _ _
theorem catG_sum (S : Sx) (V : List Bs) (p : Bs) (k : Ky) : (catG (posS S) V p k).length = (V.map fun t => if hasB t p = true then (posS S k t).length else 0).sum := by
  unfold catG
  rw [List.length_flatMap]
  congr 1
  refine List.map_congr_left fun t _ => ?_
  split <;> rfl
/-- What begins with p has as many places as all words that begin so. -/
theorem lens_pre (S : Sx) (V : List Bs) (p : Bs) (hn : V.Nodup) (hV : ∀ k t, posS S k t ≠ [] → t ∈ V) : (V.map fun t => if hasB t p = true then lens (lstS S t) else 0).sum = lens (lstR S p) := by
  rw [lens_lstR]
  have h1 : (V.map fun t => if hasB t p = true then lens (lstS S t) else 0) = V.map fun t => ((S.map Prod.fst).map fun k => if hasB t p = true then (posS S k t).length else 0).sum := by
    refine List.map_congr_left fun t _ => ?_
    rw [lens_lstS]
    exact sum_ite _ _ _
  rw [h1, sum_swap]
  congr 1
  refine List.map_congr_left fun k _ => ?_
  rw [← catG_sum]
  exact (catG_perm p V hn S k (hV k)).length_eq
theorem preN_nil : ∀ (ts : List Bs) (i : Nat), (preN i ts []).length = ts.length
  | [], _ => rfl
  | a :: r, i => by
    have h : hasB a [] = true := by simp [hasB]
    simp only [preN, if_pos h, List.length_cons, preN_nil r (i + 1)]
theorem pre_all : ∀ (S : Sx), (S.map Prod.fst).Nodup → ((S.map Prod.fst).map fun k => (preS S k []).length) = S.map fun x => x.2.length
  | [], _ => rfl
  | x :: r, h => by
    rw [List.map_cons, List.nodup_cons] at h
    simp only [List.map_cons]
    refine congr (congrArg List.cons ?_) ?_
    · simp only [preS, if_true]
      exact preN_nil _ _
    · rw [← pre_all r h.2]
      refine List.map_congr_left fun k hk => ?_
      have : ¬ x.1 = k := fun e => h.1 (e ▸ hk)
      simp only [preS, if_neg this]
theorem words_nodup {ws : List Bs} (h : ws.Pairwise (fun a b => a < b)) : ws.Nodup := h.imp fun {a b} hab e => by subst e; exact List.lt_irrefl _ hab
/-- All words' places together are as many as the words of all texts. -/
theorem lens_all (S : Sx) (ws : List Bs) (hS : (S.map Prod.fst).Nodup) (hw : Words S ws) : (ws.map fun t => lens (lstS S t)).sum = (S.map fun x => x.2.length).sum := by
  have h1 := lens_pre S ws [] (words_nodup hw.1) (fun k t h => (hw.2 t).2 ⟨k, h⟩)
  rw [lens_lstR, pre_all S hS] at h1
  rw [← h1]
  refine congrArg List.sum (List.map_congr_left fun t _ => ?_)
  have h : hasB t [] = true := by simp [hasB]
  rw [if_pos h]
theorem lens_one (S : Sx) (V : List Bs) (p : Bs) (hn : V.Nodup) (hV : ∀ k t, posS S k t ≠ [] → t ∈ V) (k : Ky) (t : Bs) (ht : hasB t p = true) (hk : posS S k t ≠ []) : (posS S k t).length ≤ (preS S k p).length := by
  have h1 := (catG_perm p V hn S k (hV k)).length_eq
  rw [← h1, catG_sum]
  have hm := hV k t hk
  clear h1
  induction V with
  | nil => cases hm
  | cons a r ih =>
    rw [List.map_cons, List.sum_cons]
    rw [List.nodup_cons] at hn
    by_cases ha : t = a
    · subst ha
      rw [if_pos ht]
      omega
    · have : (posS S k t).length ≤ (r.map fun t => if hasB t p = true then (posS S k t).length else 0).sum := by
        have hmr := (List.mem_cons.1 hm).resolve_left ha
        clear ih hV hm hn
        induction r with
        | nil => cases hmr
        | cons b r ih =>
          rw [List.map_cons, List.sum_cons]
          by_cases hb : t = b
          · subst hb
            rw [if_pos ht]
            omega
          · have := ih ((List.mem_cons.1 hmr).resolve_left hb)
            omega
      omega
end Go.Proofs.YtdjlgiinekighaaGreatDoor
/-
  IndexCounts, IndexPrefixes: plain facts.
-/
namespace Go.Proofs.YtdjlgiinekighaaGreatDoor
open Go.RowKit Go.Lib Go.Sort Go.Shelf Go.Maps Go.Proofs.YtdjlgiinekighaaGreatDoor.P Go.Proofs
set_option maxRecDepth 100000
set_option linter.unusedSimpArgs false

/-- All words of the texts. -/
def cntS (S : Sx) : Nat := (S.map fun x => x.2.length).sum
theorem cntS_le : ∀ {S : Sx}, Good S → cntS S ≤ 120 * S.length
  | [], _ => Nat.zero_le _
  | x :: r, h => by
    have h1 := (h x (by simp)).1
    have h2 := cntS_le (S := r) (fun y hy => h y (by simp [hy]))
    unfold cntS at h2 ⊢
    simp only [List.map_cons, List.sum_cons, List.length_cons]
    omega
theorem cntS_snoc (S : Sx) (k : Ky) (ts : List Bs) : cntS (S ++ [(k, ts)]) = cntS S + ts.length := by simp [cntS, List.sum_append]
theorem put_cases (S : Sx) (r : R.Rc) : (putC S r = 0 ∧ R.mayR r = true ∧ putS S r = S ++ [((r.o, r.s), wordsOf r.t)]) ∨ ((putC S r = 2 ∨ putC S r = 6) ∧ putS S r = S) := by
  unfold putC putS
  by_cases hm : R.mayR r = true
  · by_cases hin : (r.o, r.s) ∈ S.map Prod.fst
    · rw [if_pos hm, if_pos hin, if_neg (fun hc => hc.2 hin)]
      exact .inr ⟨.inr rfl, rfl⟩
    · rw [if_pos hm, if_neg hin, if_pos ⟨hm, hin⟩]
      exact .inl ⟨rfl, hm, rfl⟩
  · rw [if_neg hm, if_neg (fun hc => hm hc.1)]
    exact .inr ⟨.inl rfl, rfl⟩
def lensW (S : Sx) (ws : List Bs) : Nat := (ws.map fun t => lens (lstS S t)).sum
theorem lensW_next (S : Sx) (ws : List Bs) (i : Nat) (h : i < ws.length) : lensW S (ws.take (i + 1)) = lensW S (ws.take i) + lens (lstS S ws[i]) := by
  unfold lensW
  rw [List.take_succ_eq_append_getElem h, List.map_append, List.sum_append]
  simp only [List.map_cons, List.map_nil, List.sum_cons, List.sum_nil, Nat.add_zero]
theorem sum_take {α : Type} (f : α → Nat) (l : List α) (i : Nat) : ((l.take i).map f).sum ≤ (l.map f).sum := by
  conv => rhs; rw [← List.take_append_drop i l]
  rw [List.map_append, List.sum_append]
  omega
theorem lensW_le (S : Sx) (ws : List Bs) (i : Nat) : lensW S (ws.take i) ≤ lensW S ws := sum_take _ _ _
def lensT (q : List Pv) (j : Nat) : Nat := ((q.take j).map fun x => x.ns.length).sum
theorem lensT_next (q : List Pv) (j : Nat) (h : j < q.length) : lensT q (j + 1) = lensT q j + q[j].ns.length := by
  unfold lensT
  rw [List.take_succ_eq_append_getElem h, List.map_append, List.sum_append]
  simp only [List.map_cons, List.map_nil, List.sum_cons, List.sum_nil, Nat.add_zero]
theorem lens_ps (q : List Pv) : lens (ps q) = (q.map fun x => x.ns.length).sum := by
  unfold lens ps
  rw [List.map_map]
  rfl
theorem lensT_le (q : List Pv) (j : Nat) : lensT q j ≤ lens (ps q) := by
  rw [lens_ps]
  exact sum_take _ _ _
theorem lensT_all (q : List Pv) : lensT q q.length = lens (ps q) := by
  rw [lens_ps]
  unfold lensT
  rw [List.take_length]
theorem lstS_keys (S : Sx) (t : Bs) : (lstS S t).map Po.k = srtK ((S.map Prod.fst).filter fun k => decide (posS S k t ≠ [])) := by
  unfold lstS
  rw [List.map_map]
  exact List.map_id' _
theorem lstS_nd (S : Sx) (t : Bs) (h : (S.map Prod.fst).Nodup) : ((lstS S t).map Po.k).Nodup := by
  rw [lstS_keys]
  exact (srtK_perm _).nodup_iff.2 (h.filter _)
theorem keys_apart {q : List Pv} (h : ((ps q).map Po.k).Nodup) {i j : Nat} (hi : i < q.length) (hj : j < q.length) (hij : i < j) : (q[j].o == q[i].o && q[j].s == q[i].s) = false := by
  have e : ((ps q).map Po.k) = q.map fun x => (x.o, x.s) := by
    unfold ps
    rw [List.map_map]
    rfl
  rw [e] at h
  have h1 := List.pairwise_iff_getElem.1 h i j (by simpa using hi) (by simpa using hj) hij
  simp only [List.getElem_map, ne_eq, Prod.mk.injEq, not_and] at h1
  cases hb : (q[j].o == q[i].o && q[j].s == q[i].s) with
  | false => rfl
  | true =>
    simp only [Bool.and_eq_true, beq_iff_eq] at hb
    exact absurd hb.2.symm (h1 hb.1.symm)
theorem dropSs_all : ∀ (ks : List Ky) (S : Sx), (∀ k ∈ S.map Prod.fst, k ∈ ks) → dropSs S ks = []
  | [], S, h => by
    cases S with
    | nil => rfl
    | cons x r => exact absurd (h x.1 (by simp)) (by simp)
  | k :: r, S, h => by
    have : dropSs S (k :: r) = dropSs (dropS S k) r := rfl
    rw [this]
    refine dropSs_all r _ fun k' hk' => ?_
    obtain ⟨x, hx, rfl⟩ := List.mem_map.1 hk'
    obtain ⟨h1, h2⟩ := List.mem_filter.1 hx
    rw [decide_eq_true_eq] at h2
    exact (List.mem_cons.1 (h x.1 (List.mem_map_of_mem h1))).resolve_left h2
theorem words_none {ws : List Bs} (h : Words [] ws) : ws = [] := by
  cases ws with
  | nil => rfl
  | cons a r =>
    obtain ⟨k, hk⟩ := (h.2 a).1 (by simp)
    exact absurd rfl hk
def lensQ (S : Sx) (q : Bs) (ws : List Bs) : Nat := (ws.map fun t => if hasB t q = true then lens (lstS S t) else 0).sum
theorem lensQ_next (S : Sx) (q : Bs) (ws : List Bs) (i : Nat) (h : i < ws.length) : lensQ S q (ws.take (i + 1)) = lensQ S q (ws.take i) + (if hasB ws[i] q = true then lens (lstS S ws[i]) else 0) := by
  unfold lensQ
  rw [List.take_succ_eq_append_getElem h, List.map_append, List.sum_append]
  simp only [List.map_cons, List.map_nil, List.sum_cons, List.sum_nil, Nat.add_zero]
theorem lensQ_le (S : Sx) (q : Bs) (ws : List Bs) (i : Nat) : lensQ S q (ws.take i) ≤ lensQ S q ws := sum_take _ _ _
theorem lensQ_all (S : Sx) (q : Bs) (ws : List Bs) (hw : Words S ws) : lensQ S q ws = lens (lstR S q) :=
  lens_pre S ws q (words_nodup hw.1) (fun k t h => (hw.2 t).2 ⟨k, h⟩)
theorem sum_le {α : Type} (f : α → Nat) (n : Nat) (h : ∀ a, f a ≤ n) : ∀ l : List α, (l.map f).sum ≤ n * l.length
  | [] => by simp
  | a :: r => by
    have := sum_le f n h r
    have := h a
    simp only [List.map_cons, List.sum_cons, List.length_cons, Nat.mul_succ]
    omega
theorem lens_lstR_le {S : Sx} (h : Good S) (q : Bs) : lens (lstR S q) ≤ 120 * S.length := by
  rw [lens_lstR]
  have := sum_le (fun k => (preS S k q).length) 120 (fun k => preS_len S k q 120 fun x hx => (h x hx).1) (S.map Prod.fst)
  rwa [List.length_map] at this
theorem preS_nonneg (S : Sx) (k : Ky) (t : Bs) : ∀ x ∈ preS S k t, 0 ≤ x := by
  induction S with
  | nil => exact fun x hx => by cases hx
  | cons a r ih =>
    unfold preS
    split
    · intro x hx
      have := ((preN_up _ _ _).2 x hx).1
      omega
    · exact ih
theorem lstR_may (S : Sx) (t : Bs) (hS : (S.map Prod.fst).Nodup) : mayL (lstR S t) = true := by
  unfold mayL
  refine (mayFrom_iff _ _).2 ⟨fun x hx => ?_, ?_, fun q e => by cases e⟩
  · obtain ⟨k, hk, rfl⟩ := List.mem_map.1 hx
    have hk2 := (srtK_perm _).mem_iff.1 hk
    have hne := (List.mem_filter.1 hk2).2
    rw [decide_eq_true_eq] at hne
    unfold oneB
    rw [Bool.and_eq_true]
    refine ⟨by simpa using hne, upB_of (preS_up S k t) _ fun y hy => ?_⟩
    have := preS_nonneg S k t y hy
    omega
  · unfold lstR
    rw [List.map_map]
    have : ((srtK ((S.map Prod.fst).filter fun k => decide (preS S k t ≠ []))).map (Po.k ∘ fun k => (⟨k, preS S k t⟩ : Po))) = srtK ((S.map Prod.fst).filter fun k => decide (preS S k t ≠ [])) := List.map_id' _
    rw [this]
    exact srtK_rise (hS.filter _)
theorem lstR_keys (S : Sx) (t : Bs) : (lstR S t).map Po.k = srtK ((S.map Prod.fst).filter fun k => decide (preS S k t ≠ [])) := by
  unfold lstR
  rw [List.map_map]
  exact List.map_id' _
theorem lstR_nd (S : Sx) (t : Bs) (h : (S.map Prod.fst).Nodup) : ((lstR S t).map Po.k).Nodup := by
  rw [lstR_keys]
  exact (srtK_perm _).nodup_iff.2 (h.filter _)
theorem lstR_len (S : Sx) (t : Bs) : (lstR S t).length ≤ S.length := by
  unfold lstR
  rw [List.length_map, srtK_len]
  have := List.length_filter_le (fun k => decide (preS S k t ≠ [])) (S.map Prod.fst)
  rwa [List.length_map] at this
/-- Each place of a word is one of what begins so. -/
theorem place_in {S : Sx} {ws : List Bs} (hw : Words S ws) {t q : Bs} (ht : hasB t q = true) {x : Po} (hx : x ∈ lstS S t) : ∃ y ∈ lstR S q, y.k = x.k ∧ x.ns.length ≤ y.ns.length := by
  obtain ⟨k, hk, rfl⟩ := List.mem_map.1 hx
  have hk2 := List.mem_filter.1 ((srtK_perm _).mem_iff.1 hk)
  have hne := hk2.2
  rw [decide_eq_true_eq] at hne
  have h1 := lens_one S ws q (words_nodup hw.1) (fun k t h => (hw.2 t).2 ⟨k, h⟩) k t ht hne
  have h2 : preS S k q ≠ [] := fun e => by
    rw [e, List.length_nil] at h1
    exact hne (List.length_eq_zero_iff.1 (by omega))
  exact ⟨⟨k, preS S k q⟩, List.mem_map.2 ⟨k, (srtK_perm _).mem_iff.2 (List.mem_filter.2 ⟨hk2.1, by simpa using h2⟩), rfl⟩, rfl, h1⟩
/-- Where it is among the Posts as they lie: there alone. -/
theorem place_at {S : Sx} {ws : List Bs} (hS : (S.map Prod.fst).Nodup) (hw : Words S ws) {t q : Bs} (ht : hasB t q = true) {l m : List Pv} (hl : ps l = lstR S q) (hm : ps m = lstS S t) {j : Nat} (hj : j < m.length) :
    ∃ a, ∃ ha : a < l.length, m[j].ns.length ≤ l[a].ns.length ∧ ∀ i (hi : i < l.length), (l[i].o == m[j].o && l[i].s == m[j].s) = decide (i = a) := by
  have h1 : m[j].p ∈ lstS S t := by rw [← hm]; exact List.mem_map_of_mem (List.getElem_mem hj)
  obtain ⟨y, hy, hk, hn⟩ := place_in hw ht h1
  rw [← hl] at hy
  obtain ⟨z, hz, rfl⟩ := List.mem_map.1 hy
  obtain ⟨a, ha, rfl⟩ := List.mem_iff_getElem.1 hz
  refine ⟨a, ha, hn, fun i hi => ?_⟩
  have hnd := lstR_nd S q hS
  rw [← hl] at hnd
  simp only [Pv.p_k, Prod.mk.injEq] at hk
  by_cases hia : i = a
  · subst hia
    simp [hk.1, hk.2]
  · have e : ((ps l).map Po.k) = l.map fun x => (x.o, x.s) := by
      unfold ps
      rw [List.map_map]
      rfl
    rw [e] at hnd
    have h2 : (l[i].o == m[j].o && l[i].s == m[j].s) = false := by
      cases hb : (l[i].o == m[j].o && l[i].s == m[j].s) with
      | false => rfl
      | true =>
        simp only [Bool.and_eq_true, beq_iff_eq] at hb
        refine absurd ?_ hia
        refine (List.getElem_inj (i := i) (j := a) (h₀ := by simpa using hi) (h₁ := by simpa using ha) hnd).1 ?_
        simp only [List.getElem_map, Prod.mk.injEq]
        exact ⟨hb.1.trans hk.1.symm, hb.2.trans hk.2.symm⟩
    rw [h2]
    simp [hia]
theorem same_none : sameD [] [] = true := sameD_yes ⟨rfl, fun x hx => by cases hx⟩
end Go.Proofs.YtdjlgiinekighaaGreatDoor
