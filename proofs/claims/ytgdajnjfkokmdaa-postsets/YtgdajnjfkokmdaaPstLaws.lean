/-
  Lists of places, as plain lists: what the statements of layer 10 ask.
-/
import Derived.Test.YtgdajnjfkokmdaaPstMath
namespace Go.Proofs.Ytgdajnjfkokmdaa
open Go.RowKit

theorem allMay_two {a b : List Po} (ha : mayL a = true) (hb : mayL b = true) : allMay [a, b] = true := by simp [allMay, ha, hb]
theorem allMay_three {a b c : List Po} (ha : mayL a = true) (hb : mayL b = true) (hc : mayL c = true) : allMay [a, b, c] = true := by simp [allMay, ha, hb, hc]
theorem rise_of {a : List Po} (ha : mayL a = true) : Rise (a.map Po.k) := ((mayL_iff a).1 ha).2
theorem and2_mem {a b : List Po} (ha : mayL a = true) (hb : mayL b = true) (k : Ky) : k ∈ andK [a, b] ↔ k ∈ a.map Po.k ∧ k ∈ b.map Po.k := by
  rw [andK_mem (allMay_two ha hb) (by simp)]
  simp only [List.forall_mem_cons, List.not_mem_nil, false_implies, implies_true, and_true]
theorem and3_mem {a b c : List Po} (ha : mayL a = true) (hb : mayL b = true) (hc : mayL c = true) (k : Ky) : k ∈ andK [a, b, c] ↔ k ∈ a.map Po.k ∧ k ∈ b.map Po.k ∧ k ∈ c.map Po.k := by
  rw [andK_mem (allMay_three ha hb hc) (by simp)]
  simp only [List.forall_mem_cons, List.not_mem_nil, false_implies, implies_true, and_true]
theorem or2_mem {a b : List Po} (ha : mayL a = true) (hb : mayL b = true) (k : Ky) : k ∈ orK [a, b] ↔ k ∈ a.map Po.k ∨ k ∈ b.map Po.k := by
  rw [orK_mem (allMay_two ha hb)]
  simp
theorem or3_mem {a b c : List Po} (ha : mayL a = true) (hb : mayL b = true) (hc : mayL c = true) (k : Ky) : k ∈ orK [a, b, c] ↔ k ∈ a.map Po.k ∨ k ∈ b.map Po.k ∨ k ∈ c.map Po.k := by
  rw [orK_mem (allMay_three ha hb hc)]
  simp
theorem or1_mem {a : List Po} (ha : mayL a = true) (k : Ky) : k ∈ orK [a] ↔ k ∈ a.map Po.k := by rw [orK_one ha]
theorem and_comm2 {a b : List Po} (ha : mayL a = true) (hb : mayL b = true) : andK [a, b] = andK [b, a] :=
  Rise.ext (andK_rise _) (andK_rise _) (fun k => by rw [and2_mem ha hb, and2_mem hb ha]; exact And.comm)
theorem or_comm2 {a b : List Po} (ha : mayL a = true) (hb : mayL b = true) : orK [a, b] = orK [b, a] :=
  Rise.ext (orK_rise _) (orK_rise _) (fun k => by rw [or2_mem ha hb, or2_mem hb ha]; exact Or.comm)
theorem or_len1 {a : List Po} (ha : mayL a = true) : (orK [a]).length = a.length := by rw [orK_one ha, List.length_map]
/-- As many in both and in some as in each. -/
theorem sets_len {a b : List Po} (ha : mayL a = true) (hb : mayL b = true) :
    (andK [a, b]).length + (orK [a, b]).length = (orK [a]).length + (orK [b]).length ∧ (lessK (orK [a]) (orK [b])).length + (lessK (orK [b]) (orK [a])).length + (andK [a, b]).length = (orK [a, b]).length := by
  have h1 := len_union (x := orK [a]) (y := orK [b]) (u := orK [a, b]) (orK_rise _) (orK_rise _) (orK_rise _) (fun k => by rw [or2_mem ha hb, or1_mem ha, or1_mem hb])
  have h2 := len_meet (x := orK [a]) (y := orK [b]) (m := andK [a, b]) (orK_rise _) (andK_rise _) (fun k => by rw [and2_mem ha hb, or1_mem ha, or1_mem hb])
  have h3 := len_meet (x := orK [b]) (y := orK [a]) (m := andK [a, b]) (orK_rise _) (andK_rise _) (fun k => by rw [and2_mem ha hb, or1_mem ha, or1_mem hb]; exact And.comm)
  omega
theorem ph_sub (ls : List (List Po)) : lessK (phK ls) (andK ls) = [] := lessK_nil (fun k hk => ((phK_mem ls k).1 hk).1)
/-- Numbers that a machine's int holds. -/
def inR (x : Int) : Prop := -9223372036854775808 ≤ x ∧ x ≤ 9223372036854775807
theorem wrap_in {x : Int} (h : inR x) : IntKind.i64.wrap x = x := by
  obtain ⟨h1, h2⟩ := h
  rw [IntKind.wrap_i64]
  omega
theorem wrap_r (x : Int) : inR (IntKind.i64.wrap x) := by
  rw [IntKind.wrap_i64]
  unfold inR
  omega
theorem wrap_add (x y : Int) : IntKind.i64.wrap (IntKind.i64.wrap x + y) = IntKind.i64.wrap (x + y) := by
  simp only [IntKind.wrap_i64]
  omega
/-- A list of places whose numbers a machine's int holds. -/
def okP (l : List Po) : Prop := ∀ p ∈ l, ∀ x ∈ p.ns, inR x
theorem nsOf_mem {l : List Po} {k : Ky} (h : k ∈ l.map Po.k) : ∃ p ∈ l, p.k = k ∧ nsOf l k = p.ns := by
  obtain ⟨p, hp, rfl⟩ := List.mem_map.1 h
  cases hf : l.find? fun q => q.k == p.k with
  | none =>
    rw [List.find?_eq_none] at hf
    exact absurd (hf p hp) (by simp)
  | some q =>
    refine ⟨q, List.mem_of_find?_eq_some hf, ?_, by simp [nsOf, hf]⟩
    have := List.find?_some hf
    simpa using this
theorem nsOf_ok {l : List Po} (h : okP l) (k : Ky) : ∀ x ∈ nsOf l k, inR x := fun x hx => by
  unfold nsOf at hx
  cases hf : l.find? fun q => q.k == k with
  | none => rw [hf] at hx; simp at hx
  | some q =>
    rw [hf] at hx
    exact h q (List.mem_of_find?_eq_some hf) x (by simpa using hx)
theorem runs_iff (ls : List (List Po)) (k : Ky) : runs ls k = true ↔ ∃ a ∈ nsOf (ls.headD []) k, ∀ j, j < ls.length → IntKind.i64.wrap (a + (j : Int)) ∈ nsOf (ls.getD j []) k := by
  simp only [runs, List.any_eq_true, List.all_eq_true, List.mem_range, List.contains_iff_mem]
theorem ph_one {a : List Po} (ha : mayL a = true) (hr : okP a) : phK [a] = orK [a] := by
  rw [orK_one ha]
  refine Rise.ext (phK_rise _) (rise_of ha) (fun k => ?_)
  rw [phK_mem, andK_mem (by simpa [allMay] using ha) (by simp)]
  simp only [List.forall_mem_cons, List.not_mem_nil, false_implies, implies_true, and_true]
  refine ⟨fun h => h.1, fun h => ⟨h, (runs_iff _ _).2 ?_⟩⟩
  obtain ⟨p, hp, hpk, e⟩ := nsOf_mem h
  have hne := oneB_ne (((mayL_iff a).1 ha).1 p hp)
  obtain ⟨x, hx⟩ := List.exists_mem_of_ne_nil _ hne
  refine ⟨x, by simpa [e] using hx, fun j hj => ?_⟩
  have : j = 0 := by simpa using hj
  subst this
  have hw : IntKind.i64.wrap (x + ((0 : Nat) : Int)) = x := by rw [show x + ((0 : Nat) : Int) = x by simp]; exact wrap_in (hr p hp x hx)
  rw [hw]
  simpa [e] using hx
theorem ph_first {a b c : List Po} (k : Ky) (h : runs [a, b, c] k = true) : runs [a, b] k = true := by
  rw [runs_iff] at h ⊢
  obtain ⟨x, hx, h⟩ := h
  refine ⟨x, hx, fun j hj => ?_⟩
  simp only [List.length_cons, List.length_nil] at hj
  have h1 := h j (by simp; omega)
  match j, hj with
  | 0, _ => exact h1
  | 1, _ => exact h1
theorem ph_last {a b c : List Po} (k : Ky) (h : runs [a, b, c] k = true) : runs [b, c] k = true := by
  rw [runs_iff] at h ⊢
  obtain ⟨x, hx, h⟩ := h
  have h1 := h 1 (by simp)
  have h2 := h 2 (by simp)
  simp only [List.getD_cons_succ, List.getD_cons_zero] at h1 h2
  refine ⟨IntKind.i64.wrap (x + ((1 : Nat) : Int)), h1, fun j hj => ?_⟩
  simp only [List.length_cons, List.length_nil] at hj
  match j, hj with
  | 0, _ =>
    rw [wrap_add]
    simpa using h1
  | 1, _ =>
    rw [wrap_add]
    simp only [List.getD_cons_succ, List.getD_cons_zero]
    rw [show x + ((1 : Nat) : Int) + ((1 : Nat) : Int) = x + ((2 : Nat) : Int) by omega]
    exact h2
/-- Three lists. -/
theorem three_and {a b c : List Po} (ha : mayL a = true) (hb : mayL b = true) (hc : mayL c = true) :
    lessK (andK [a, b, c]) (andK [a, b]) = [] ∧ lessK (andK [a, b, c]) (andK [b, c]) = [] ∧ (andK [a, b, c]).length + (lessK (andK [a, b]) (orK [c])).length = (andK [a, b]).length := by
  refine ⟨lessK_nil fun k hk => ?_, lessK_nil fun k hk => ?_, ?_⟩
  · rw [and3_mem ha hb hc] at hk
    rw [and2_mem ha hb]
    exact ⟨hk.1, hk.2.1⟩
  · rw [and3_mem ha hb hc] at hk
    rw [and2_mem hb hc]
    exact hk.2
  · exact len_meet (andK_rise _) (andK_rise _) (fun k => by rw [and3_mem ha hb hc, and2_mem ha hb, or1_mem hc]; exact and_assoc.symm)
theorem three_or {a b c : List Po} (ha : mayL a = true) (hb : mayL b = true) (hc : mayL c = true) :
    lessK (orK [a, b]) (orK [a, b, c]) = [] ∧ lessK (orK [a, b, c]) (orK [a, b]) = lessK (orK [c]) (orK [a, b]) := by
  refine ⟨lessK_nil fun k hk => ?_, Rise.ext (lessK_rise (orK_rise _) _) (lessK_rise (orK_rise _) _) fun k => ?_⟩
  · rw [or2_mem ha hb] at hk
    rw [or3_mem ha hb hc]
    rcases hk with h | h
    · exact .inl h
    · exact .inr (.inl h)
  · rw [lessK_mem, lessK_mem, or3_mem ha hb hc, or2_mem ha hb, or1_mem hc]
    constructor
    · rintro ⟨h1 | h1 | h1, h2⟩
      · exact absurd (.inl h1) h2
      · exact absurd (.inr h1) h2
      · exact ⟨h1, h2⟩
    · rintro ⟨h1, h2⟩
      exact ⟨.inr (.inr h1), h2⟩
theorem three_ph {a b c : List Po} (ha : mayL a = true) (hb : mayL b = true) (hc : mayL c = true) :
    lessK (phK [a, b, c]) (phK [a, b]) = [] ∧ lessK (phK [a, b, c]) (phK [b, c]) = [] ∧ lessK (phK [a, b, c]) (andK [a, b, c]) = [] := by
  refine ⟨lessK_nil fun k hk => ?_, lessK_nil fun k hk => ?_, ph_sub _⟩
  · rw [phK_mem, and3_mem ha hb hc] at hk
    rw [phK_mem, and2_mem ha hb]
    exact ⟨⟨hk.1.1, hk.1.2.1⟩, ph_first k hk.2⟩
  · rw [phK_mem, and3_mem ha hb hc] at hk
    rw [phK_mem, and2_mem hb hc]
    exact ⟨hk.1.2, ph_last k hk.2⟩

/-- A Post in its place. -/
theorem mayL_filter {l : List Po} (h : mayL l = true) (f : Po → Bool) : mayL (l.filter f) = true := by
  rw [mayL_iff] at h ⊢
  exact ⟨fun x hx => h.1 x (List.mem_filter.1 hx).1, map_filter_sub h.2 f⟩
theorem dropP_eq {l : List Po} (h : mayL l = true) (k : Ky) : dropP l k = l.filter fun p => !(p.k == k) := by unfold dropP; rw [if_pos h]
theorem dropP_may (l : List Po) (k : Ky) : mayL (dropP l k) = true := by
  unfold dropP
  split
  · rename_i h
    exact mayL_filter h _
  · rfl
theorem dropP_no (l : List Po) (k : Ky) : ∀ x ∈ dropP l k, x.k ≠ k := fun x hx => by
  unfold dropP at hx
  split at hx
  · have := (List.mem_filter.1 hx).2
    simpa using this
  · cases hx
theorem drop_none {l : List Po} (k : Ky) (h : ∀ x ∈ l, x.k ≠ k) : l.filter (fun p => !(p.k == k)) = l := by
  rw [List.filter_eq_self]
  intro x hx
  simpa using h x hx
theorem insP_mem (l : List Po) (p x : Po) : x ∈ insP l p ↔ x = p ∨ x ∈ l := by
  unfold insP
  rw [List.mem_append, List.mem_cons]
  have h := List.takeWhile_append_dropWhile (p := fun x : Po => kLt x.k p.k) (l := l)
  constructor
  · rintro (h1 | h1 | h1)
    · exact .inr (h ▸ List.mem_append_left _ h1)
    · exact .inl h1
    · exact .inr (h ▸ List.mem_append_right _ h1)
  · rintro (h1 | h1)
    · exact .inr (.inl h1)
    · rw [← h] at h1
      rcases List.mem_append.1 h1 with h2 | h2
      · exact .inl h2
      · exact .inr (.inr h2)
theorem insP_cons (a : Po) (l : List Po) (p : Po) : insP (a :: l) p = if kLt a.k p.k then a :: insP l p else p :: a :: l := by
  unfold insP
  cases h : kLt a.k p.k with
  | true => simp [h]
  | false => simp [h]
theorem insP_rise : ∀ {l : List Po} (p : Po), Rise (l.map Po.k) → (∀ x ∈ l, x.k ≠ p.k) → Rise ((insP l p).map Po.k)
  | [], p, _, _ => List.pairwise_singleton _ _
  | a :: l, p, h, hn => by
    rw [insP_cons]
    have h' : Rise (a.k :: l.map Po.k) := h
    split
    · rename_i hk
      refine List.pairwise_cons.2 ⟨fun k hk2 => ?_, insP_rise p h'.tail (fun x hx => hn x (List.mem_cons_of_mem _ hx))⟩
      obtain ⟨x, hx, rfl⟩ := List.mem_map.1 hk2
      rcases (insP_mem l p x).1 hx with rfl | hx
      · exact hk
      · exact h'.head _ (List.mem_map_of_mem hx)
    · rename_i hk
      have h1 : kLt p.k a.k = true := by
        rcases kLt_tri a.k p.k with e | e | e
        · exact absurd e hk
        · exact absurd e (hn a (by simp))
        · exact e
      refine List.pairwise_cons.2 ⟨fun k hk2 => ?_, h⟩
      rcases List.mem_cons.1 hk2 with rfl | hk2
      · exact h1
      · exact kLt_trans h1 (h'.head k hk2)
theorem insP_drop (l : List Po) (p : Po) (hn : ∀ x ∈ l, x.k ≠ p.k) : (insP l p).filter (fun x => !(x.k == p.k)) = l := by
  unfold insP
  rw [List.filter_append, List.filter_cons_of_neg (by simp), ← List.filter_append, List.takeWhile_append_dropWhile]
  exact drop_none p.k hn
theorem insP_len (l : List Po) (p : Po) : (insP l p).length = l.length + 1 := by
  unfold insP
  have h := congrArg List.length (List.takeWhile_append_dropWhile (p := fun x : Po => kLt x.k p.k) (l := l))
  rw [List.length_append] at h ⊢
  rw [List.length_cons]
  omega
/-- All that PostBack asks of a list and a Post that may be. -/
theorem back_all {x : List Po} {p : Po} (hx : mayL x = true) (hp : oneB p.ns = true) :
    putP x p = insP (dropP x p.k) p ∧ mayL (putP x p) = true ∧ (putP x p).length = (dropP x p.k).length + 1 ∧ dropP (putP x p) p.k = dropP x p.k ∧ putP (putP x p) p = putP x p ∧ putP (dropP x p.k) p = putP x p ∧ (∀ y ∈ putP x p, y.k = p.k → y = p) ∧ (putP x p).countP (fun y => y.k == p.k) = 1 := by
  have hno := dropP_no x p.k
  have e : putP x p = insP (dropP x p.k) p := by unfold putP; rw [if_pos hx, if_pos hp]
  have hm : mayL (insP (dropP x p.k) p) = true := by
    rw [mayL_iff]
    refine ⟨fun y hy => ?_, insP_rise p (rise_of (dropP_may x p.k)) hno⟩
    rcases (insP_mem _ _ _).1 hy with rfl | hy
    · exact hp
    · exact ((mayL_iff _).1 (dropP_may x p.k)).1 y hy
  have hd : dropP (insP (dropP x p.k) p) p.k = dropP x p.k := by rw [dropP_eq hm, insP_drop _ _ hno]
  have hd2 : dropP (dropP x p.k) p.k = dropP x p.k := by rw [dropP_eq (dropP_may x p.k), drop_none _ hno]
  refine ⟨e, by rw [e]; exact hm, by rw [e, insP_len], by rw [e, hd], ?_, ?_, fun y hy hk => ?_, ?_⟩
  · rw [e]
    unfold putP
    rw [if_pos hm, if_pos hp, hd]
  · rw [e]
    unfold putP
    rw [if_pos (dropP_may x p.k), if_pos hp, hd2]
  · rw [e] at hy
    rcases (insP_mem _ _ _).1 hy with h | h
    · exact h
    · exact absurd hk (hno y h)
  · rw [e]
    unfold insP
    have h0 : ∀ m : List Po, (∀ y ∈ m, y ∈ dropP x p.k) → m.countP (fun y => y.k == p.k) = 0 := fun m hm' => by
      rw [List.countP_eq_zero]
      intro y hy
      simpa using hno y (hm' y hy)
    have hw := List.takeWhile_append_dropWhile (p := fun x : Po => kLt x.k p.k) (l := dropP x p.k)
    rw [List.countP_append, List.countP_cons, h0 _ (fun y hy => hw ▸ List.mem_append_left _ hy), h0 _ (fun y hy => hw ▸ List.mem_append_right _ hy)]
    simp
end Go.Proofs.Ytgdajnjfkokmdaa
