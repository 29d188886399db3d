/-
  Lists of places, as plain lists: what chapter 10 says of them.
-/
import Derived.WalkKit
namespace Go.Proofs.Ytgdajnjfkokmdaa
open Go.RowKit

abbrev Ky := Int × Int
def kLt (a b : Ky) : Bool := decide (a.1 < b.1) || (a.1 == b.1 && decide (a.2 < b.2))
theorem kLt_iff (a b : Ky) : kLt a b = true ↔ a.1 < b.1 ∨ a.1 = b.1 ∧ a.2 < b.2 := by simp [kLt]
theorem kLt_irrefl (a : Ky) : kLt a a = false := by simp [kLt]
theorem kLt_trans {a b c : Ky} (h : kLt a b = true) (k : kLt b c = true) : kLt a c = true := by
  rw [kLt_iff] at *
  omega
theorem kLt_tri (a b : Ky) : kLt a b = true ∨ a = b ∨ kLt b a = true := by
  obtain ⟨a1, a2⟩ := a
  obtain ⟨b1, b2⟩ := b
  rw [kLt_iff, kLt_iff, Prod.mk.injEq]
  simp only
  omega
theorem kLt_ne {a b : Ky} (h : kLt a b = true) : a ≠ b := fun e => by rw [e, kLt_irrefl] at h; cases h
theorem kLt_no {a b : Ky} (h : kLt a b = true) : kLt b a = false := by
  cases h2 : kLt b a with
  | false => rfl
  | true => exact absurd (kLt_trans h h2) (by rw [kLt_irrefl]; simp)
/-- Keys that rise, each once. -/
def Rise (l : List Ky) : Prop := l.Pairwise fun a b => kLt a b = true
theorem Rise.tail {a : Ky} {l : List Ky} (h : Rise (a :: l)) : Rise l := (List.pairwise_cons.1 h).2
theorem Rise.head {a : Ky} {l : List Ky} (h : Rise (a :: l)) : ∀ x ∈ l, kLt a x = true := (List.pairwise_cons.1 h).1
theorem Rise.filter {l : List Ky} (h : Rise l) (f : Ky → Bool) : Rise (l.filter f) := List.Pairwise.filter f h
theorem Rise.not_mem {a : Ky} {l : List Ky} (h : Rise (a :: l)) : a ∉ l := fun k => by
  have := h.head a k
  rw [kLt_irrefl] at this
  cases this
/-- Two lists that rise and have the same members are one. -/
theorem Rise.ext : ∀ {l m : List Ky}, Rise l → Rise m → (∀ a, a ∈ l ↔ a ∈ m) → l = m
  | [], [], _, _, _ => rfl
  | [], b :: m, _, _, h => by have := (h b).2 (by simp); cases this
  | a :: l, [], _, _, h => by have := (h a).1 (by simp); cases this
  | a :: l, b :: m, hl, hm, h => by
    have e : a = b := by
      rcases List.mem_cons.1 ((h a).1 (by simp)) with e | e
      · exact e
      · rcases List.mem_cons.1 ((h b).2 (by simp)) with e2 | e2
        · exact e2.symm
        · exact absurd (kLt_trans (hl.head b e2) (hm.head a e)) (by rw [kLt_irrefl]; simp)
    subst e
    refine congrArg (a :: ·) (Rise.ext hl.tail hm.tail fun x => ⟨fun hx => ?_, fun hx => ?_⟩)
    · rcases List.mem_cons.1 ((h x).1 (List.mem_cons_of_mem _ hx)) with e | e
      · rw [e] at hx; exact absurd hx hl.not_mem
      · exact e
    · rcases List.mem_cons.1 ((h x).2 (List.mem_cons_of_mem _ hx)) with e | e
      · rw [e] at hx; exact absurd hx hm.not_mem
      · exact e
theorem len_split (l : List Ky) (f : Ky → Bool) : (l.filter f).length + (l.filter fun x => !f x).length = l.length := by
  induction l with
  | nil => rfl
  | cons a l ih =>
    cases h : f a
    · rw [List.filter_cons_of_neg (by simp [h]), List.filter_cons_of_pos (by simp [h]), List.length_cons, List.length_cons]; omega
    · rw [List.filter_cons_of_pos (by simp [h]), List.filter_cons_of_neg (by simp [h]), List.length_cons, List.length_cons]; omega

/-- A key among rising ones, once. -/
def into (l : List Ky) (k : Ky) : List Ky :=
  if (l.dropWhile fun x => kLt x k).head? = some k then l else l.takeWhile (fun x => kLt x k) ++ k :: l.dropWhile fun x => kLt x k
theorem into_nil (k : Ky) : into [] k = [k] := rfl
theorem into_cons (a : Ky) (l : List Ky) (k : Ky) : into (a :: l) k = if kLt a k then a :: into l k else if a = k then a :: l else k :: a :: l := by
  unfold into
  cases h : kLt a k with
  | true =>
    simp only [List.dropWhile_cons, h, if_true, List.takeWhile_cons, List.cons_append]
    split <;> rfl
  | false =>
    simp [h]
theorem into_mem : ∀ (l : List Ky) (k x : Ky), x ∈ into l k ↔ x = k ∨ x ∈ l
  | [], k, x => by simp [into_nil]
  | a :: l, k, x => by
    rw [into_cons]
    split
    · rw [List.mem_cons, into_mem l k x, List.mem_cons]
      exact ⟨fun h => by rcases h with h | h | h <;> simp [h], fun h => by rcases h with h | h | h <;> simp [h]⟩
    · split
      · rename_i e
        subst e
        simp
      · simp
theorem into_rise : ∀ {l : List Ky} (k : Ky), Rise l → Rise (into l k)
  | [], k, _ => by rw [into_nil]; exact List.pairwise_singleton _ _
  | a :: l, k, h => by
    rw [into_cons]
    split
    · rename_i hk
      refine List.pairwise_cons.2 ⟨fun x hx => ?_, into_rise k h.tail⟩
      rcases (into_mem l k x).1 hx with rfl | hx
      · exact hk
      · exact h.head x hx
    · split
      · exact h
      · rename_i hk hne
        have h1 : kLt k a = true := by
          rcases kLt_tri a k with e | e | e
          · exact absurd e hk
          · exact absurd e hne
          · exact e
        refine List.pairwise_cons.2 ⟨fun x hx => ?_, h⟩
        rcases List.mem_cons.1 hx with rfl | hx
        · exact h1
        · exact kLt_trans h1 (h.head x hx)
theorem fold_rise (m : List Ky) : ∀ {l : List Ky}, Rise l → Rise (m.foldl into l) := by
  induction m with
  | nil => exact fun h => h
  | cons a m ih => exact fun h => ih (into_rise a h)
theorem fold_mem (m : List Ky) : ∀ (l : List Ky) (x : Ky), x ∈ m.foldl into l ↔ x ∈ l ∨ x ∈ m := by
  induction m with
  | nil => exact fun l x => by simp
  | cons a m ih =>
    intro l x
    rw [List.foldl_cons, ih, into_mem, List.mem_cons]
    exact ⟨fun h => by rcases h with (h | h) | h <;> simp [h], fun h => by rcases h with h | h | h <;> simp [h]⟩

/-- Rising numbers behind one that stands ahead. -/
def upB : Int → List Int → Bool
  | _, [] => true
  | p, a :: r => decide (p < a) && upB a r
def oneB (l : List Int) : Bool := !l.isEmpty && upB (-1) l
theorem oneB_ne {l : List Int} (h : oneB l = true) : l ≠ [] := fun e => by rw [e] at h; simp [oneB] at h
structure Po where
  k : Ky
  ns : List Int
def mayFrom : Option Ky → List Po → Bool
  | _, [] => true
  | none, x :: r => oneB x.ns && mayFrom (some x.k) r
  | some q, x :: r => oneB x.ns && (kLt q x.k && mayFrom (some x.k) r)
def mayL (l : List Po) : Bool := mayFrom none l
theorem mayFrom_iff : ∀ (l : List Po) (p : Option Ky), mayFrom p l = true ↔ (∀ x ∈ l, oneB x.ns = true) ∧ Rise (l.map Po.k) ∧ ∀ q, p = some q → ∀ x ∈ l, kLt q x.k = true
  | [], p => by simp [mayFrom, Rise]
  | x :: r, none => by
    have ih := mayFrom_iff r (some x.k)
    simp only [mayFrom, Bool.and_eq_true, ih, List.forall_mem_cons, List.map_cons]
    constructor
    · rintro ⟨h1, h2, h3, h4⟩
      refine ⟨⟨h1, h2⟩, List.pairwise_cons.2 ⟨fun k hk => ?_, h3⟩, fun q e => by cases e⟩
      obtain ⟨y, hy, rfl⟩ := List.mem_map.1 hk
      exact h4 _ rfl y hy
    · rintro ⟨⟨h1, h2⟩, h3, _⟩
      exact ⟨h1, h2, h3.tail, fun q e y hy => by cases e; exact h3.head _ (List.mem_map_of_mem hy)⟩
  | x :: r, some q => by
    have ih := mayFrom_iff r (some x.k)
    simp only [mayFrom, Bool.and_eq_true, ih, List.forall_mem_cons, List.map_cons]
    constructor
    · rintro ⟨h1, h0, h2, h3, h4⟩
      refine ⟨⟨h1, h2⟩, List.pairwise_cons.2 ⟨fun k hk => ?_, h3⟩, fun q' e => by cases e; exact ⟨h0, fun y hy => kLt_trans h0 (h4 _ rfl y hy)⟩⟩
      obtain ⟨y, hy, rfl⟩ := List.mem_map.1 hk
      exact h4 _ rfl y hy
    · rintro ⟨⟨h1, h2⟩, h3, h5⟩
      exact ⟨h1, (h5 q rfl).1, h2, h3.tail, fun q' e y hy => by cases e; exact h3.head _ (List.mem_map_of_mem hy)⟩
theorem mayL_iff (l : List Po) : mayL l = true ↔ (∀ x ∈ l, oneB x.ns = true) ∧ Rise (l.map Po.k) := by
  unfold mayL
  rw [mayFrom_iff]
  exact ⟨fun h => ⟨h.1, h.2.1⟩, fun h => ⟨h.1, h.2, fun q e => by cases e⟩⟩
def allMay (ls : List (List Po)) : Bool := ls.all mayL
def hasK (l : List Po) (k : Ky) : Bool := l.any fun p => p.k == k
theorem hasK_iff (l : List Po) (k : Ky) : hasK l k = true ↔ k ∈ l.map Po.k := by simp [hasK, List.mem_map]
/-- The Keys that all have. -/
def andK : List (List Po) → List Ky
  | [] => []
  | l :: r => if allMay (l :: r) then (l.filter fun p => (l :: r).all fun m => hasK m p.k).map Po.k else []
/-- Those that some has. -/
def orK (ls : List (List Po)) : List Ky := if allMay ls then (ls.flatten.map Po.k).foldl into [] else []
def nsOf (l : List Po) (k : Ky) : List Int := ((l.find? fun p => p.k == k).map Po.ns).getD []
/-- Does a phrase stand there? -/
def runs (ls : List (List Po)) (k : Ky) : Bool := (nsOf (ls.headD []) k).any fun a => (List.range ls.length).all fun j => (nsOf (ls.getD j []) k).contains (IntKind.i64.wrap (a + (j : Int)))
def phK (ls : List (List Po)) : List Ky := (andK ls).filter (runs ls)
def lessK (a some : List Ky) : List Ky := a.filter fun k => !some.contains k
def dropP (l : List Po) (k : Ky) : List Po := if mayL l then l.filter (fun p => !(p.k == k)) else []
def insP (l : List Po) (p : Po) : List Po := l.takeWhile (fun x => kLt x.k p.k) ++ p :: l.dropWhile fun x => kLt x.k p.k
def putP (l : List Po) (p : Po) : List Po := if mayL l then (if oneB p.ns then insP (dropP l p.k) p else l) else []

theorem andK_cons (l : List Po) (r : List (List Po)) : andK (l :: r) = if allMay (l :: r) then (l.filter fun p => (l :: r).all fun m => hasK m p.k).map Po.k else [] := rfl
theorem map_filter_sub {l : List Po} (h : Rise (l.map Po.k)) (f : Po → Bool) : Rise ((l.filter f).map Po.k) :=
  List.Pairwise.sublist (List.filter_sublist.map _) h
theorem allMay_mem {ls : List (List Po)} (h : allMay ls = true) {l : List Po} (hl : l ∈ ls) : mayL l = true := List.all_eq_true.1 h l hl
theorem andK_rise (ls : List (List Po)) : Rise (andK ls) := by
  cases ls with
  | nil => exact List.Pairwise.nil
  | cons l r =>
    rw [andK_cons]
    split
    · rename_i h
      exact map_filter_sub ((mayL_iff l).1 (allMay_mem h (by simp))).2 _
    · exact List.Pairwise.nil
theorem andK_mem {ls : List (List Po)} (h : allMay ls = true) (h0 : ls ≠ []) (k : Ky) : k ∈ andK ls ↔ ∀ l ∈ ls, k ∈ l.map Po.k := by
  cases ls with
  | nil => exact absurd rfl h0
  | cons l r =>
    rw [andK_cons, if_pos h, List.mem_map]
    constructor
    · rintro ⟨p, hp, rfl⟩ m hm
      exact (hasK_iff m p.k).1 (List.all_eq_true.1 (List.mem_filter.1 hp).2 m hm)
    · intro hk
      obtain ⟨p, hp, rfl⟩ := List.mem_map.1 (hk l (by simp))
      exact ⟨p, List.mem_filter.2 ⟨hp, List.all_eq_true.2 fun m hm => (hasK_iff m p.k).2 (hk m hm)⟩, rfl⟩
theorem orK_rise (ls : List (List Po)) : Rise (orK ls) := by
  unfold orK
  split
  · exact fold_rise _ List.Pairwise.nil
  · exact List.Pairwise.nil
theorem orK_mem {ls : List (List Po)} (h : allMay ls = true) (k : Ky) : k ∈ orK ls ↔ ∃ l ∈ ls, k ∈ l.map Po.k := by
  unfold orK
  rw [if_pos h, fold_mem]
  simp only [List.not_mem_nil, false_or, List.mem_map, List.mem_flatten]
  exact ⟨fun ⟨p, ⟨l, hl, hp⟩, e⟩ => ⟨l, hl, p, hp, e⟩, fun ⟨l, hl, p, hp, e⟩ => ⟨p, ⟨l, hl, hp⟩, e⟩⟩
theorem phK_rise (ls : List (List Po)) : Rise (phK ls) := (andK_rise ls).filter _
theorem phK_mem (ls : List (List Po)) (k : Ky) : k ∈ phK ls ↔ k ∈ andK ls ∧ runs ls k = true := List.mem_filter
theorem lessK_mem (a b : List Ky) (k : Ky) : k ∈ lessK a b ↔ k ∈ a ∧ k ∉ b := by simp [lessK]
theorem lessK_rise {a : List Ky} (h : Rise a) (b : List Ky) : Rise (lessK a b) := h.filter _
theorem lessK_nil {a b : List Ky} (h : ∀ k ∈ a, k ∈ b) : lessK a b = [] := by
  unfold lessK
  rw [List.filter_eq_nil_iff]
  intro k hk
  simpa using h k hk
theorem orK_one {l : List Po} (h : mayL l = true) : orK [l] = l.map Po.k :=
  Rise.ext (orK_rise _) ((mayL_iff l).1 h).2 (fun k => by rw [orK_mem (by simpa [allMay] using h)]; simp)
theorem len_union {x y u : List Ky} (hx : Rise x) (hy : Rise y) (hu : Rise u) (h : ∀ k, k ∈ u ↔ k ∈ x ∨ k ∈ y) : u.length = x.length + (lessK y x).length := by
  have h1 := len_split u fun k => x.contains k
  have h2 : (u.filter fun k => x.contains k) = x := Rise.ext (hu.filter _) hx (fun k => by
    rw [List.mem_filter, h]
    simp only [List.contains_iff_mem]
    exact ⟨fun q => q.2, fun q => ⟨.inl q, q⟩⟩)
  have h3 : (u.filter fun k => !x.contains k) = lessK y x := Rise.ext (hu.filter _) (lessK_rise hy x) (fun k => by
    rw [List.mem_filter, h, lessK_mem]
    simp only [Bool.not_eq_true', List.contains_eq_mem, decide_eq_false_iff_not]
    exact ⟨fun q => ⟨q.1.resolve_left q.2, q.2⟩, fun q => ⟨.inr q.1, q.2⟩⟩)
  rw [h2, h3] at h1
  omega
theorem len_meet {x y m : List Ky} (hx : Rise x) (hm : Rise m) (h : ∀ k, k ∈ m ↔ k ∈ x ∧ k ∈ y) : m.length + (lessK x y).length = x.length := by
  have h1 := len_split x fun k => y.contains k
  have h2 : (x.filter fun k => y.contains k) = m := Rise.ext (hx.filter _) hm (fun k => by rw [List.mem_filter, h, List.contains_iff_mem])
  rw [h2] at h1
  exact h1
end Go.Proofs.Ytgdajnjfkokmdaa
