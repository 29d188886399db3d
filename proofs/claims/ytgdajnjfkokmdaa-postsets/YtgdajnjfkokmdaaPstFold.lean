/-
  What And and Phrase of the program reckon, as plain lists: list by list, and that it is what the chapter says.
-/
import Derived.Test.YtgdajnjfkokmdaaPstPrs
import Derived.Test.YtgdajnjfkokmdaaPstLaws
namespace Go.Proofs.Ytgdajnjfkokmdaa
open Go.RowKit

theorem prs_sub {α β : Type} (c : α → β → Int) : ∀ (l : List α) (m : List β), ((prs c l m).map Prod.fst).Sublist l
  | [], m => by rw [prs_nil]; exact List.Sublist.refl _
  | x :: l, [] => by rw [prs_nil2]; exact List.nil_sublist _
  | x :: l, y :: m => by
    rw [prs_cons]
    split
    · exact (prs_sub c l m).cons_cons x
    · split
      · exact (prs_sub c l (y :: m)).cons x
      · exact prs_sub c (x :: l) m
termination_by l m => l.length + m.length
theorem prs_all {α β κ : Type} (lt : κ → κ → Prop) (irr : ∀ a, ¬ lt a a) (tr : ∀ a b c, lt a b → lt b c → lt a c) (tri : ∀ a b, lt a b ∨ a = b ∨ lt b a) (c : α → β → Int) (f : α → κ) (g : β → κ) :
    ∀ (l : List α) (m : List β), (∀ x ∈ l, ∀ y ∈ m, c x y = 0 ↔ f x = g y) → (∀ x ∈ l, ∀ y ∈ m, c x y < 0 ↔ lt (f x) (g y)) → l.Pairwise (fun a b => lt (f a) (f b)) → m.Pairwise (fun a b => lt (g a) (g b)) →
      ∀ x ∈ l, ∀ y ∈ m, f x = g y → (x, y) ∈ prs c l m
  | [], m, _, _, _, _, x, hx, _, _, _ => by cases hx
  | x0 :: l, [], _, _, _, _, x, _, y, hy, _ => by cases hy
  | x0 :: l, y0 :: m, h0, hn, hl, hm, x, hx, y, hy, e => by
    have hl1 := List.pairwise_cons.1 hl
    have hm1 := List.pairwise_cons.1 hm
    have e0 := h0 x0 (by simp) y0 (by simp)
    have en := hn x0 (by simp) y0 (by simp)
    rw [prs_cons]
    by_cases hc : c x0 y0 = 0
    · rw [if_pos hc]
      have e1 := e0.1 hc
      rcases List.mem_cons.1 hx with rfl | hx
      · rcases List.mem_cons.1 hy with rfl | hy
        · simp
        · exact absurd (hm1.1 y hy) (by rw [← e1, ← e]; exact irr _)
      · rcases List.mem_cons.1 hy with rfl | hy
        · exact absurd (hl1.1 x hx) (by rw [e1, e]; exact irr _)
        · exact List.mem_cons_of_mem _ (prs_all lt irr tr tri c f g l m (fun a ha b hb => h0 a (List.mem_cons_of_mem _ ha) b (List.mem_cons_of_mem _ hb)) (fun a ha b hb => hn a (List.mem_cons_of_mem _ ha) b (List.mem_cons_of_mem _ hb)) hl1.2 hm1.2 x hx y hy e)
    · rw [if_neg hc]
      by_cases hl0 : c x0 y0 < 0
      · rw [if_pos hl0]
        have e1 := en.1 hl0
        rcases List.mem_cons.1 hx with rfl | hx
        · rcases List.mem_cons.1 hy with rfl | hy
          · exact absurd e1 (by rw [e]; exact irr _)
          · exact absurd (tr _ _ _ e1 (hm1.1 y hy)) (by rw [e]; exact irr _)
        · exact prs_all lt irr tr tri c f g l (y0 :: m) (fun a ha b hb => h0 a (List.mem_cons_of_mem _ ha) b hb) (fun a ha b hb => hn a (List.mem_cons_of_mem _ ha) b hb) hl1.2 hm x hx y hy e
      · rw [if_neg hl0]
        have e1 : lt (g y0) (f x0) := by
          rcases tri (f x0) (g y0) with h | h | h
          · exact absurd (en.2 h) hl0
          · exact absurd (e0.2 h) hc
          · exact h
        rcases List.mem_cons.1 hy with rfl | hy
        · rcases List.mem_cons.1 hx with rfl | hx
          · exact absurd e1 (by rw [e]; exact irr _)
          · exact absurd (tr _ _ _ e1 (hl1.1 x hx)) (by rw [e]; exact irr _)
        · exact prs_all lt irr tr tri c f g (x0 :: l) m (fun a ha b hb => h0 a ha b (List.mem_cons_of_mem _ hb)) (fun a ha b hb => hn a ha b (List.mem_cons_of_mem _ hb)) hl hm1.2 x hx y hy e
termination_by l m => l.length + m.length
theorem prs_map {α β γ δ : Type} (c : α → β → Int) (d : γ → δ → Int) (f : α → γ) (g : β → δ) (h : ∀ x y, d (f x) (g y) = c x y) : ∀ (l : List α) (m : List β), prs d (l.map f) (m.map g) = (prs c l m).map fun z => (f z.1, g z.2)
  | [], m => by rw [prs_nil]; simp [prs_nil]
  | x :: l, [] => by rw [prs_nil2]; simp [prs_nil2]
  | x :: l, y :: m => by
    have i1 := prs_map c d f g h l m
    have i2 := prs_map c d f g h l (y :: m)
    have i3 := prs_map c d f g h (x :: l) m
    rw [List.map_cons] at i2 i3
    rw [List.map_cons, List.map_cons, prs_cons, prs_cons, h]
    split
    · rw [i1]; rfl
    · split
      · exact i2
      · exact i3
termination_by l m => l.length + m.length

/-! The places that follow. -/
def cmpF (on x y : Int) : Int := cmpI x (wrap64 (y - on))
def folL (on : Int) (l m : List Int) : List Int := (prs (cmpF on) l m).map Prod.fst
theorem folL_sub (on : Int) (l m : List Int) : (folL on l m).Sublist l := prs_sub _ l m
theorem upB_pair : ∀ (l : List Int) (p : Int), upB p l = true ↔ (∀ x ∈ l, p < x) ∧ l.Pairwise (fun a b => a < b)
  | [], p => by simp [upB]
  | a :: r, p => by
    have ih := upB_pair r a
    simp only [upB, Bool.and_eq_true, decide_eq_true_eq, ih, List.forall_mem_cons, List.pairwise_cons]
    constructor
    · rintro ⟨h1, h2, h3⟩
      exact ⟨⟨h1, fun x hx => by have := h2 x hx; omega⟩, h2, h3⟩
    · rintro ⟨⟨h1, _⟩, h3, h4⟩
      exact ⟨h1, h3, h4⟩
theorem oneB_iff (l : List Int) : oneB l = true ↔ l ≠ [] ∧ (∀ x ∈ l, 0 ≤ x) ∧ l.Pairwise (fun a b => a < b) := by
  unfold oneB
  rw [Bool.and_eq_true, upB_pair]
  constructor
  · rintro ⟨h1, h2, h3⟩
    exact ⟨by intro e; rw [e] at h1; simp at h1, fun x hx => by have := h2 x hx; omega, h3⟩
  · rintro ⟨h1, h2, h3⟩
    exact ⟨by cases l with | nil => exact absurd rfl h1 | cons a b => rfl, fun x hx => by have := h2 x hx; omega, h3⟩
theorem wrap64_in {x : Int} (h : inR x) : wrap64 x = x := by
  obtain ⟨h1, h2⟩ := h
  unfold wrap64
  omega
theorem folL_mem {on : Int} {l m : List Int} (h0 : 0 ≤ on) (h1 : on ≤ 1000) (hl : l.Pairwise (fun a b => a < b)) (hm : oneB m = true) (hr : ∀ y ∈ m, inR y) (x : Int) : x ∈ folL on l m ↔ x ∈ l ∧ x + on ∈ m := by
  obtain ⟨_, hm0, hmp⟩ := (oneB_iff m).1 hm
  have hw : ∀ y ∈ m, wrap64 (y - on) = y - on := fun y hy => wrap64_in (by have h3 := hm0 y hy; have h4 := hr y hy; unfold inR at h4 ⊢; omega)
  unfold folL
  rw [List.mem_map]
  constructor
  · rintro ⟨⟨a, b⟩, hz, rfl⟩
    obtain ⟨z1, z2, z3⟩ := prs_mem _ _ _ _ hz
    simp only at z1 z2 z3 ⊢
    refine ⟨z1, ?_⟩
    rw [cmpF, hw b z2] at z3
    have := cmpI_zero.1 z3
    rw [show a + on = b by omega]
    exact z2
  · rintro ⟨hx, hy⟩
    refine ⟨(x, x + on), ?_, rfl⟩
    refine prs_all (fun a b : Int => a < b) (fun a => by omega) (fun a b c h k => by omega) (fun a b => by omega) (cmpF on) id (fun y => y - on) l m (fun a _ b hb => ?_) (fun a _ b hb => ?_) hl (hmp.imp fun h => by omega) x hx _ hy (by simp)
    · rw [cmpF, hw b hb]; exact cmpI_zero
    · rw [cmpF, hw b hb]; exact cmpI_neg

/-! List by list. -/
def cmpQ (x y : Po) : Int := cmpK x.k y.k
def keepQ (kf : List Int → List Int → List Int) (z : Po × Po) : Option Po := if (kf z.1.ns z.2.ns).isEmpty then none else some ⟨z.1.k, kf z.1.ns z.2.ns⟩
def bothQ (kf : List Int → List Int → List Int) (l m : List Po) : List Po := (prs cmpQ l m).filterMap (keepQ kf)
theorem cmpQ_zero (x y : Po) : cmpQ x y = 0 ↔ x.k = y.k := cmpK_zero
theorem cmpQ_neg (x y : Po) : cmpQ x y < 0 ↔ kLt x.k y.k = true := by
  have h : decide (cmpQ x y < 0) = kLt x.k y.k := cmpK_lt x.k y.k
  rw [← h, decide_eq_true_eq]
theorem prsQ_mem {l m : List Po} (hl : Rise (l.map Po.k)) (hm : Rise (m.map Po.k)) (x y : Po) : (x, y) ∈ prs cmpQ l m ↔ x ∈ l ∧ y ∈ m ∧ x.k = y.k := by
  constructor
  · intro h
    obtain ⟨h1, h2, h3⟩ := prs_mem _ _ _ _ h
    exact ⟨h1, h2, (cmpQ_zero _ _).1 h3⟩
  · rintro ⟨hx, hy, e⟩
    exact prs_all (fun a b : Ky => kLt a b = true) (fun a => by rw [kLt_irrefl]; simp) (fun a b c h k => kLt_trans h k) kLt_tri cmpQ Po.k Po.k l m (fun a _ b _ => cmpQ_zero a b) (fun a _ b _ => cmpQ_neg a b) (List.pairwise_map.1 hl) (List.pairwise_map.1 hm) x hx y hy e
theorem keepQ_some {kf : List Int → List Int → List Int} {z : Po × Po} {p : Po} : keepQ kf z = some p ↔ kf z.1.ns z.2.ns ≠ [] ∧ p = ⟨z.1.k, kf z.1.ns z.2.ns⟩ := by
  unfold keepQ
  cases h : kf z.1.ns z.2.ns with
  | nil => simp
  | cons a b => simp [eq_comm]
theorem bothQ_mem {kf : List Int → List Int → List Int} {l m : List Po} (hl : Rise (l.map Po.k)) (hm : Rise (m.map Po.k)) (p : Po) :
    p ∈ bothQ kf l m ↔ ∃ x ∈ l, ∃ y ∈ m, x.k = y.k ∧ kf x.ns y.ns ≠ [] ∧ p = ⟨x.k, kf x.ns y.ns⟩ := by
  unfold bothQ
  rw [List.mem_filterMap]
  constructor
  · rintro ⟨⟨x, y⟩, h1, h2⟩
    obtain ⟨h3, h4, h5⟩ := (prsQ_mem hl hm x y).1 h1
    obtain ⟨h6, h7⟩ := keepQ_some.1 h2
    exact ⟨x, h3, y, h4, h5, h6, h7⟩
  · rintro ⟨x, hx, y, hy, e, h1, h2⟩
    exact ⟨(x, y), (prsQ_mem hl hm x y).2 ⟨hx, hy, e⟩, keepQ_some.2 ⟨h1, h2⟩⟩
theorem bothQ_keys (kf : List Int → List Int → List Int) : ∀ ps : List (Po × Po), ((ps.filterMap (keepQ kf)).map Po.k).Sublist ((ps.map Prod.fst).map Po.k)
  | [] => List.Sublist.refl _
  | z :: r => by
    have ih := bothQ_keys kf r
    cases h : keepQ kf z with
    | none => rw [List.filterMap_cons_none h]; exact ih.cons _
    | some p =>
      rw [List.filterMap_cons_some h, List.map_cons, List.map_cons, List.map_cons, (keepQ_some.1 h).2]
      exact ih.cons_cons _
theorem bothQ_rise {kf : List Int → List Int → List Int} {l m : List Po} (hl : Rise (l.map Po.k)) : Rise ((bothQ kf l m).map Po.k) :=
  List.Pairwise.sublist ((bothQ_keys kf _).trans ((prs_sub cmpQ l m).map Po.k)) hl
def foldK (kf : Int → List Int → List Int → List Int) : Int → List Po → List (List Po) → List Po
  | _, left, [] => left
  | on, left, m :: r => foldK kf (on + 1) (bothQ (kf (on + 1)) left m) r
theorem foldK_and : ∀ (r : List (List Po)) (on : Int) (left : List Po), allMay r = true → Rise (left.map Po.k) → (∀ p ∈ left, p.ns ≠ []) →
    Rise ((foldK (fun _ a _ => a) on left r).map Po.k) ∧ ∀ p, p ∈ foldK (fun _ a _ => a) on left r ↔ p ∈ left ∧ ∀ m ∈ r, p.k ∈ m.map Po.k
  | [], on, left, _, hl, _ => ⟨hl, fun p => by simp [foldK]⟩
  | m :: r, on, left, hr, hl, hne => by
    simp only [allMay, List.all_cons, Bool.and_eq_true] at hr
    have hm := ((mayL_iff m).1 hr.1).2
    have hb : ∀ p, p ∈ bothQ (fun a _ => a) left m ↔ p ∈ left ∧ p.k ∈ m.map Po.k := fun p => by
      rw [bothQ_mem hl hm]
      constructor
      · rintro ⟨x, hx, y, hy, e, _, rfl⟩
        exact ⟨hx, List.mem_map.2 ⟨y, hy, e.symm⟩⟩
      · rintro ⟨hp, hk⟩
        obtain ⟨y, hy, e⟩ := List.mem_map.1 hk
        exact ⟨p, hp, y, hy, e.symm, hne p hp, rfl⟩
    obtain ⟨h1, h2⟩ := foldK_and r (on + 1) (bothQ (fun a _ => a) left m) hr.2 (bothQ_rise hl) (fun p hp => hne p ((hb p).1 hp).1)
    refine ⟨h1, fun p => ?_⟩
    show p ∈ foldK (fun _ a _ => a) (on + 1) (bothQ (fun a _ => a) left m) r ↔ _
    rw [h2, hb, List.forall_mem_cons]
    exact ⟨fun h => ⟨h.1.1, h.1.2, h.2⟩, fun h => ⟨⟨h.1, h.2.1⟩, h.2.2⟩⟩
theorem foldK_andK (l : List Po) (r : List (List Po)) (h : allMay (l :: r) = true) : (foldK (fun _ a _ => a) 0 l r).map Po.k = andK (l :: r) := by
  have h' := h
  simp only [allMay, List.all_cons, Bool.and_eq_true] at h'
  obtain ⟨h1, h2⟩ := (mayL_iff l).1 h'.1
  obtain ⟨h3, h4⟩ := foldK_and r 0 l h'.2 h2 (fun p hp => oneB_ne (h1 p hp))
  refine Rise.ext h3 (andK_rise _) (fun k => ?_)
  rw [andK_mem h (by simp), List.mem_map, List.forall_mem_cons]
  constructor
  · rintro ⟨p, hp, rfl⟩
    exact ⟨List.mem_map_of_mem ((h4 p).1 hp).1, ((h4 p).1 hp).2⟩
  · rintro ⟨hk, hr⟩
    obtain ⟨p, hp, rfl⟩ := List.mem_map.1 hk
    exact ⟨p, (h4 p).2 ⟨hp, hr⟩, rfl⟩
theorem nsOf_of {m : List Po} (hm : Rise (m.map Po.k)) {q : Po} (hq : q ∈ m) : nsOf m q.k = q.ns := by
  obtain ⟨p, hp, e, e2⟩ := nsOf_mem (List.mem_map_of_mem (f := Po.k) hq)
  rw [e2]
  have : ∀ (l : List Po), Rise (l.map Po.k) → p ∈ l → q ∈ l → p = q := by
    intro l
    induction l with
    | nil => intro _ h; cases h
    | cons a l ih =>
      intro hr h1 h2
      rcases List.mem_cons.1 h1 with rfl | h1'
      · rcases List.mem_cons.1 h2 with rfl | h2
        · rfl
        · exact absurd (hr.head _ (List.mem_map_of_mem h2)) (by rw [e, kLt_irrefl]; simp)
      · rcases List.mem_cons.1 h2 with rfl | h2
        · exact absurd (hr.head _ (List.mem_map_of_mem h1')) (by rw [e, kLt_irrefl]; simp)
        · exact ih hr.tail h1' h2
  rw [this m hm hp hq]
theorem nsOf_has {m : List Po} {k : Ky} {x : Int} (h : x ∈ nsOf m k) : k ∈ m.map Po.k := by
  unfold nsOf at h
  cases hf : m.find? fun p => p.k == k with
  | none => rw [hf] at h; simp at h
  | some p =>
    have h1 := List.mem_of_find?_eq_some hf
    have h2 := List.find?_some hf
    exact List.mem_map.2 ⟨p, h1, by simpa using h2⟩
def okL (ls : List (List Po)) : Prop := ∀ l ∈ ls, okP l
theorem foldK_ph : ∀ (r : List (List Po)) (on : Int) (left : List Po), 0 ≤ on → on + r.length ≤ 1000 → allMay r = true → okL r → Rise (left.map Po.k) → (∀ p ∈ left, oneB p.ns = true) →
    Rise ((foldK folL on left r).map Po.k) ∧ ∀ k, k ∈ (foldK folL on left r).map Po.k ↔ ∃ p ∈ left, p.k = k ∧ ∃ x ∈ p.ns, ∀ j (hj : j < r.length), x + on + 1 + (j : Int) ∈ nsOf r[j] k
  | [], on, left, _, _, _, _, hl, hne => ⟨hl, fun k => by
    rw [foldK, List.mem_map]
    constructor
    · rintro ⟨p, hp, rfl⟩
      obtain ⟨x, hx⟩ := List.exists_mem_of_ne_nil _ (oneB_ne (hne p hp))
      exact ⟨p, hp, rfl, x, hx, fun j hj => by simp at hj⟩
    · rintro ⟨p, hp, e, _⟩
      exact ⟨p, hp, e⟩⟩
  | m :: r, on, left, h0, h1, hr, hok, hl, hne => by
    simp only [allMay, List.all_cons, Bool.and_eq_true] at hr
    obtain ⟨hm1, hm⟩ := (mayL_iff m).1 hr.1
    have hokm := hok m (by simp)
    simp only [List.length_cons] at h1
    have hf : ∀ p ∈ left, ∀ q ∈ m, ∀ x, x ∈ folL (on + 1) p.ns q.ns ↔ x ∈ p.ns ∧ x + (on + 1) ∈ q.ns := fun p hp q hq x => folL_mem (by omega) (by omega) ((oneB_iff _).1 (hne p hp)).2.2 (hm1 q hq) (hokm q hq) x
    have hne2 : ∀ p ∈ bothQ (folL (on + 1)) left m, oneB p.ns = true := fun p hp => by
      obtain ⟨x, hx, y, hy, e, hne', rfl⟩ := (bothQ_mem hl hm p).1 hp
      obtain ⟨_, ha, hb⟩ := (oneB_iff _).1 (hne x hx)
      have hs := folL_sub (on + 1) x.ns y.ns
      exact (oneB_iff _).2 ⟨hne', fun z hz => ha z (hs.subset hz), List.Pairwise.sublist hs hb⟩
    obtain ⟨h3, h4⟩ := foldK_ph r (on + 1) (bothQ (folL (on + 1)) left m) (by omega) (by omega) hr.2 (fun l hl => hok l (List.mem_cons_of_mem _ hl)) (bothQ_rise hl) hne2
    refine ⟨h3, fun k => ?_⟩
    rw [foldK, h4]
    constructor
    · rintro ⟨p', hp', rfl, x, hx, hj⟩
      obtain ⟨p, hp, q, hq, e, _, rfl⟩ := (bothQ_mem hl hm p').1 hp'
      simp only at hx hj ⊢
      obtain ⟨hx1, hx2⟩ := (hf p hp q hq x).1 hx
      refine ⟨p, hp, rfl, x, hx1, fun j hjl => ?_⟩
      cases j with
      | zero =>
        show _ ∈ nsOf m p.k
        rw [e, nsOf_of hm hq, show x + on + 1 + ((0 : Nat) : Int) = x + (on + 1) by simp; omega]
        exact hx2
      | succ j =>
        have := hj j (by simpa using hjl)
        show _ ∈ nsOf (r[j]'(by simpa using hjl)) p.k
        rw [show x + on + 1 + ((j + 1 : Nat) : Int) = x + (on + 1) + 1 + (j : Int) by omega]
        exact this
    · rintro ⟨p, hp, rfl, x, hx, hj⟩
      have h5 := hj 0 (by simp)
      have h5' : x + on + 1 + ((0 : Nat) : Int) ∈ nsOf m p.k := h5
      obtain ⟨q, hq, e⟩ := List.mem_map.1 (nsOf_has h5')
      rw [← e, nsOf_of hm hq, show x + on + 1 + ((0 : Nat) : Int) = x + (on + 1) by simp; omega] at h5'
      have hxf := (hf p hp q hq x).2 ⟨hx, h5'⟩
      refine ⟨⟨p.k, folL (on + 1) p.ns q.ns⟩, (bothQ_mem hl hm _).2 ⟨p, hp, q, hq, e.symm, (fun h => by rw [h] at hxf; cases hxf), rfl⟩, rfl, x, hxf, fun j hjl => ?_⟩
      have := hj (j + 1) (by simp; omega)
      have h6 : x + on + 1 + ((j + 1 : Nat) : Int) ∈ nsOf r[j] p.k := this
      rw [show x + (on + 1) + 1 + (j : Int) = x + on + 1 + ((j + 1 : Nat) : Int) by omega]
      exact h6
theorem foldK_phK (l : List Po) (r : List (List Po)) (h : allMay (l :: r) = true) (hok : okL (l :: r)) (hn : r.length ≤ 100) : (foldK folL 0 l r).map Po.k = phK (l :: r) := by
  have h' := h
  simp only [allMay, List.all_cons, Bool.and_eq_true] at h'
  obtain ⟨h1, h2⟩ := (mayL_iff l).1 h'.1
  obtain ⟨h3, h4⟩ := foldK_ph r 0 l (by omega) (by omega) h'.2 (fun m hm => hok m (List.mem_cons_of_mem _ hm)) h2 h1
  refine Rise.ext h3 (phK_rise _) (fun k => ?_)
  rw [h4, phK_mem, runs_iff, andK_mem h (by simp)]
  have hin : ∀ (m : List Po), m ∈ l :: r → ∀ x ∈ nsOf m k, 0 ≤ x ∧ inR x := fun m hm x hx => by
    obtain ⟨q, hq, e⟩ := List.mem_map.1 (nsOf_has hx)
    have hmm := (mayL_iff m).1 (allMay_mem h hm)
    rw [← e, nsOf_of hmm.2 hq] at hx
    exact ⟨((oneB_iff _).1 (hmm.1 q hq)).2.1 x hx, hok m hm q hq x hx⟩
  have hwr : ∀ (m : List Po), m ∈ l :: r → ∀ (x : Int) (j : Nat), 0 ≤ x → inR x → j ≤ 100 → (IntKind.i64.wrap (x + (j : Int)) ∈ nsOf m k ↔ x + (j : Int) ∈ nsOf m k) := fun m hm x j hx0 hx hj => by
    by_cases hle : x + (j : Int) ≤ 9223372036854775807
    · rw [wrap_in (by unfold inR at *; omega)]
    · constructor
      · intro hw
        have := (hin m hm _ hw).1
        rw [IntKind.wrap_i64] at this
        unfold inR at hx
        omega
      · intro hw
        have := (hin m hm _ hw).2
        unfold inR at this
        omega
  constructor
  · rintro ⟨p, hp, rfl, x, hx, hj⟩
    have hx2 : x ∈ nsOf l p.k := by rw [nsOf_of h2 hp]; exact hx
    have hxi := hin l (by simp) x hx2
    refine ⟨fun m hm => ?_, x, hx2, fun j hjl => ?_⟩
    · rcases List.mem_cons.1 hm with rfl | hm
      · exact List.mem_map_of_mem hp
      · obtain ⟨j, hjl, rfl⟩ := List.getElem_of_mem hm
        exact nsOf_has (hj j hjl)
    · cases j with
      | zero =>
        show _ ∈ nsOf l p.k
        rw [show x + ((0 : Nat) : Int) = x by simp, wrap_in hxi.2]
        exact hx2
      | succ j =>
        simp only [List.length_cons] at hjl
        have e : (l :: r).getD (j + 1) [] = r[j]'(by omega) := by simp [List.getD, show j < r.length by omega]
        rw [e, hwr _ (List.mem_cons_of_mem _ (List.getElem_mem _)) x (j + 1) hxi.1 hxi.2 (by omega)]
        have := hj j (by omega)
        rw [show x + ((j + 1 : Nat) : Int) = x + 0 + 1 + (j : Int) by omega]
        exact this
  · rintro ⟨hk, x, hx, hj⟩
    have hx' : x ∈ nsOf l k := hx
    obtain ⟨p, hp, rfl⟩ := List.mem_map.1 (hk l (by simp))
    have hxi := hin l (by simp) x hx'
    refine ⟨p, hp, rfl, x, by rw [← nsOf_of h2 hp]; exact hx', fun j hjl => ?_⟩
    have h5 := hj (j + 1) (by simp; omega)
    have e : (l :: r).getD (j + 1) [] = r[j] := by simp [List.getD, hjl]
    rw [e, hwr _ (List.mem_cons_of_mem _ (List.getElem_mem _)) x (j + 1) hxi.1 hxi.2 (by omega)] at h5
    rw [show x + 0 + 1 + (j : Int) = x + ((j + 1 : Nat) : Int) by omega]
    exact h5
theorem foldK_none : ∀ (kf : Int → List Int → List Int → List Int) (on : Int) (l : List Po), foldK kf on l [] = l := fun _ _ _ => rfl
end Go.Proofs.Ytgdajnjfkokmdaa
