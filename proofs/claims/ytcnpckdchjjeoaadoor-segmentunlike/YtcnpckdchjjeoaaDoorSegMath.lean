/-
  Plain facts: what was laid is read again.
-/
import Derived.Test.YtcnpckdchjjeoaaDoorSegRead
import Derived.Test.YtcnpckdchjjeoaaDoorSegRefEntry
namespace Go.Proofs.YtcnpckdchjjeoaaDoor
open Go.RowKit Go.Lib
set_option maxRecDepth 100000

theorem okN_all : ∀ {l : List Int}, okN l = true → ∀ x ∈ l, 0 ≤ x ∧ x ≤ 1023
  | [], _, x, hx => by cases hx
  | y :: t, h, x, hx => by
    rw [okN] at h
    simp only [Bool.and_eq_true, decide_eq_true_eq] at h
    rcases List.mem_cons.1 hx with rfl | hx
    · exact ⟨h.1, h.2.1⟩
    · exact okN_all h.2.2 x hx
theorem mayB_nums {l : List Int} {n : Int} (h : mayB l n = true) : ∀ x ∈ l, 0 ≤ x ∧ x ≤ 1023 := by
  unfold mayB at h
  simp only [Bool.and_eq_true] at h
  exact okN_all h.2.2
theorem unV_vnum : ∀ (l t : List Int), (∀ x ∈ l, 0 ≤ x ∧ x ≤ 1023) → unV (vnum l ++ t) l.length = l
  | [], _, _ => rfl
  | x :: l, t, h => by
    have hx := h x (List.mem_cons_self ..)
    rw [List.length_cons, unV, vnum, List.append_assoc]
    have e1 : (numB x 2 ++ (vnum l ++ t)).take 2 = numB x 2 := by rw [List.take_append_of_le_length (by simp [numB_len]), List.take_of_length_le (by simp [numB_len])]
    have e2 : (numB x 2 ++ (vnum l ++ t)).drop 2 = vnum l ++ t := by rw [List.drop_append_of_le_length (by simp [numB_len]), List.drop_of_length_le (by simp [numB_len]), List.nil_append]
    rw [e1, e2, un_num x 2 hx.1 (by omega), unV_vnum l t (fun y hy => h y (List.mem_cons_of_mem _ hy))]
theorem tvT_vec (l t : List Int) (h8 : l.length ≤ 8) (h : ∀ x ∈ l, 0 ≤ x ∧ x ≤ 1023) : tvT (vecB l ++ t) = some (l, t) := by
  unfold vecB
  rw [numB_one (by omega) (by omega), List.append_assoc, List.singleton_append, tvT_cons _ _ (by simp [vnum_len]), Int.toNat_natCast, unV_vnum l t h]
  rw [List.drop_append_of_le_length (by rw [vnum_len]; omega), List.drop_of_length_le (by rw [vnum_len]; omega), List.nil_append]
theorem vnum_ok : ∀ l, OkB (vnum l)
  | [] => fun x hx => by cases hx
  | x :: t => (numB_ok _ _).append (vnum_ok t)
theorem vecB_ok (l : List Int) : OkB (vecB l) := (numB_ok _ _).append (vnum_ok l)
theorem bodyE_ok (e : En) : OkB (bodyE e) := by
  unfold bodyE
  split
  · exact (vecB_ok _).append (vecB_ok _)
  · split
    · exact layL_ok _
    · exact vecB_ok _
theorem layE_ok (e : En) : OkB (layE e) := layF_ok (bodyE_ok e)
theorem blankR_eq {r : Rc} (h : blankR r = true) : r = zeroR := (sameR_iff r zeroR).1 h
theorem unE_body {e : En} (h : someE e = true) : unE e.k (bodyE e) = some e := by
  obtain ⟨n, h⟩ := someE_may h
  obtain ⟨_, ⟨k, h1, h2, _, h4⟩ | ⟨k, h1, _, h3, h4⟩ | ⟨k, h1, h2, h3⟩⟩ := mayE_cases h
  · obtain ⟨ek, ev, ew, er⟩ := e
    simp only at k h1 h2 h4
    subst k
    obtain rfl := blankR_eq h4
    unfold unE bodyE
    simp only [if_pos]
    rw [tvT_vec ev _ (mayB_len h1).1 (mayB_nums h1)]
    simp only
    have := tvT_vec ew [] (mayB_len h2).1 (mayB_nums h2)
    rw [List.append_nil] at this
    rw [this]
    simp
  · obtain ⟨ek, ev, ew, er⟩ := e
    simp only at k h1 h3 h4
    subst k h3 h4
    rw [show bodyE (⟨2, [], [], er⟩ : En) = layL er from by simp [bodyE]]
    unfold unE
    rw [if_neg (show ¬ (2 : Int) = 1 by decide), if_pos (show (2 : Int) = 2 from rfl)]
    have hl := lay_read er [] h1
    have ha := lay_at er [] [] h1
    simp only [List.append_nil, List.nil_append] at hl ha
    obtain ⟨a1, a2, a3⟩ := ha
    rw [if_pos ⟨a1, by rw [hl.2.1, layL_len]; omega⟩, hl.1]
  · obtain ⟨ek, ev, ew, er⟩ := e
    simp only at k h1 h2 h3
    subst k h2
    obtain rfl := blankR_eq h3
    rw [show bodyE (⟨3, [], ew, zeroR⟩ : En) = vecB ew from by simp [bodyE]]
    unfold unE
    rw [if_neg (show ¬ (3 : Int) = 1 by decide), if_neg (show ¬ (3 : Int) = 2 by decide), if_pos (show (3 : Int) = 3 from rfl)]
    have := tvT_vec ew [] (mayB_len h1).1 (mayB_nums h1)
    rw [List.append_nil] at this
    rw [this]
    simp
theorem fromE_of {e : En} {n : Int} (h : mayE e n = true) : ∀ j : Nat, 1 ≤ n → n ≤ 8 → 9 - (j : Int) ≤ n → fromE e j = true
  | 0, _, h8, hj => by omega
  | j + 1, h1, h8, hj => by
    rw [fromE, Bool.or_eq_true]
    by_cases he : 9 - ((j + 1 : Nat) : Int) = n
    · rw [he]; exact .inl h
    · exact .inr (fromE_of h j h1 h8 (by omega))
theorem mayE_some {e : En} {n : Int} (h : mayE e n = true) : someE e = true := by
  obtain ⟨⟨h1, h8⟩, _⟩ := mayE_cases h
  exact fromE_of h 8 h1 h8 (by omega)
theorem layE_len (e : En) : (layE e).length = (bodyE e).length + 12 := layF_len _ _
/-- What stands at a place where an entry was laid. -/
theorem nextE_lay {e : En} (h : someE e = true) (p t : List Int) (n : Int) : nextE (p ++ (layE e ++ t)) (p.length : Int) n = if mayE e n = true then some (e, (p.length : Int) + ((layE e).length : Int)) else none := by
  obtain ⟨h1, h2⟩ := lay_next (a := p) (t := t) (bodyE_okF h)
  unfold nextE
  unfold layE
  rw [h1]
  simp only
  rw [h2, unE_body h]
  simp only
  rw [layF_len]
  rfl

/-- Entries laid one behind the other. -/
def rowsE : List En → List Int
  | [] => []
  | e :: t => layE e ++ rowsE t
theorem rowsE_app : ∀ a b : List En, rowsE (a ++ b) = rowsE a ++ rowsE b
  | [], _ => rfl
  | x :: t, b => by simp [rowsE, rowsE_app t b]
theorem rowsE_ok : ∀ l : List En, OkB (rowsE l)
  | [] => fun x hx => by cases hx
  | e :: t => (layE_ok e).append (rowsE_ok t)
/-- Nothing goes on there. -/
def stopE (l : List Int) (n : Int) (a : Nat) (c : Bool) : Prop := ∀ e E, nextE l (a : Int) n = some (e, E) → c ≠ (e.k == 1)
def goodE (n : Int) : Bool → List En → Prop
  | _, [] => True
  | c, e :: t => mayE e n = true ∧ c = (e.k == 1) ∧ goodE n false t
theorem rdE_stop {l : List Int} {n : Int} {a : Nat} {c : Bool} (h : stopE l n a c) : ∀ f, rdE l n f a c = ([], a)
  | 0 => rfl
  | f + 1 => by
    rw [rdE]
    split
    · rfl
    · rename_i e E he
      rw [if_neg (h e E he)]
theorem rdE_rows (n : Int) (t : List Int) : ∀ (es : List En) (p : List Int) (c : Bool) (f : Nat), goodE n c es → es.length < f → stopE (p ++ (rowsE es ++ t)) n (p.length + (rowsE es).length) (if es.isEmpty then c else false) →
    rdE (p ++ (rowsE es ++ t)) n f p.length c = (es, p.length + (rowsE es).length)
  | [], p, c, f, _, _, hs => by
    rw [rowsE, List.length_nil, Nat.add_zero] at hs ⊢
    exact rdE_stop hs f
  | e :: es, p, c, f, hg, hf, hs => by
    obtain ⟨h1, h2, h3⟩ := hg
    cases f with
    | zero => simp at hf
    | succ f =>
      have hsm := mayE_some h1
      have hn := nextE_lay hsm p (rowsE es ++ t) n
      rw [if_pos h1] at hn
      have el : p ++ (rowsE (e :: es) ++ t) = p ++ (layE e ++ (rowsE es ++ t)) := by rw [rowsE, List.append_assoc]
      have el2 : p ++ (layE e ++ (rowsE es ++ t)) = (p ++ layE e) ++ (rowsE es ++ t) := by rw [List.append_assoc]
      rw [el] at hs ⊢
      rw [rdE, hn]
      simp only [if_pos h2]
      have et : ((p.length : Int) + ((layE e).length : Int)).toNat = (p ++ layE e).length := by rw [List.length_append]; omega
      rw [et, el2]
      rw [el2] at hs
      have hl : p.length + (rowsE (e :: es)).length = (p ++ layE e).length + (rowsE es).length := by rw [rowsE, List.length_append, List.length_append]; omega
      rw [hl] at hs ⊢
      have ih := rdE_rows n t es (p ++ layE e) false f h3 (by simpa using hf) (by
        have e3 : (if (e :: es).isEmpty = true then c else false) = false := rfl
        rw [e3] at hs
        cases es <;> exact hs)
      rw [ih]
theorem rowsE_length : ∀ es : List En, es.length ≤ (rowsE es).length
  | [] => Nat.zero_le _
  | e :: es => by rw [rowsE, List.length_append, layE_len, List.length_cons]; have := rowsE_length es; omega
theorem readE_rows (n : Int) (es : List En) (t : List Int) (hg : goodE n true es) (hs : stopE (rowsE es ++ t) n (rowsE es).length es.isEmpty) : readE (rowsE es ++ t) n = (es, (rowsE es).length) := by
  have h := rdE_rows n t es [] true ((rowsE es ++ t).length + 1) hg (by have := rowsE_length es; rw [List.length_append]; omega) (by
    have e : (if es.isEmpty = true then true else false) = es.isEmpty := by cases es.isEmpty <;> rfl
    rw [e]
    simpa using hs)
  simpa [readE] using h
theorem stopE_none {l : List Int} {n : Int} {a : Nat} {c : Bool} (h : nxT l (a : Int) = none) : stopE l n a c := fun e E he => by
  unfold nextE at he
  rw [h] at he
  cases he
theorem nxT_end (l : List Int) : nxT l (l.length : Int) = none := by
  unfold nxT
  rw [if_pos ⟨by omega, by omega⟩, Int.toNat_natCast, List.drop_eq_nil_of_le (Nat.le_refl _)]
  rfl

theorem en_ext {d e : En} (h1 : d.k = e.k) (h2 : d.v = e.v) (h3 : d.w = e.w) (h4 : d.r = e.r) : d = e := by
  cases d
  cases e
  simp only at h1 h2 h3 h4
  subst h1 h2 h3 h4
  rfl
theorem sameE_iff (d e : En) : sameE d e = true ↔ d = e := by
  unfold sameE
  simp only [Bool.and_eq_true, beq_iff_eq]
  rw [sameB_iff, sameB_iff, sameR_iff]
  exact ⟨fun ⟨a, b, c, d⟩ => en_ext a b c d, fun h => by subst h; exact ⟨rfl, rfl, rfl, rfl⟩⟩
theorem layE_inj {d e : En} (hd : someE d = true) (he : someE e = true) : sameB (layE d) (layE e) = sameE d e := by
  unfold layE
  rw [lay_inj (bodyE_okF hd) (bodyE_okF he)]
  apply Bool.eq_iff_iff.2
  rw [sameE_iff, Bool.and_eq_true, beq_iff_eq, sameB_iff]
  constructor
  · rintro ⟨h1, h2⟩
    have h3 := unE_body hd
    rw [h1, h2, unE_body he] at h3
    exact (Option.some.inj h3).symm
  · rintro rfl
    exact ⟨rfl, rfl⟩
end Go.Proofs.YtcnpckdchjjeoaaDoor
