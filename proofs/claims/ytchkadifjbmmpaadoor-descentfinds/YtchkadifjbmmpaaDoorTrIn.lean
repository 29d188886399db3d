/-
  A tree in memory, as its callers see it: Keys with their bytes; what the digests are by these.
-/
import Derived.Test.YtchkadifjbmmpaaDoorTrRoot
import Derived.Test.YtchkadifjbmmpaaDoorWRecGreat
namespace Go.Proofs.YtchkadifjbmmpaaDoor
open Go.RowKit Go.Lib Go.Maps
set_option maxRecDepth 100000
set_option linter.unusedSimpArgs false

/-- What has turned lies in S, or is new. -/
structure Turn (S : Nat → Prop) (w w' : World) : Prop where
  os : w'.os = w.os
  tape : w'.tape = w.tape
  output : w'.output = w.output
  size : w.heap.size ≤ w'.heap.size
  block : ∀ i, i < w.heap.size → ¬ S i → w'.heap[i]? = w.heap[i]?
theorem Turn.refl (S : Nat → Prop) (w : World) : Turn S w w := ⟨rfl, rfl, rfl, Nat.le_refl _, fun _ _ _ => rfl⟩
theorem Turn.trans {S : Nat → Prop} {a b c : World} (h : Turn S a b) (k : Turn S b c) : Turn S a c :=
  ⟨k.os.trans h.os, k.tape.trans h.tape, k.output.trans h.output, Nat.le_trans h.size k.size, fun i hi hn => (k.block i (Nat.lt_of_lt_of_le hi h.size) hn).trans (h.block i hi hn)⟩
theorem Turn.join {S S' : Nat → Prop} {a b c : World} (h : Turn S a b) (k : Turn S' b c) (hs : ∀ i, S' i → S i ∨ a.heap.size ≤ i) : Turn S a c :=
  ⟨k.os.trans h.os, k.tape.trans h.tape, k.output.trans h.output, Nat.le_trans h.size k.size, fun i hi hn => (k.block i (Nat.lt_of_lt_of_le hi h.size) (fun h' => (hs i h').elim hn (fun h2 => by omega))).trans (h.block i hi hn)⟩
theorem Turn.ofBelow {S : Nat → Prop} {a b : World} (h : Below a.heap.size a b) : Turn S a b := ⟨h.os, h.tape, h.output, h.size, fun i hi _ => h.block i hi⟩
theorem Turn.ofGrown {S : Nat → Prop} {a b : World} {r : Option Nat} (h : a.grownBy b r) (k : ∀ g, r = some g → S g) : Turn S a b := ⟨h.os, h.tape, h.output, h.size, fun i hi hn => h.block i hi (fun e => hn (k i e.symm))⟩
theorem Turn.ofTurned {S : Nat → Prop} {a b : World} {m : Nat} (h : a.mapTurned b m) (hm : S m) : Turn S a b := Turn.ofGrown h.grown (fun g e => by cases e; exact hm)
theorem Turn.below {S : Nat → Prop} {a b : World} {B : Nat} (h : Turn S a b) (hB : B ≤ a.heap.size) (hS : ∀ i, S i → B ≤ i) : Below B a b := ⟨h.os, h.tape, h.output, h.size, fun i hi => h.block i (by omega) (fun hs => by have := hS i hs; omega)⟩
theorem ownsRow_of_block {w w' : World} {B : Nat} {e : TypeId} {k : Nat} {v : Value} {n : Nat} {xs : List Value} (h : w.ownsRow B e k v n xs) (hb : ∀ g, v.ownBlock = some g → w'.heap[g]? = w.heap[g]?) : w'.ownsRow B e k v n xs := by
  refine ⟨h.1, ?_⟩
  rcases h.2 with h2 | ⟨g, cap, cur, rfl, h3, h4, h5⟩
  · exact .inl h2
  · exact .inr ⟨g, cap, cur, rfl, h3, (hb g rfl).trans h4, h5⟩
theorem row_ne_map {w : World} {kt : TypeId} {b : Nat} {m : List (Value × Value)} (h : PM Tryd.prog w kt b m) {B : Nat} {e : TypeId} {k n : Nat} {v : Value} {xs : List Value} (hr : w.ownsRow B e k v n xs) {g : Nat} (hg : v.ownBlock = some g) : g ≠ b := by
  rcases hr.2 with ⟨rfl, _⟩ | ⟨g', cap, cur, rfl, _, hh, _⟩
  · cases hg
  · simp only [Value.ownBlock, Option.some.injEq] at hg
    subst hg
    exact h.not_cells hh

abbrev Sb := List (Ky × List Int)
/-- A number's digest. -/
def leafS (S : Sb) (o n : Nat) : Int := match S.find? (fun x => decide (x.1 = ((o : Int), (n : Int)))) with
  | some x => D.fnv 14695981039346656037 x.2
  | none => 0
/-- A range's digest, by its place. -/
def treeF (S : Sb) (o a : Nat) : Int := if h : a < 341 then D.allD [treeF S o (4 * a + 1), treeF S o (4 * a + 2), treeF S o (4 * a + 3), treeF S o (4 * a + 4)] else leafS S o (a - 341)
termination_by 1365 - a
decreasing_by all_goals omega
theorem treeF_cons (S : Sb) (o : Nat) : ∀ a, a < 341 → Cons (treeF S o) a := fun a ha => by
  unfold Cons
  conv => lhs; rw [treeF]
  rw [dif_pos ha]
theorem treeF_leaf (S : Sb) (o m : Nat) : treeF S o (341 + m) = leafS S o m := by
  rw [treeF, dif_neg (by omega), Nat.add_sub_cancel_left]
theorem treeF_uniq {S : Sb} {o : Nat} {G : Nat → Int} (hC : ∀ a, a < 341 → Cons G a) (hL : ∀ m, m < 1024 → G (341 + m) = leafS S o m) : ∀ k a, 1365 - a ≤ k → a < 1365 → G a = treeF S o a
  | 0, a, hk, ha => by omega
  | k + 1, a, hk, ha => by
    by_cases h : a < 341
    · rw [hC a h, treeF_cons S o a h]
      rw [treeF_uniq hC hL k (4 * a + 1) (by omega) (by omega), treeF_uniq hC hL k (4 * a + 2) (by omega) (by omega), treeF_uniq hC hL k (4 * a + 3) (by omega) (by omega), treeF_uniq hC hL k (4 * a + 4) (by omega) (by omega)]
    · obtain ⟨m, rfl⟩ : ∃ m, a = 341 + m := ⟨a - 341, by omega⟩
      rw [hL m (by omega), treeF_leaf]
theorem treeF_same {S S' : Sb} {o : Nat} (h : ∀ m, m < 1024 → leafS S' o m = leafS S o m) (a : Nat) (ha : a < 1365) : treeF S' o a = treeF S o a :=
  (treeF_uniq (S := S) (treeF_cons S' o) (fun m hm => by rw [treeF_leaf, h m hm]) 1365 a (by omega) ha)
theorem TB.congr {w : World} {p : Nat} {mv : Option Nat} {F G : Nat → Nat → Int} (h : TB w p mv F) (he : ∀ o a, o < 8 → a < 1365 → F o a = G o a) : TB w p mv G := by
  obtain ⟨cs, h1, h2, h3, h4⟩ := h
  exact ⟨cs, h1, h2, h3, fun o a ho ha => by rw [h4 o a ho ha, he o a ho ha]⟩
theorem leaf_snoc (S : Sb) (k : Ky) (bs : List Int) (o n : Nat) (hk : k ∉ S.map Prod.fst) : leafS (S ++ [(k, bs)]) o n = if k = ((o : Int), (n : Int)) then D.fnv 14695981039346656037 bs else leafS S o n := by
  unfold leafS
  rw [List.find?_append]
  by_cases h : k = ((o : Int), (n : Int))
  · have : S.find? (fun x => decide (x.1 = ((o : Int), (n : Int)))) = none := by
      rw [List.find?_eq_none]
      intro x hx hd
      rw [decide_eq_true_eq] at hd
      exact hk (h ▸ hd ▸ List.mem_map_of_mem hx)
    rw [this, if_pos h]
    simp [h]
  · rw [if_neg h]
    have : [(k, bs)].find? (fun x => decide (x.1 = ((o : Int), (n : Int)))) = none := by simp [h]
    rw [this, Option.or_none]
/-- The digests behind set are those of one record more. -/
theorem told_put {S : Sb} {k : Ky} {bs : List Int} {o n : Nat} {F' : Nat → Nat → Int} (hk : k ∉ S.map Prod.fst) (hkn : k = ((o : Int), (n : Int))) (hn : n < 1024) (hs : SetIn (treeF S) F' o n (D.fnv 14695981039346656037 bs)) (hc : ∀ a, a < 341 → Cons (F' o) a) :
    ∀ o' a, o' < 8 → a < 1365 → F' o' a = treeF (S ++ [(k, bs)]) o' a := by
  intro o' a ho' ha
  by_cases h : o' = o
  · subst h
    refine treeF_uniq hc (fun m hm => ?_) 1365 a (by omega) ha
    rw [leaf_snoc S k bs o' m hk]
    by_cases hmn : m = n
    · subst hmn
      rw [if_pos hkn, hs.self]
    · rw [hs.leaf m hm hmn, treeF_leaf, if_neg (fun e => hmn (by rw [hkn] at e; have := congrArg Prod.snd e; simp only at this; omega))]
  · rw [hs.far o' h a]
    refine (treeF_same (fun m hm => ?_) a ha).symm
    rw [leaf_snoc S k bs o' m hk, if_neg (fun e => h (by rw [hkn] at e; have := congrArg Prod.fst e; simp only at this; omega))]
/-- A Key with its bytes, as they lie. -/
structure Kb where
  k : Ky
  v : Value
  bs : List Int
def tb (x : Kb) : Value × Value := (kyv x.k, x.v)
def kbs (x : Kb) : Ky × List Int := (x.k, x.bs)
theorem tb_fst (T : List Kb) : (T.map tb).map Prod.fst = (T.map Kb.k).map kyv := by simp [tb]
theorem kbs_fst (T : List Kb) : (T.map kbs).map Prod.fst = T.map Kb.k := by simp [kbs]
structure TrIn (w : World) (p mb : Nat) (T : List Kb) (own : Nat → Prop) : Prop where
  up : ∀ i, own i → i < w.heap.size
  op : own p
  om : own mb
  bx : TB w p (some mb) (treeF (T.map kbs))
  mp : PM Tryd.prog w 32 mb (T.map tb)
  tr : ∀ x ∈ T, R.BRow w 0 x.v x.bs
  tw : ∀ x ∈ T, ∀ g, x.v.ownBlock = some g → own g
  tk : ∀ x ∈ T, R.keyB x.k.1 x.k.2 = true
  tl : ∀ x ∈ T, 0 < x.bs.length ∧ x.bs.length ≤ 1000
def Tr (w : World) (p : Nat) (S : Sb) (own : Nat → Prop) : Prop := ∃ mb T, TrIn w p mb T own ∧ T.map kbs = S
theorem TrIn.keep {w w' : World} {p mb : Nat} {T : List Kb} {own : Nat → Prop} (h : TrIn w p mb T own) (hs : w.heap.size ≤ w'.heap.size) (hb : ∀ i, own i → w'.heap[i]? = w.heap[i]?) : TrIn w' p mb T own :=
  ⟨fun i hi => Nat.lt_of_lt_of_le (h.up i hi) hs, h.op, h.om, h.bx.of_block (hb _ h.op), h.mp.of_block (hb _ h.om), fun x hx => ownsRow_of_block (h.tr x hx) fun g hg => hb g (h.tw x hx g hg), h.tw, h.tk, h.tl⟩
theorem TrIn.below {w w' : World} {p mb : Nat} {T : List Kb} {own : Nat → Prop} (h : TrIn w p mb T own) (hb : Below w.heap.size w w') : TrIn w' p mb T own := h.keep hb.size fun i hi => hb.block i (h.up i hi)
theorem Tr.keep {w w' : World} {p : Nat} {S : Sb} {own : Nat → Prop} (h : Tr w p S own) (hs : w.heap.size ≤ w'.heap.size) (hb : ∀ i, own i → w'.heap[i]? = w.heap[i]?) : Tr w' p S own := by
  obtain ⟨mb, T, h1, h2⟩ := h
  exact ⟨mb, T, h1.keep hs hb, h2⟩
theorem Tr.below {w w' : World} {p : Nat} {S : Sb} {own : Nat → Prop} (h : Tr w p S own) (hb : Below w.heap.size w w') : Tr w' p S own := by
  obtain ⟨mb, T, h1, h2⟩ := h
  exact ⟨mb, T, h1.below hb, h2⟩
theorem Tr.up {w : World} {p : Nat} {S : Sb} {own : Nat → Prop} (h : Tr w p S own) : ∀ i, own i → i < w.heap.size := by
  obtain ⟨mb, T, h1, h2⟩ := h
  exact h1.up
theorem treeF_nil : ∀ o a, o < 8 → a < 1365 → (0 : Int) = treeF [] o a := fun o a _ ha =>
  treeF_uniq (G := fun _ => 0) (fun a _ => by unfold Cons; rfl) (fun m _ => rfl) 1365 a (by omega) ha
theorem new_c (w : World) : Calls Tryd.prog 14 #[] w fun e w' => ∃ p own, e = .returned (.pointer (some ⟨p, 0, none⟩)) ∧ Tr w' p [] own ∧ (∀ i, own i → w.heap.size ≤ i) ∧ Below w.heap.size w w' := by
  refine (newbox_c w).mono ?_
  rintro e w' ⟨rfl, h1, h2, h3, h4⟩
  refine ⟨_, fun i => w.heap.size ≤ i ∧ i < w.heap.size + 1 + 1, rfl, ⟨w.heap.size, [], ⟨fun i hi => by rw [h3]; exact hi.2, ⟨by omega, by omega⟩, ⟨by omega, by omega⟩, h2.congr treeF_nil, h1, fun x hx => (by cases hx), fun x hx => (by cases hx), fun x hx => (by cases hx), fun x hx => (by cases hx)⟩, rfl⟩, fun i hi => hi.1, h4⟩
end Go.Proofs.YtchkadifjbmmpaaDoor
