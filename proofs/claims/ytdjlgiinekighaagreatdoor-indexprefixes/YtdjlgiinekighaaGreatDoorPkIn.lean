/-
  An index in memory: its box, its two maps, the maps of the words, their rows; what stays of it.
-/
import Derived.Test.YtdjlgiinekighaaGreatDoorPkIm
import Derived.Test.YtdjlgiinekighaaGreatDoorPkIt
import Derived.BigRegion
import Derived.WalkKit
import Derived.WalkMore
import Derived.BigCall
import Derived.Deep.RegionHeld3
import Derived.Test.YtdjlgiinekighaaGreatDoorPkIr
namespace Go.Proofs.YtdjlgiinekighaaGreatDoor
open Go.RowKit Go.Lib Go.Sort Go.Shelf Go.Maps Go.Proofs.YtdjlgiinekighaaGreatDoor.P
set_option maxRecDepth 100000

abbrev Bs := List UInt8
def bsv (t : Bs) : Value := .string ⟨t.toArray⟩
theorem bsv_inj {a b : Bs} (h : bsv a = bsv b) : a = b := by
  simp only [bsv, Value.string.injEq, ByteArray.mk.injEq] at h
  exact Array.toList_inj.2 h |> fun e => by simpa using e
/-- A Key's words. -/
structure Tx where
  o : Int
  s : Int
  v : Value
  ts : List Bs
/-- A word, its map's block, its places. -/
structure Wn where
  t : Bs
  b : Nat
  es : List Pv
def tv (x : Tx) : Value × Value := (kyv (x.o, x.s), x.v)
def txo (x : Tx) : Ky := (x.o, x.s)
def wnv (x : Wn) : Value × Value := (bsv x.t, .map (some x.b))
theorem tv_fst (l : List Tx) : (l.map tv).map Prod.fst = (l.map txo).map kyv := by simp [tv, txo]
theorem wnv_fst (l : List Wn) : (l.map wnv).map Prod.fst = (l.map Wn.t).map bsv := by simp [wnv]
/-- The words' lists are those that F tells: of a Key and a word, its places. -/
structure Tells (L : List Wn) (F : Ky → Bs → List Int) : Prop where
  ns : ∀ x ∈ L, ∀ e ∈ x.es, e.ns = F (kyo e) x.t ∧ e.ns ≠ []
  al : ∀ k t, F k t ≠ [] → ∃ x ∈ L, x.t = t ∧ ∃ e ∈ x.es, kyo e = k
/-- No word without a place. -/
def Full (L : List Wn) : Prop := ∀ x ∈ L, x.es ≠ []
/-- No more than n of all. -/
structure Few (n : Nat) (T : List Tx) (L : List Wn) : Prop where
  t : T.length ≤ n
  l : L.length ≤ n
  e : ∀ x ∈ L, x.es.length ≤ n
  s : ∀ x ∈ L, ∀ e ∈ x.es, e.ns.length ≤ n
/-- An index in memory; between two steps of it the words' lists are F's, the texts T's. -/
structure IxL (w : World) (p bt bl : Nat) (T : List Tx) (L : List Wn) (own : Nat → Prop) : Prop where
  up : ∀ i, own i → i < w.heap.size
  op : own p
  ot : own bt
  ol : own bl
  hd : Bx 72 w p #[.map (some bt), .map (some bl)]
  tm : PM Tryz.prog w 31 bt (T.map tv)
  tr : ∀ x ∈ T, Go.Proofs.YtdjlgiinekighaaGreatDoor.T.WordsAt w 0 x.v x.ts
  tw : ∀ x ∈ T, ∀ g, x.v.ownBlock = some g → own g
  tk : ∀ x ∈ T, okKy (txo x)
  lm : PM Tryz.prog w 9 bl (L.map wnv)
  lt : ∀ x ∈ L, x.t.length ≤ 1000
  lo : ∀ x ∈ L, own x.b
  lp : ∀ x ∈ L, PM Tryz.prog w 31 x.b (x.es.map kv)
  lr : ∀ x ∈ L, ∀ e ∈ x.es, Row w 0 e.a e.ns
  lw : ∀ x ∈ L, ∀ e ∈ x.es, ∀ g, e.a.ownBlock = some g → own g
  lk : ∀ x ∈ L, ∀ e ∈ x.es, okKy (kyo e)
  nb : (bt :: bl :: L.map Wn.b).Nodup
  nr : ((L.flatMap Wn.es).map Pv.a).Pairwise apart
/-- What has turned lies in S, or is new. -/
structure Turn (S : Nat → Prop) (w w' : World) : Prop where
  os : w'.os = w.os
  tape : w'.tape = w.tape
  output : w'.output = w.output
  size : w.heap.size ≤ w'.heap.size
  block : ∀ i, i < w.heap.size → ¬ S i → w'.heap[i]? = w.heap[i]?
theorem Turn.refl (S : Nat → Prop) (w : World) : Turn S w w := ⟨rfl, rfl, rfl, Nat.le_refl _, fun _ _ _ => rfl⟩
theorem Turn.trans {S : Nat → Prop} {a b c : World} (h : Turn S a b) (k : Turn S b c) : Turn S a c :=
  ⟨k.os.trans h.os, k.tape.trans h.tape, k.output.trans h.output, Nat.le_trans h.size k.size, fun i hi hn => (k.block i (Nat.lt_of_lt_of_le hi h.size) hn).trans (h.block i hi hn)⟩
theorem Turn.wide {S S' : Nat → Prop} {a b : World} (h : Turn S a b) (k : ∀ i, i < a.heap.size → S i → S' i) : Turn S' a b := ⟨h.os, h.tape, h.output, h.size, fun i hi hn => h.block i hi (fun hs => hn (k i hi hs))⟩
theorem Turn.ofBelow {S : Nat → Prop} {a b : World} (h : Below a.heap.size a b) : Turn S a b := ⟨h.os, h.tape, h.output, h.size, fun i hi _ => h.block i hi⟩
theorem Turn.ofGrown {S : Nat → Prop} {a b : World} {r : Option Nat} (h : a.grownBy b r) (k : ∀ g, r = some g → S g) : Turn S a b := ⟨h.os, h.tape, h.output, h.size, fun i hi hn => h.block i hi (fun e => hn (k i e.symm))⟩
theorem Turn.drewN {S : Nat → Prop} {a w : World} (h : Turn S a w) (n : Nat) : Turn S a (w.drewN n) := ⟨h.os, h.tape, h.output, h.size, h.block⟩
theorem Turn.below {S : Nat → Prop} {a b : World} {B : Nat} (h : Turn S a b) (hB : B ≤ a.heap.size) (hS : ∀ i, S i → B ≤ i) : Below B a b := ⟨h.os, h.tape, h.output, h.size, fun i hi => h.block i (by omega) (fun hs => by have := hS i hs; omega)⟩
theorem ownsRow_of_block {w w' : World} {B : Nat} {e : TypeId} {k : Nat} {v : Value} {n : Nat} {xs : List Value} (h : w.ownsRow B e k v n xs) (hb : ∀ g, v.ownBlock = some g → w'.heap[g]? = w.heap[g]?) : w'.ownsRow B e k v n xs := by
  refine ⟨h.1, ?_⟩
  rcases h.2 with h2 | ⟨g, cap, cur, rfl, h3, h4, h5⟩
  · exact .inl h2
  · exact .inr ⟨g, cap, cur, rfl, h3, (hb g rfl).trans h4, h5⟩
theorem IxL.keep {w w' : World} {p bt bl : Nat} {T : List Tx} {L : List Wn} {own : Nat → Prop} (h : IxL w p bt bl T L own) (hs : w.heap.size ≤ w'.heap.size) (hb : ∀ i, own i → w'.heap[i]? = w.heap[i]?) : IxL w' p bt bl T L own :=
  { h with
    up := fun i hi => Nat.lt_of_lt_of_le (h.up i hi) hs
    hd := (hb _ h.op).trans h.hd
    tm := h.tm.of_block (hb _ h.ot)
    tr := fun x hx => ownsRow_of_block (h.tr x hx) fun g hg => hb g (h.tw x hx g hg)
    lm := h.lm.of_block (hb _ h.ol)
    lp := fun x hx => (h.lp x hx).of_block (hb _ (h.lo x hx))
    lr := fun x hx e he => ownsRow_of_block (h.lr x hx e he) fun g hg => hb g (h.lw x hx e he g hg) }
theorem IxL.below {w w' : World} {p bt bl : Nat} {T : List Tx} {L : List Wn} {own : Nat → Prop} (h : IxL w p bt bl T L own) (hb : Below w.heap.size w w') : IxL w' p bt bl T L own := h.keep hb.size fun i hi => hb.block i (h.up i hi)
end Go.Proofs.YtdjlgiinekighaaGreatDoor
/-
  What a place more, and a Key's places less, makes of the words' lists.
-/
namespace Go.Proofs.YtdjlgiinekighaaGreatDoor
open Go.RowKit Go.Lib Go.Sort Go.Shelf Go.Maps Go.Proofs.YtdjlgiinekighaaGreatDoor.P

def addF (F : Ky → Bs → List Int) (k : Ky) (t : Bs) (i : Int) : Ky → Bs → List Int := fun k' t' => if k' = k ∧ t' = t then F k t ++ [i] else F k' t'
def delF (F : Ky → Bs → List Int) (k : Ky) (t : Bs) : Ky → Bs → List Int := fun k' t' => if k' = k ∧ t' = t then [] else F k' t'
theorem addF_at (F : Ky → Bs → List Int) (k : Ky) (t : Bs) (i : Int) : addF F k t i k t = F k t ++ [i] := if_pos ⟨rfl, rfl⟩
theorem addF_no {F : Ky → Bs → List Int} {k k' : Ky} {t t' : Bs} {i : Int} (h : ¬ (k' = k ∧ t' = t)) : addF F k t i k' t' = F k' t' := if_neg h
theorem delF_at (F : Ky → Bs → List Int) (k : Ky) (t : Bs) : delF F k t k t = [] := if_pos ⟨rfl, rfl⟩
theorem delF_no {F : Ky → Bs → List Int} {k k' : Ky} {t t' : Bs} (h : ¬ (k' = k ∧ t' = t)) : delF F k t k' t' = F k' t' := if_neg h
theorem mem_mid {α : Type} {pre post : List α} {x y : α} : y ∈ pre ++ x :: post ↔ y = x ∨ y ∈ pre ++ post := by
  simp only [List.mem_append, List.mem_cons]
  constructor
  · rintro (h | h | h)
    · exact .inr (.inl h)
    · exact .inl h
    · exact .inr (.inr h)
  · rintro (h | h | h)
    · exact .inr (.inl h)
    · exact .inl h
    · exact .inr (.inr h)
/-- The words of an index stand once each. -/
theorem IxL.ws {w : World} {p bt bl : Nat} {T : List Tx} {L : List Wn} {own : Nat → Prop} (h : IxL w p bt bl T L own) : (L.map Wn.t).Nodup := by
  have := h.lm.nd
  rw [wnv_fst] at this
  exact List.Pairwise.of_map bsv (fun a b h e => h (by rw [e])) this
theorem IxL.ks {w : World} {p bt bl : Nat} {T : List Tx} {L : List Wn} {own : Nat → Prop} (h : IxL w p bt bl T L own) {x : Wn} (hx : x ∈ L) : (x.es.map kyo).Nodup := by
  have := (h.lp x hx).nd
  rw [kv_fst] at this
  exact List.Pairwise.of_map kyv (fun a b h e => h (by rw [e])) this
theorem words_mid {pre post : List Wn} {x : Wn} (h : ((pre ++ x :: post).map Wn.t).Nodup) : ∀ y ∈ pre ++ post, y.t ≠ x.t := fun y hy e => by
  rw [List.map_append, List.map_cons, List.nodup_append, List.nodup_cons] at h
  obtain ⟨_, ⟨h2, _⟩, h4⟩ := h
  rcases List.mem_append.1 hy with hy | hy
  · exact h4 _ (List.mem_map_of_mem hy) _ (List.mem_cons_self ..) e
  · exact h2 (e ▸ List.mem_map_of_mem hy)
theorem keys_mid {pre post : List Pv} {x : Pv} (h : ((pre ++ x :: post).map kyo).Nodup) : ∀ y ∈ pre ++ post, kyo y ≠ kyo x := fun y hy e => by
  rw [List.map_append, List.map_cons, List.nodup_append, List.nodup_cons] at h
  obtain ⟨_, ⟨h2, _⟩, h4⟩ := h
  rcases List.mem_append.1 hy with hy | hy
  · exact h4 _ (List.mem_map_of_mem hy) _ (List.mem_cons_self ..) e
  · exact h2 (e ▸ List.mem_map_of_mem hy)
/-- A first place of a Key at a word. -/
theorem Tells.new {pre post : List Wn} {x : Wn} {F : Ky → Bs → List Int} {k : Ky} {i : Int} {v : Value} (h : Tells (pre ++ x :: post) F) (hw : ((pre ++ x :: post).map Wn.t).Nodup) (hn : k ∉ x.es.map kyo) :
    Tells (pre ++ { x with es := x.es ++ [⟨k.1, k.2, v, [i]⟩] } :: post) (addF F k x.t i) := by
  have hF : F k x.t = [] := by
    cases hh : F k x.t with
    | nil => rfl
    | cons a r =>
      obtain ⟨y, hy, e, z, hz, ez⟩ := h.al k x.t (by rw [hh]; simp)
      rcases mem_mid.1 hy with rfl | hy
      · exact absurd (List.mem_map.2 ⟨z, hz, ez⟩) hn
      · exact absurd e (words_mid hw y hy)
  refine ⟨fun y hy e he => ?_, fun k' t' hne => ?_⟩
  · rcases mem_mid.1 hy with rfl | hy
    · simp only at he ⊢
      rcases List.mem_append.1 he with he | he
      · have hk : kyo e ≠ k := fun e2 => hn (e2 ▸ List.mem_map_of_mem he)
        rw [addF_no (fun h => hk h.1)]
        exact h.ns x (mem_mid.2 (.inl rfl)) e he
      · simp only [List.mem_singleton] at he
        subst he
        have e1 : kyo ⟨k.1, k.2, v, [i]⟩ = k := rfl
        rw [e1, addF_at, hF]
        simp
    · rw [addF_no (fun h => words_mid hw y hy h.2)]
      exact h.ns y (mem_mid.2 (.inr hy)) e he
  · by_cases hc : k' = k ∧ t' = x.t
    · obtain ⟨rfl, rfl⟩ := hc
      exact ⟨_, mem_mid.2 (.inl rfl), rfl, ⟨k'.1, k'.2, v, [i]⟩, by simp, rfl⟩
    · rw [addF_no hc] at hne
      obtain ⟨y, hy, e, z, hz, ez⟩ := h.al k' t' hne
      rcases mem_mid.1 hy with rfl | hy
      · exact ⟨_, mem_mid.2 (.inl rfl), e, z, List.mem_append.2 (.inl hz), ez⟩
      · exact ⟨y, mem_mid.2 (.inr hy), e, z, hz, ez⟩
/-- One place more of a Key at a word. -/
theorem Tells.more {pre post : List Wn} {t : Bs} {b : Nat} {pe qe : List Pv} {e0 : Pv} {F : Ky → Bs → List Int} {i : Int} {v : Value} (h : Tells (pre ++ ⟨t, b, pe ++ e0 :: qe⟩ :: post) F) (hw : ((pre ++ ⟨t, b, pe ++ e0 :: qe⟩ :: post).map Wn.t).Nodup) (hk : ((pe ++ e0 :: qe).map kyo).Nodup) :
    Tells (pre ++ ⟨t, b, pe ++ ⟨e0.o, e0.s, v, e0.ns ++ [i]⟩ :: qe⟩ :: post) (addF F (kyo e0) t i) := by
  have hF := (h.ns _ (mem_mid.2 (.inl rfl)) e0 (mem_mid.2 (.inl rfl))).1
  simp only at hF
  refine ⟨fun y hy e he => ?_, fun k' t' hne => ?_⟩
  · rcases mem_mid.1 hy with rfl | hy
    · simp only at he ⊢
      rcases mem_mid.1 he with rfl | he
      · have e1 : kyo ⟨e0.o, e0.s, v, e0.ns ++ [i]⟩ = kyo e0 := rfl
        rw [e1, addF_at, ← hF]
        simp
      · rw [addF_no (fun h => keys_mid hk e he h.1)]
        exact h.ns _ (mem_mid.2 (.inl rfl)) e (mem_mid.2 (.inr he))
    · rw [addF_no (fun h => words_mid hw y hy h.2)]
      exact h.ns y (mem_mid.2 (.inr hy)) e he
  · by_cases hc : k' = kyo e0 ∧ t' = t
    · obtain ⟨rfl, rfl⟩ := hc
      exact ⟨_, mem_mid.2 (.inl rfl), rfl, _, mem_mid.2 (.inl rfl), rfl⟩
    · rw [addF_no hc] at hne
      obtain ⟨y, hy, e, z, hz, ez⟩ := h.al k' t' hne
      rcases mem_mid.1 hy with rfl | hy
      · refine ⟨_, mem_mid.2 (.inl rfl), e, ?_⟩
        rcases mem_mid.1 hz with rfl | hz
        · exact ⟨_, mem_mid.2 (.inl rfl), ez⟩
        · exact ⟨z, mem_mid.2 (.inr hz), ez⟩
      · exact ⟨y, mem_mid.2 (.inr hy), e, z, hz, ez⟩
/-- A word without places is no word. -/
theorem Tells.word {L : List Wn} {t : Bs} {b : Nat} {F : Ky → Bs → List Int} (h : Tells L F) : Tells (L ++ [⟨t, b, []⟩]) F := by
  refine ⟨fun y hy e he => ?_, fun k' t' hne => ?_⟩
  · rcases List.mem_append.1 hy with hy | hy
    · exact h.ns y hy e he
    · simp only [List.mem_singleton] at hy; subst hy; cases he
  · obtain ⟨y, hy, e, z⟩ := h.al k' t' hne
    exact ⟨y, List.mem_append.2 (.inl hy), e, z⟩
/-- A Key's places at a word, struck. -/
theorem Tells.del {pre post : List Wn} {t : Bs} {b : Nat} {pe qe : List Pv} {e0 : Pv} {F : Ky → Bs → List Int} (h : Tells (pre ++ ⟨t, b, pe ++ e0 :: qe⟩ :: post) F) (hw : ((pre ++ ⟨t, b, pe ++ e0 :: qe⟩ :: post).map Wn.t).Nodup) (hk : ((pe ++ e0 :: qe).map kyo).Nodup) :
    Tells (pre ++ ⟨t, b, pe ++ qe⟩ :: post) (delF F (kyo e0) t) := by
  refine ⟨fun y hy e he => ?_, fun k' t' hne => ?_⟩
  · rcases mem_mid.1 hy with rfl | hy
    · simp only at he ⊢
      rw [delF_no (fun h => keys_mid hk e he h.1)]
      exact h.ns _ (mem_mid.2 (.inl rfl)) e (mem_mid.2 (.inr he))
    · rw [delF_no (fun h => words_mid hw y hy h.2)]
      exact h.ns y (mem_mid.2 (.inr hy)) e he
  · by_cases hc : k' = kyo e0 ∧ t' = t
    · rw [hc.1, hc.2, delF_at] at hne; exact absurd rfl hne
    · rw [delF_no hc] at hne
      obtain ⟨y, hy, e, z, hz, ez⟩ := h.al k' t' hne
      rcases mem_mid.1 hy with rfl | hy
      · refine ⟨_, mem_mid.2 (.inl rfl), e, ?_⟩
        rcases mem_mid.1 hz with rfl | hz
        · exact absurd ⟨ez.symm, e.symm⟩ hc
        · exact ⟨z, hz, ez⟩
      · exact ⟨y, mem_mid.2 (.inr hy), e, z, hz, ez⟩
theorem Tells.strike {pre post : List Wn} {t : Bs} {b : Nat} {F : Ky → Bs → List Int} (h : Tells (pre ++ ⟨t, b, []⟩ :: post) F) : Tells (pre ++ post) F := by
  refine ⟨fun y hy e he => h.ns y (mem_mid.2 (.inr hy)) e he, fun k' t' hne => ?_⟩
  obtain ⟨y, hy, e, z, hz, ez⟩ := h.al k' t' hne
  rcases mem_mid.1 hy with rfl | hy
  · cases hz
  · exact ⟨y, hy, e, z, hz, ez⟩
theorem Tells.none {L : List Wn} {F : Ky → Bs → List Int} {k : Ky} {t : Bs} (h : Tells L F) (hn : ∀ x ∈ L, x.t = t → k ∉ x.es.map kyo) : Tells L (delF F k t) := by
  have hF : F k t = [] := by
    cases hh : F k t with
    | nil => rfl
    | cons a r =>
      obtain ⟨y, hy, e, z, hz, ez⟩ := h.al k t (by rw [hh]; simp)
      exact absurd (List.mem_map.2 ⟨z, hz, ez⟩) (hn y hy e)
  have : delF F k t = F := by
    funext k' t'
    by_cases hc : k' = k ∧ t' = t
    · rw [hc.1, hc.2, delF_at, hF]
    · rw [delF_no hc]
  rw [this]
  exact h
end Go.Proofs.YtdjlgiinekighaaGreatDoor
/-
  An index in memory behind a word more, a place more, a Key's places less, a word less.
-/
namespace Go.Proofs.YtdjlgiinekighaaGreatDoor
open Go.RowKit Go.Lib Go.Sort Go.Shelf Go.Maps Go.Proofs.YtdjlgiinekighaaGreatDoor.P
set_option maxRecDepth 100000

theorem IxL.wider {w : World} {p bt bl : Nat} {T : List Tx} {L : List Wn} {own own' : Nat → Prop} (h : IxL w p bt bl T L own) (h1 : ∀ i, own i → own' i) (h2 : ∀ i, own' i → i < w.heap.size) : IxL w p bt bl T L own' :=
  { h with
    up := h2, op := h1 _ h.op, ot := h1 _ h.ot, ol := h1 _ h.ol
    tw := fun x hx g hg => h1 _ (h.tw x hx g hg)
    lo := fun x hx => h1 _ (h.lo x hx)
    lw := fun x hx e he g hg => h1 _ (h.lw x hx e he g hg) }
theorem row_ne_map {w : World} {kt : TypeId} {b : Nat} {m : List (Value × Value)} (h : PM Tryz.prog w kt b m) {B : Nat} {e : TypeId} {k n : Nat} {v : Value} {xs : List Value} (hr : w.ownsRow B e k v n xs) {g : Nat} (hg : v.ownBlock = some g) : g ≠ b := by
  rcases hr.2 with ⟨rfl, _⟩ | ⟨g', cap, cur, rfl, _, hh, _⟩
  · cases hg
  · simp only [Value.ownBlock, Option.some.injEq] at hg
    subst hg
    exact h.not_cells hh
theorem row_ne_bx {w : World} {T : TypeId} {b : Nat} {cs : Array Value} (h : Bx T w b cs) {B : Nat} {e : TypeId} {k n : Nat} {v : Value} {xs : List Value} (hr : w.ownsRow B e k v n xs) (hne : T ≠ e) {g : Nat} (hg : v.ownBlock = some g) : g ≠ b := by
  rcases hr.2 with ⟨rfl, _⟩ | ⟨g', cap, cur, rfl, _, hh, _⟩
  · cases hg
  · simp only [Value.ownBlock, Option.some.injEq] at hg
    subst hg
    rintro rfl
    unfold Bx at h
    rw [h] at hh
    simp only [Option.some.injEq, Obj.cells.injEq] at hh
    exact hne hh.2.1
theorem row_ne_row {w : World} {B B' : Nat} {e e' : TypeId} {k k' n n' : Nat} {v v' : Value} {xs xs' : List Value} (hr : w.ownsRow B e k v n xs) (hr' : w.ownsRow B' e' k' v' n' xs') (hne : e ≠ e') {g g' : Nat} (hg : v.ownBlock = some g) (hg' : v'.ownBlock = some g') : g ≠ g' := by
  rcases hr.2 with ⟨rfl, _⟩ | ⟨b, cap, cur, rfl, _, hh, _⟩
  · cases hg
  · rcases hr'.2 with ⟨rfl, _⟩ | ⟨b', cap', cur', rfl, _, hh', _⟩
    · cases hg'
    · simp only [Value.ownBlock, Option.some.injEq] at hg hg'
      subst hg hg'
      rintro rfl
      rw [hh] at hh'
      simp only [Option.some.injEq, Obj.cells.injEq] at hh'
      exact hne hh'.2.1
theorem apart_symm {a b : Value} (h : apart a b) : apart b a := fun g hg e => h g e hg
theorem nb_mid {pre post : List Wn} {x : Wn} {bt bl : Nat} (h : (bt :: bl :: (pre ++ x :: post).map Wn.b).Nodup) : bt ≠ bl ∧ x.b ≠ bt ∧ x.b ≠ bl ∧ ∀ y ∈ pre ++ post, y.b ≠ x.b ∧ y.b ≠ bt ∧ y.b ≠ bl := by
  rw [List.nodup_cons, List.nodup_cons, List.map_append, List.map_cons, List.nodup_append, List.nodup_cons] at h
  obtain ⟨h1, h2, h3, ⟨h4, h5⟩, h6⟩ := h
  simp only [List.mem_cons, List.mem_append, List.mem_map, not_or, not_exists, not_and] at h1 h2 h4
  refine ⟨h1.1, fun e => h1.2.2.1 e.symm, fun e => h2.2.1 e.symm, fun y hy => ⟨fun e => ?_, fun e => ?_, fun e => ?_⟩⟩
  · rcases List.mem_append.1 hy with hy | hy
    · exact h6 _ (List.mem_map_of_mem hy) _ (List.mem_cons_self ..) e
    · exact h4 y hy e
  · rcases List.mem_append.1 hy with hy | hy
    · exact h1.2.1 y hy e
    · exact h1.2.2.2 y hy e
  · rcases List.mem_append.1 hy with hy | hy
    · exact h2.1 y hy e
    · exact h2.2.2 y hy e
theorem IxL.pb {w : World} {p bt bl : Nat} {T : List Tx} {L : List Wn} {own : Nat → Prop} (h : IxL w p bt bl T L own) : p ≠ bt ∧ p ≠ bl ∧ ∀ x ∈ L, p ≠ x.b := ⟨h.tm.not_cells h.hd, h.lm.not_cells h.hd, fun x hx => (h.lp x hx).not_cells h.hd⟩
/-- A word more, without places yet. -/
theorem IxL.word {w w' : World} {p bt bl : Nat} {T : List Tx} {L : List Wn} {own : Nat → Prop} {t : Bs} {b : Nat} (h : IxL w p bt bl T L own) (hb : PM Tryz.prog w 31 b []) (hno : ¬ own b) (hpm : PM Tryz.prog w' 9 bl ((L ++ [(⟨t, b, []⟩ : Wn)]).map wnv)) (ht : w.mapTurned w' bl) (htl : t.length ≤ 1000) :
    IxL w' p bt bl T (L ++ [⟨t, b, []⟩]) (fun i => own i ∨ i = b) := by
  have hg := ht.grown
  have same : ∀ i, i < w.heap.size → i ≠ bl → w'.heap[i]? = w.heap[i]? := fun i hi hne => hg.block i hi (fun e => hne (Option.some.inj e))
  have hbl : b ≠ bl := fun e => hno (e ▸ h.ol)
  have hnb := h.nb
  rw [List.nodup_cons, List.nodup_cons] at hnb
  simp only [List.mem_cons, not_or] at hnb
  refine ⟨fun i hi => Nat.lt_of_lt_of_le (hi.elim (h.up i) (fun e => e ▸ hb.lt)) hg.size, .inl h.op, .inl h.ot, .inl h.ol, (same _ h.hd.lt h.pb.2.1).trans h.hd, h.tm.of_block (same _ h.tm.lt hnb.1.1), fun x hx => ?_, fun x hx g hg => .inl (h.tw x hx g hg), h.tk, hpm, fun x hx => ?_, fun x hx => ?_, fun x hx => ?_, fun x hx e he => ?_, fun x hx e he g hg => ?_, fun x hx e he => ?_, ?_, ?_⟩
  · exact ownsRow_of_block (h.tr x hx) fun g hg => same g (h.up _ (h.tw x hx g hg)) (row_ne_map h.lm (h.tr x hx) hg)
  · rcases List.mem_append.1 hx with hx | hx
    · exact h.lt x hx
    · simp only [List.mem_singleton] at hx; subst hx; exact htl
  · rcases List.mem_append.1 hx with hx | hx
    · exact .inl (h.lo x hx)
    · simp only [List.mem_singleton] at hx; subst hx; exact .inr rfl
  · rcases List.mem_append.1 hx with hx | hx
    · exact (h.lp x hx).of_block (same _ (h.lp x hx).lt (fun e => hnb.2.1 (e ▸ List.mem_map_of_mem hx)))
    · simp only [List.mem_singleton] at hx; subst hx; exact hb.of_block (same _ hb.lt hbl)
  · rcases List.mem_append.1 hx with hx | hx
    · exact ownsRow_of_block (h.lr x hx e he) fun g hg => same g (h.up _ (h.lw x hx e he g hg)) (row_ne_map h.lm (h.lr x hx e he) hg)
    · simp only [List.mem_singleton] at hx; subst hx; cases he
  · rcases List.mem_append.1 hx with hx | hx
    · exact .inl (h.lw x hx e he g hg)
    · simp only [List.mem_singleton] at hx; subst hx; cases he
  · rcases List.mem_append.1 hx with hx | hx
    · exact h.lk x hx e he
    · simp only [List.mem_singleton] at hx; subst hx; cases he
  · rw [List.nodup_cons, List.nodup_cons]
    simp only [List.map_append, List.map_cons, List.map_nil, List.mem_cons, List.mem_append, not_or]
    refine ⟨⟨hnb.1.1, hnb.1.2, fun e => hno (e ▸ h.ot), by simp⟩, ⟨hnb.2.1, fun e => hbl e.symm, by simp⟩, ?_⟩
    rw [List.nodup_append]
    refine ⟨hnb.2.2, by simp, fun a ha c hc e => ?_⟩
    simp only [List.mem_singleton] at hc
    subst hc e
    obtain ⟨x, hx, e⟩ := List.mem_map.1 ha
    exact hno (e ▸ h.lo x hx)
  · simp only [List.flatMap_append, List.flatMap_cons, List.flatMap_nil, List.append_nil]
    exact h.nr
theorem pw_mid {l1 l2 : List Value} {a a' : Value} (h : (l1 ++ a :: l2).Pairwise apart) (ha : ∀ y ∈ l1 ++ l2, apart y a') : (l1 ++ a' :: l2).Pairwise apart := by
  rw [List.pairwise_append, List.pairwise_cons] at h ⊢
  obtain ⟨h1, ⟨h2, h3⟩, h4⟩ := h
  refine ⟨h1, ⟨fun y hy => apart_symm (ha y (List.mem_append.2 (.inr hy))), h3⟩, fun x hx y hy => ?_⟩
  rcases List.mem_cons.1 hy with rfl | hy
  · exact ha x (List.mem_append.2 (.inl hx))
  · exact h4 x hx y (List.mem_cons_of_mem _ hy)
theorem pw_ins {l1 l2 : List Value} {a' : Value} (h : (l1 ++ l2).Pairwise apart) (ha : ∀ y ∈ l1 ++ l2, apart y a') : (l1 ++ a' :: l2).Pairwise apart := by
  rw [List.pairwise_append] at h ⊢
  obtain ⟨h1, h3, h4⟩ := h
  refine ⟨h1, List.pairwise_cons.2 ⟨fun y hy => apart_symm (ha y (List.mem_append.2 (.inr hy))), h3⟩, fun x hx y hy => ?_⟩
  rcases List.mem_cons.1 hy with rfl | hy
  · exact ha x (List.mem_append.2 (.inl hx))
  · exact h4 x hx y hy
theorem pw_del {l1 l2 : List Value} {a : Value} (h : (l1 ++ a :: l2).Pairwise apart) : (l1 ++ l2).Pairwise apart ∧ ∀ y ∈ l1 ++ l2, apart y a := by
  rw [List.pairwise_append, List.pairwise_cons] at h
  obtain ⟨h1, ⟨h2, h3⟩, h4⟩ := h
  refine ⟨List.pairwise_append.2 ⟨h1, h3, fun x hx y hy => h4 x hx y (List.mem_cons_of_mem _ hy)⟩, fun y hy => ?_⟩
  rcases List.mem_append.1 hy with hy | hy
  · exact h4 y hy a (List.mem_cons_self ..)
  · exact apart_symm (h2 y hy)
theorem flat_mid (pre post : List Wn) (t : Bs) (b : Nat) (pe old qe : List Pv) : ((pre ++ ⟨t, b, pe ++ (old ++ qe)⟩ :: post).flatMap Wn.es).map Pv.a = (pre.flatMap Wn.es ++ pe).map Pv.a ++ (old.map Pv.a ++ (qe ++ post.flatMap Wn.es).map Pv.a) := by
  simp [List.flatMap_append, List.flatMap_cons]
/-- A place more: the row at a Key of a word is another one, or there is one more. -/
theorem IxL.place {w w' : World} {p bt bl : Nat} {T : List Tx} {pre post : List Wn} {own : Nat → Prop} {t : Bs} {b : Nat} {pe qe old : List Pv} {e' : Pv} {ub : Option Nat}
    (h : IxL w p bt bl T (pre ++ ⟨t, b, pe ++ (old ++ qe)⟩ :: post) own) (ho : (old = [] ∧ ub = none) ∨ ∃ e0, old = [e0] ∧ e0.a.ownBlock = ub) (hs : w.heap.size ≤ w'.heap.size)
    (hb : ∀ i, own i → i ≠ b → ub ≠ some i → w'.heap[i]? = w.heap[i]?) (hpm : PM Tryz.prog w' 31 b ((pe ++ e' :: qe).map kv)) (hr : Row w' 0 e'.a e'.ns) (hk : okKy (kyo e'))
    (hn : ∀ g, e'.a.ownBlock = some g → ub = some g ∨ (w.heap.size ≤ g ∧ g < w'.heap.size)) :
    IxL w' p bt bl T (pre ++ ⟨t, b, pe ++ e' :: qe⟩ :: post) (fun i => own i ∨ (w.heap.size ≤ i ∧ i < w'.heap.size)) := by
  have hm0 : (⟨t, b, pe ++ (old ++ qe)⟩ : Wn) ∈ pre ++ ⟨t, b, pe ++ (old ++ qe)⟩ :: post := mem_mid.2 (.inl rfl)
  obtain ⟨n1, n2, n3, n4⟩ := nb_mid h.nb
  simp only at n2 n3 n4
  have hu : ∀ g, ub = some g → ∃ e0 ∈ old, e0.a.ownBlock = some g := fun g hg => by
    rcases ho with ⟨_, e⟩ | ⟨e0, e1, e2⟩
    · rw [e] at hg; cases hg
    · exact ⟨e0, by rw [e1]; simp, e2.trans hg⟩
  have hrow0 : ∀ e0 ∈ old, Row w 0 e0.a e0.ns := fun e0 he => h.lr _ hm0 e0 (by simp [he])
  have u_p : ub ≠ some p := fun e => by
    obtain ⟨e0, he, hg⟩ := hu _ e
    exact row_ne_bx h.hd (hrow0 e0 he) (by decide) hg rfl
  have u_bt : ub ≠ some bt := fun e => by
    obtain ⟨e0, he, hg⟩ := hu _ e
    exact row_ne_map h.tm (hrow0 e0 he) hg rfl
  have u_bl : ub ≠ some bl := fun e => by
    obtain ⟨e0, he, hg⟩ := hu _ e
    exact row_ne_map h.lm (hrow0 e0 he) hg rfl
  have hfl := h.nr
  rw [flat_mid] at hfl
  have others : ∀ y ∈ (pre.flatMap Wn.es ++ pe).map Pv.a ++ (qe ++ post.flatMap Wn.es).map Pv.a, ∀ g, y.ownBlock = some g → ub ≠ some g ∧ own g := fun y hy g hg => by
    constructor
    · intro e
      obtain ⟨e0, he, hg0⟩ := hu _ e
      rcases ho with ⟨e1, _⟩ | ⟨e1, e2, _⟩
      · rw [e1] at he; cases he
      · rw [e2] at he hfl
        simp only [List.mem_singleton] at he
        subst he
        simp only [List.map_cons, List.map_nil, List.singleton_append] at hfl
        exact (pw_del hfl).2 y hy g hg hg0
    · have : ∃ x ∈ pre ++ ⟨t, b, pe ++ (old ++ qe)⟩ :: post, ∃ e ∈ x.es, e.a = y := by
        rw [← List.map_append] at hy
        obtain ⟨e, he, rfl⟩ := List.mem_map.1 hy
        simp only [List.mem_append, List.mem_flatMap] at he
        rcases he with (⟨x, hx, he⟩ | he) | (he | ⟨x, hx, he⟩)
        · exact ⟨x, by simp [hx], e, he, rfl⟩
        · exact ⟨_, hm0, e, by simp [he], rfl⟩
        · exact ⟨_, hm0, e, by simp [he], rfl⟩
        · exact ⟨x, by simp [hx], e, he, rfl⟩
      obtain ⟨x, hx, e, he, rfl⟩ := this
      exact h.lw x hx e he g hg
  have e'no : ∀ y ∈ (pre.flatMap Wn.es ++ pe).map Pv.a ++ (qe ++ post.flatMap Wn.es).map Pv.a, apart y e'.a := fun y hy g hg e => by
    obtain ⟨h1, h2⟩ := others y hy g hg
    rcases hn g e with h3 | ⟨h3, _⟩
    · exact h1 h3
    · have := h.up g h2; omega
  have keepRow : ∀ (e : Pv), e.a ∈ (pre.flatMap Wn.es ++ pe).map Pv.a ++ (qe ++ post.flatMap Wn.es).map Pv.a → Row w 0 e.a e.ns → Row w' 0 e.a e.ns := fun e he hr => ownsRow_of_block hr fun g hg => hb g (others _ he g hg).2 (row_ne_map (h.lp _ hm0) hr hg) (others _ he g hg).1
  have hmem : ∀ x ∈ pre ++ post, ∀ e ∈ x.es, e.a ∈ (pre.flatMap Wn.es ++ pe).map Pv.a ++ (qe ++ post.flatMap Wn.es).map Pv.a := fun x hx e he => by
    rw [← List.map_append]
    refine List.mem_map_of_mem ?_
    simp only [List.mem_append, List.mem_flatMap]
    rcases List.mem_append.1 hx with hx | hx
    · exact .inl (.inl ⟨x, hx, he⟩)
    · exact .inr (.inr ⟨x, hx, he⟩)
  have hmem2 : ∀ e ∈ pe ++ qe, e.a ∈ (pre.flatMap Wn.es ++ pe).map Pv.a ++ (qe ++ post.flatMap Wn.es).map Pv.a := fun e he => by
    rw [← List.map_append]
    refine List.mem_map_of_mem ?_
    simp only [List.mem_append, List.mem_flatMap]
    rcases List.mem_append.1 he with he | he
    · exact .inl (.inr he)
    · exact .inr (.inl he)
  have hin : ∀ e ∈ pe ++ qe, e ∈ pe ++ (old ++ qe) := fun e he => by
    rcases List.mem_append.1 he with he | he
    · exact List.mem_append.2 (.inl he)
    · exact List.mem_append.2 (.inr (List.mem_append.2 (.inr he)))
  refine ⟨fun i hi => hi.elim (fun h1 => Nat.lt_of_lt_of_le (h.up i h1) hs) (·.2), .inl h.op, .inl h.ot, .inl h.ol, (hb _ h.op (h.pb.2.2 _ hm0) u_p).trans h.hd, h.tm.of_block (hb _ h.ot (fun e => n2 e.symm) u_bt), fun x hx => ?_, fun x hx g hg => .inl (h.tw x hx g hg), h.tk, ?_, fun x hx => ?_, fun x hx => ?_, fun x hx => ?_, fun x hx e he => ?_, fun x hx e he g hg => ?_, fun x hx e he => ?_, ?_, ?_⟩
  · refine ownsRow_of_block (h.tr x hx) fun g hg => hb g (h.tw x hx g hg) (row_ne_map (h.lp _ hm0) (h.tr x hx) hg) (fun e => ?_)
    obtain ⟨e0, he, hg0⟩ := hu _ e
    exact row_ne_row (h.tr x hx) (hrow0 e0 he) (by decide) hg hg0 rfl
  · have e1 : (pre ++ ⟨t, b, pe ++ e' :: qe⟩ :: post).map wnv = (pre ++ ⟨t, b, pe ++ (old ++ qe)⟩ :: post).map wnv := by simp [wnv]
    rw [e1]
    exact h.lm.of_block (hb _ h.ol (fun e => n3 e.symm) u_bl)
  · rcases mem_mid.1 hx with rfl | hx
    · exact h.lt (⟨t, b, pe ++ (old ++ qe)⟩ : Wn) hm0
    · exact h.lt x (mem_mid.2 (.inr hx))
  · rcases mem_mid.1 hx with rfl | hx
    · exact .inl (h.lo (⟨t, b, pe ++ (old ++ qe)⟩ : Wn) hm0)
    · exact .inl (h.lo x (mem_mid.2 (.inr hx)))
  · rcases mem_mid.1 hx with rfl | hx
    · exact hpm
    · refine (h.lp x (mem_mid.2 (.inr hx))).of_block (hb _ (h.lo x (mem_mid.2 (.inr hx))) (n4 x hx).1 (fun e => ?_))
      obtain ⟨e0, he, hg⟩ := hu _ e
      exact row_ne_map (h.lp x (mem_mid.2 (.inr hx))) (hrow0 e0 he) hg rfl
  · rcases mem_mid.1 hx with rfl | hx
    · simp only at he
      rcases mem_mid.1 he with rfl | he
      · exact hr
      · exact keepRow e (hmem2 e he) (h.lr _ hm0 e (hin e he))
    · exact keepRow e (hmem x hx e he) (h.lr x (mem_mid.2 (.inr hx)) e he)
  · rcases mem_mid.1 hx with rfl | hx
    · simp only at he
      rcases mem_mid.1 he with rfl | he
      · rcases hn g hg with h3 | h3
        · obtain ⟨e0, he0, hg0⟩ := hu _ h3
          exact .inl (h.lw _ hm0 e0 (by simp [he0]) g hg0)
        · exact .inr h3
      · exact .inl (h.lw _ hm0 e (hin e he) g hg)
    · exact .inl (h.lw x (mem_mid.2 (.inr hx)) e he g hg)
  · rcases mem_mid.1 hx with rfl | hx
    · simp only at he
      rcases mem_mid.1 he with rfl | he
      · exact hk
      · exact h.lk _ hm0 e (hin e he)
    · exact h.lk x (mem_mid.2 (.inr hx)) e he
  · have e1 : (pre ++ ⟨t, b, pe ++ e' :: qe⟩ :: post).map Wn.b = (pre ++ ⟨t, b, pe ++ (old ++ qe)⟩ :: post).map Wn.b := by simp
    rw [e1]
    exact h.nb
  · have e1 := flat_mid pre post t b pe [e'] qe
    simp only [List.singleton_append, List.map_cons, List.map_nil] at e1
    rw [e1]
    rcases ho with ⟨e2, _⟩ | ⟨e0, e2, _⟩
    · rw [e2] at hfl
      exact pw_ins (by simpa using hfl) e'no
    · rw [e2] at hfl
      exact pw_mid (by simpa using hfl) e'no
end Go.Proofs.YtdjlgiinekighaaGreatDoor
/-
  Operations on maps whose run is known, for the walk.
-/
namespace Go.Proofs.YtdjlgiinekighaaGreatDoor
open Go.RowKit Go.Maps

section
variable {P : Program} {ops : Array Oper} {Q : Exit → Act → World → Prop} {rest : List Oper} {o : Oper} {a : Act} {w : World}
theorem wpList_mapEntry_run (hg : o.guard = none) (m x : Operand) (t : TypeId) (hop : o.op = Op.mapEntry t m x) (mv key v' : Value) (w' : World) (hm : a.eval m = mv) (hx : a.eval x = key) (hr : (Instr.mapEntry t mv key).run P w = .ok v' w') (h : wpList P ops Q rest (a.put o.dst v') w') : wpList P ops Q (o :: rest) a w := by
  refine wpList_plain hg fun K' hK' => ?_
  unfold Oper.wp
  simp [execOp, hop, hm, hx, hr, Result.andThen]
  exact hK' _ _ h
theorem wpList_entryStore_run (hg : o.guard = none) (m s x : Operand) (t : TypeId) (hop : o.op = Op.entryStore t m s x) (mv sv xv : Value) (w' : World) (hm : a.eval m = mv) (hs : a.eval s = sv) (hx : a.eval x = xv) (hr : (Instr.entryStore t mv sv xv).run P w = .ok () w') (h : wpList P ops Q rest (a.put o.dst undef) w') : wpList P ops Q (o :: rest) a w := by
  refine wpList_plain hg fun K' hK' => ?_
  unfold Oper.wp
  simp [execOp, hop, hm, hs, hx, hr, Result.andThen]
  exact hK' _ _ h
theorem step_mapUpdate_run {K : Act → World → Prop} {E : Prop} (hg : o.guard = none) (m x v : Operand) (t : TypeId) (hop : o.op = Op.mapUpdate t m x v) (mv key val : Value) (w' : World) (hm : a.eval m = mv) (hx : a.eval x = key) (hv : a.eval v = val) (hr : (Instr.mapUpdate t mv key val).run P w = .ok () w') (h : K (a.put o.dst undef) w') :
    if Region.wanted o (yielded ops a.tmps) = true then Oper.wp P o a w K Q else E := by
  have hw : Region.wanted o (yielded ops a.tmps) = true := by simp [Region.wanted, hg]
  rw [if_pos hw]
  unfold Oper.wp
  simp [execOp, hop, hm, hx, hv, hr, Result.andThen]
  exact h
theorem step_delete_run {K : Act → World → Prop} {E : Prop} (hg : o.guard = none) (m x : Operand) (t k : TypeId) (hop : o.op = Op.call { callee := Callee.builtin Builtin.delete, args := #[m, x], argTypes := #[t, k] }) (mv key : Value) (w' : World) (hm : a.eval m = mv) (hx : a.eval x = key) (hr : (Builtin.delete_ #[t, k] o.type #[mv, key]).run P w = .ok (.tuple #[]) w') (h : K (a.put o.dst (.tuple #[])) w') :
    if Region.wanted o (yielded ops a.tmps) = true then Oper.wp P o a w K Q else E := by
  have hw : Region.wanted o (yielded ops a.tmps) = true := by simp [Region.wanted, hg]
  rw [if_pos hw]
  unfold Oper.wp
  simp [execOp, hop, resolve, invoke, builtin, hm, hx, hr, Result.andThen]
  exact h
end
end Go.Proofs.YtdjlgiinekighaaGreatDoor
/-
  What the walks of package index share: append of a number, a new map, a lookup of a word and of a Key.
-/
namespace Go.Proofs.YtdjlgiinekighaaGreatDoor
open Go.RowKit Go.Lib Go.Sort Go.Shelf Go.Maps Go.Proofs.YtdjlgiinekighaaGreatDoor.P
set_option maxRecDepth 100000

theorem Turn.join {S S' : Nat → Prop} {a b c : World} (h : Turn S a b) (k : Turn S' b c) (hs : ∀ i, S' i → S i ∨ a.heap.size ≤ i) : Turn S a c :=
  ⟨k.os.trans h.os, k.tape.trans h.tape, k.output.trans h.output, Nat.le_trans h.size k.size, fun i hi hn => (k.block i (Nat.lt_of_lt_of_le hi h.size) (fun h' => (hs i h').elim hn (fun h2 => by omega))).trans (h.block i hi hn)⟩
theorem Turn.ofTurned {S : Nat → Prop} {a b : World} {m : Nat} (h : a.mapTurned b m) (hm : S m) : Turn S a b := Turn.ofGrown h.grown (fun g e => by cases e; exact hm)
theorem turned_block {a b : World} {m : Nat} (h : a.mapTurned b m) {i : Nat} (hi : i < a.heap.size) (hne : i ≠ m) : b.heap[i]? = a.heap[i]? := h.grown.block i hi (fun e => hne (Option.some.inj e))
theorem iapp_run (l : List Int) (x : Int) (v : Value) (g : Nat) (w : World) (ty : TypeId) (B : Nat) (h : Row w B v l) (hg : Bx 3 w g #[.int .i64 x]) (hn : l.length ≤ 10000000) (hB : B ≤ w.heap.size) :
    ∃ A C w1, (Builtin.append_ #[64, 64] ty #[v, .slice (some ⟨g, 0, none⟩) 1 1]).run Tryz.prog w = .ok (.slice A (l.length + 1) C) w1 ∧ Row w1 B (.slice A (l.length + 1) C) (l ++ [x]) ∧ w.grownBy w1 v.ownBlock ∧ ((Value.slice A (l.length + 1) C).ownBlock = v.ownBlock ∨ (Value.slice A (l.length + 1) C).ownBlock = some w.heap.size) := by
  obtain ⟨i0, hi, hz0, hz1, hz2⟩ := info_parts intInfo
  obtain ⟨v', w', h1, h2, h4, _, h5⟩ := run_append_own_at (P := Tryz.prog) w B 64 ty 3 i0 _ 1 8 Tryz.underlying64 hi hz0 hz1 hz2 rfl (by decide) v l.length (ints l) h ⟨g, 0, none⟩ 1 1 [.int .i64 x] rfl
    (fun j u hj => by
      rw [Go.WideShapes.add_plain, Nat.zero_add, hg.cell j]
      simpa using hj) (fun u hu => by simp at hu; subst hu; rfl) (by unfold maxLen; omega) (by omega) hB
  have hr : Row w' B v' (l ++ [x]) := by
    unfold Row
    rw [List.length_append, List.length_singleton, show ints (l ++ [x]) = ints l ++ [.int .i64 x] from by simp [ints]]
    exact h2
  obtain ⟨A, C, rfl, _⟩ := own_form hr
  rw [List.length_append, List.length_singleton] at h1 hr h5
  exact ⟨A, C, w', h1, hr, h4, h5⟩
theorem mkmap_run (w : World) : (Instr.makeMap 77 none).run Tryz.prog w = .ok (.map (some w.heap.size)) (w.alloc (.map #[] 0)) := by
  simp [Instr.makeMap, go_sem]
theorem word_lit (t : Bs) (h : t.length ≤ 1000) : ∃ l, keyOf Tryz.prog 9 (bsv t) = some l := ⟨_, Go.WideMaps.keyOf_string_mk Tryz.underlying9 (by show t.toArray.size ≤ _; rw [List.size_toArray]; unfold maxLen; omega)⟩
/-- What is known of a word in an index. -/
def Found (L : List Wn) (t : Bs) (mv : Option Nat) (c : Bool) : Prop := (c = true ∧ ∃ pre post b es, L = pre ++ ⟨t, b, es⟩ :: post ∧ mv = some b) ∨ (c = false ∧ mv = none ∧ t ∉ L.map Wn.t)
theorem found_any (L : List Wn) (t : Bs) : ∃ mv c, Found L t mv c := by
  by_cases h : t ∈ L.map Wn.t
  · obtain ⟨x, hx, e⟩ := List.mem_map.1 h
    obtain ⟨pre, post, e2⟩ := List.append_of_mem hx
    obtain ⟨t', b, es⟩ := x
    simp only at e
    subst e
    exact ⟨some b, true, .inl ⟨rfl, pre, post, b, es, e2, rfl⟩⟩
  · exact ⟨none, false, .inr ⟨rfl, rfl, h⟩⟩
theorem word_not {L : List Wn} {t : Bs} (h : t ∉ L.map Wn.t) : bsv t ∉ (L.map wnv).map Prod.fst := by
  rw [wnv_fst]
  intro h2
  obtain ⟨x, hx, e⟩ := List.mem_map.1 h2
  exact h (bsv_inj e ▸ hx)
theorem key_not {es : List Pv} {k : Ky} (h : k ∉ es.map kyo) : kyv k ∉ (es.map kv).map Prod.fst := by
  rw [kv_fst]
  intro h2
  obtain ⟨x, hx, e⟩ := List.mem_map.1 h2
  exact h (kyv_inj e ▸ hx)
/-- 'lists[w]', with and without ok. -/
theorem IxL.find {w : World} {p bt bl : Nat} {T : List Tx} {L : List Wn} {own : Nat → Prop} (h : IxL w p bt bl T L own) {t : Bs} {mv : Option Nat} {c : Bool} (hf : Found L t mv c) (ht : t.length ≤ 1000) :
    (Instr.lookup 70 (.map (some bl)) (.string ⟨t.toArray⟩) true).run Tryz.prog w = .ok (.tuple #[.map mv, .bool c]) w ∧ (Instr.lookup 70 (.map (some bl)) (.string ⟨t.toArray⟩) false).run Tryz.prog w = .ok (.map mv) w := by
  obtain ⟨l, hl⟩ := word_lit t ht
  rcases hf with ⟨rfl, pre, post, b, es, e, rfl⟩ | ⟨rfl, rfl, hno⟩
  · exact h.lm.look (z := .map none) strKeyed Tryz.underlying70 (fun w => by simp [Tryz.zeroValue77]) hl (v := .map (some b)) (by rw [e]; simp [wnv])
  · exact h.lm.look_no (z := .map none) strKeyed Tryz.underlying70 (fun w => by simp [Tryz.zeroValue77]) hl (word_not hno)
end Go.Proofs.YtdjlgiinekighaaGreatDoor
/-
  stand of package index, by contract: a place more of a Key at a word.
-/
namespace Go.Proofs.YtdjlgiinekighaaGreatDoor
open Go.RowKit Go.Lib Go.Sort Go.Shelf Go.Maps Go.Proofs.YtdjlgiinekighaaGreatDoor.P
set_option maxRecDepth 100000
set_option linter.unusedSimpArgs false

theorem Found.mem {L : List Wn} {t : Bs} {mv : Option Nat} {c : Bool} (h : Found L t mv c) (hc : c = false) : mv = none ∧ t ∉ L.map Wn.t := by
  rcases h with ⟨h, _⟩ | ⟨_, h⟩
  · rw [hc] at h; cases h
  · exact h
theorem turned_size {a b : World} {m : Nat} (h : a.mapTurned b m) : b.heap.size = a.heap.size := by
  obtain ⟨es, c, es', c', _, rfl⟩ := h
  simp [Go.ChangeMaps.setBlock]
theorem row_ne_turned {a b : World} {m : Nat} (h : a.mapTurned b m) {B : Nat} {e : TypeId} {k n : Nat} {v : Value} {xs : List Value} (hr : a.ownsRow B e k v n xs) {g : Nat} (hg : v.ownBlock = some g) : g ≠ m := by
  obtain ⟨es, c, es', c', hb, _⟩ := h
  rcases hr.2 with ⟨rfl, _⟩ | ⟨g', cap, cur, rfl, _, hh, _⟩
  · cases hg
  · simp only [Value.ownBlock, Option.some.injEq] at hg
    subst hg
    rintro rfl
    rw [hb] at hh
    cases hh
theorem full_mid {pre post : List Wn} {x : Wn} (h : Full (pre ++ post)) (hx : x.es ≠ []) : Full (pre ++ x :: post) := fun y hy => by
  rcases mem_mid.1 hy with rfl | hy
  · exact hx
  · exact h y hy
theorem few_mid {pre post : List Wn} {x : Wn} {T : List Tx} {n : Nat} (h : Few n T (pre ++ post)) (hl : (pre ++ post).length + 1 ≤ n + 1) (he : x.es.length ≤ n + 1) (hs : ∀ e ∈ x.es, e.ns.length ≤ n + 1) : Few (n + 1) T (pre ++ x :: post) := by
  refine ⟨Nat.le_succ_of_le h.t, by simp at hl ⊢; omega, fun y hy => ?_, fun y hy e hye => ?_⟩
  · rcases mem_mid.1 hy with rfl | hy
    · exact he
    · exact Nat.le_succ_of_le (h.e y hy)
  · rcases mem_mid.1 hy with rfl | hy
    · exact hs e hye
    · exact Nat.le_succ_of_le (h.s y hy e hye)
/-- What stands when the word's map is there. -/
def Mid (w : World) (p bt bl : Nat) (T : List Tx) (t : Bs) (k : Ky) (i : Int) (F : Ky → Bs → List Int) (n : Nat) (own : Nat → Prop) (pre post : List Wn) (b : Nat) (es : List Pv) (own' : Nat → Prop) (wc : World) : Prop :=
  IxL wc p bt bl T (pre ++ ⟨t, b, es⟩ :: post) own' ∧ Turn own w wc ∧ (∀ i, own' i → own i ∨ w.heap.size ≤ i) ∧ (∀ i, own i → own' i) ∧ Tells (pre ++ ⟨t, b, es⟩ :: post) F ∧ Few n T (pre ++ post) ∧ (pre ++ post).length + 1 ≤ n + 1 ∧ (es.length ≤ n ∧ ∀ e ∈ es, e.ns.length ≤ n) ∧ Full (pre ++ post) ∧
  Bx 52 wc w.heap.size #[.string ⟨t.toArray⟩, .int .i64 i] ∧ Bx 31 wc (w.heap.size + 1) #[.int .i64 k.1, .int .i64 k.2]
theorem few_sub {pre post : List Wn} {x : Wn} {T : List Tx} {n : Nat} (h : Few n T (pre ++ x :: post)) : Few n T (pre ++ post) :=
  ⟨h.t, by have := h.l; simp at this ⊢; omega, fun y hy => h.e y (mem_mid.2 (.inr hy)), fun y hy => h.s y (mem_mid.2 (.inr hy))⟩
theorem mid_yes {w W3 : World} {p bt bl n : Nat} {T : List Tx} {L : List Wn} {own : Nat → Prop} {F : Ky → Bs → List Int} {t : Bs} {i ko ks : Int} {mv : Option Nat} (hfo : Found L t mv true) (h : IxL W3 p bt bl T L own) (hb : Below w.heap.size w W3) (hf : Tells L F) (hfu : Full L) (hn : Few n T L)
    (x1 : Bx 52 W3 w.heap.size #[.string ⟨t.toArray⟩, .int .i64 i]) (x2 : Bx 31 W3 (w.heap.size + 1) #[.int .i64 ko, .int .i64 ks]) :
    ∃ pre post b es, mv = some b ∧ Mid w p bt bl T t (ko, ks) i F n own pre post b es own W3 := by
  rcases hfo with ⟨_, pre, post, b, es, e, e2⟩ | ⟨e, _⟩
  · subst e
    have hl := hn.l
    exact ⟨pre, post, b, es, e2, h, Turn.ofBelow hb, fun i hi => .inl hi, fun i hi => hi, hf, few_sub hn, by simp at hl ⊢; omega, ⟨hn.e _ (mem_mid.2 (.inl rfl)), hn.s _ (mem_mid.2 (.inl rfl))⟩, fun y hy => hfu y (mem_mid.2 (.inr hy)), x1, x2⟩
  · cases e
theorem mid_no {w W3 : World} {p bt bl n : Nat} {T : List Tx} {L : List Wn} {own : Nat → Prop} {F : Ky → Bs → List Int} {t : Bs} {i ko ks : Int} (hno : t ∉ L.map Wn.t) (h : IxL W3 p bt bl T L own) (hb : Below w.heap.size w W3) (hf : Tells L F) (hfu : Full L) (hn : Few n T L)
    (x1 : Bx 52 W3 w.heap.size #[.string ⟨t.toArray⟩, .int .i64 i]) (x2 : Bx 31 W3 (w.heap.size + 1) #[.int .i64 ko, .int .i64 ks]) (ht : t.length ≤ 1000) (hn2 : n ≤ 1000000) :
    ∃ w8, (Instr.mapUpdate 70 (.map (some bl)) (.string ⟨t.toArray⟩) (.map (some W3.heap.size))).run Tryz.prog (W3.alloc (.map #[] 0)).drew = .ok () w8 ∧ w8.cell? ⟨p, 1, none⟩ = some (.map (some bl)) ∧ w8.cell? ⟨w.heap.size, 0, none⟩ = some (.string ⟨t.toArray⟩) ∧
      Mid w p bt bl T t (ko, ks) i F n own L [] W3.heap.size [] (fun i => own i ∨ i = W3.heap.size) w8 := by
  have hal : Below W3.heap.size W3 (W3.alloc (.map #[] 0)).drew := (alloc_below W3 (.map #[] 0)).drew
  have h4 := h.below hal
  obtain ⟨l, hl⟩ := word_lit t ht
  obtain ⟨w8, hrun, hpm, htu⟩ := h4.lm.add (v := .map (some W3.heap.size)) strKeyed Tryz.underlying70 (by rw [List.length_map]; have := hn.l; unfold maxLen; omega) hl (word_not hno)
  have hnew := (PM.new Tryz.prog W3 31).below (Below.refl (W3.alloc (.map #[] 0)).heap.size (W3.alloc (.map #[] 0))).drew
  have hsz := hb.size
  have hix := IxL.word (t := t) h4 hnew (fun ho => by have := h.up _ ho; omega) (by simpa [wnv] using hpm) htu ht
  have x18 : Bx 52 w8 w.heap.size #[.string ⟨t.toArray⟩, .int .i64 i] := (turned_block htu (x1.below hal).lt (h4.lm.not_cells (x1.below hal))).trans (x1.below hal)
  have x28 : Bx 31 w8 (w.heap.size + 1) #[.int .i64 ko, .int .i64 ks] := (turned_block htu (x2.below hal).lt (h4.lm.not_cells (x2.below hal))).trans (x2.below hal)
  refine ⟨w8, hrun, hix.hd.cell 1, x18.cell 0, hix, ?_, fun j hj => hj.elim .inl (fun e => .inr (by omega)), fun j hj => .inl hj, hf.word, by simpa using hn, by have := hn.l; simp; omega, ⟨Nat.zero_le _, fun e he => by cases he⟩, by simpa using hfu, x18, x28⟩
  exact (Turn.ofBelow (bn hb hal)).trans (Turn.ofTurned htu h.ol)
set_option maxHeartbeats 16000000 in
theorem stand_c (p bt bl n : Nat) (T : List Tx) (L : List Wn) (own : Nat → Prop) (F : Ky → Bs → List Int) (t : Bs) (i : Int) (ko ks : Int) (w : World) (h : IxL w p bt bl T L own) (hf : Tells L F) (hfu : Full L) (hn : Few n T L) (hn2 : n ≤ 1000000) (hk : okKy (ko, ks)) (ht : t.length ≤ 1000) :
    Calls Tryz.prog 34 #[.pointer (some ⟨p, 0, none⟩), .agg #[.string ⟨t.toArray⟩, .int .i64 i], .agg #[.int .i64 ko, .int .i64 ks]] w fun e w' => e = .returned (.tuple #[]) ∧
      ∃ L' own', IxL w' p bt bl T L' own' ∧ Tells L' (addF F (ko, ks) t i) ∧ Full L' ∧ Few (n + 1) T L' ∧ Turn own w w' ∧ (∀ i, own' i → own i ∨ w.heap.size ≤ i) ∧ (∀ i, own i → own' i) := by
  have mixed : Tryz.prog.follows .mixedOrders = true := by kernel_rfl
  obtain ⟨mv, c, hfo⟩ := found_any L t
  obtain ⟨W2, hW2⟩ : ∃ W2, W2 = (w.alloc (.cells #[.string ⟨t.toArray⟩, .int .i64 i] 52)).alloc (.cells #[.int .i64 ko, .int .i64 ks] 31) := ⟨_, rfl⟩
  have hb2 : Below w.heap.size w W2 := by rw [hW2]; exact below_two _ _ _
  have x1 : Bx 52 W2 w.heap.size #[.string ⟨t.toArray⟩, .int .i64 i] := by rw [hW2]; exact (Bx.new 52 w _).below (alloc_below _ _)
  have x2 : Bx 31 W2 (w.heap.size + 1) #[.int .i64 ko, .int .i64 ks] := by
    rw [hW2]
    have := Bx.new 31 (w.alloc (.cells #[.string ⟨t.toArray⟩, .int .i64 i] 52)) #[.int .i64 ko, .int .i64 ks]
    rwa [World.size_alloc] at this
  have h2 := h.below hb2
  have hlk : ∀ n, (Instr.lookup 70 (.map (some bl)) (.string ⟨t.toArray⟩) true).run Tryz.prog (W2.drewN n) = .ok (.tuple #[.map mv, .bool c]) (W2.drewN n) := fun n => ((h2.below (Go.Proofs.YtdjlgiinekighaaGreatDoor.P.below_drewN (Below.refl _ _) n)).find hfo ht).1
  have p1 := h2.hd.cell 1
  have q0 := x1.cell 0
  simp only [List.getElem?_toArray, List.getElem?_cons_succ, List.getElem?_cons_zero] at p1 q0
  have pl := h2.hd.lt
  have ql := x1.lt
  have H2 := Lib.hid h2
  have X1 := Lib.hid x1
  have X2 := Lib.hid x2
  have HF := Lib.hid hf
  have HFU := Lib.hid hfu
  have HN := Lib.hid hn
  have HK := Lib.hid hk
  have HT := Lib.hid ht
  have HFO := Lib.hid hfo
  have HB2 := Lib.hid hb2
  clear h hf hfu hn hk ht hfo hb2 h2 x1 x2
  go_enter Tryz.func34, Tryz.ntmps34
  go_wp2_with fail
  rw [← hW2]
  clear hW2
  go_quiet (fail)
  obtain ⟨W3, hW3⟩ : ∃ W3, W3 = W2.drewN nq := ⟨_, rfl⟩
  have hb3 : Below W2.heap.size W2 W3 := by rw [hW3]; exact Go.Proofs.YtdjlgiinekighaaGreatDoor.P.below_drewN (Below.refl _ _) _
  rw [← hW3]
  have H3 := Lib.hid (H2.out.below hb3)
  have X13 := Lib.hid (X1.out.below hb3)
  have X23 := Lib.hid (X2.out.below hb3)
  have HB3 := Lib.hid (bn HB2.out hb3)
  clear hW3 hb3 hlk p1 q0 pl ql H2 X1 X2 HB2
  go_upto_if 19 with fail
  go_cut [6] (fun v6 wc => ∃ (pre post : List Wn) (b : Nat) (es : List Pv) (own' : Nat → Prop), v6 = .map (some b) ∧ Hid (Mid w p bt bl T t (ko, ks) i F n own pre post b es own' wc))
  case first =>
    cases c with
    | true =>
      have HM := Lib.hid (mid_yes (i := i) HFO.out H3.out HB3.out HF.out HFU.out HN.out X13.out X23.out)
      obtain ⟨pre, post, b, es, hmv, hm⟩ := HM.out
      subst hmv
      have HM2 := Lib.hid hm
      clear HM hm
      go_wp2
      go_meet
      exact ⟨pre, post, b, es, own, rfl, HM2⟩
    | false =>
      obtain ⟨hmv, hno⟩ := Found.mem HFO.out rfl
      subst hmv
      have HM := Lib.hid (mid_no (i := i) hno H3.out HB3.out HF.out HFU.out HN.out X13.out X23.out HT.out (by omega))
      clear hno
      obtain ⟨w8, hup, hp8, hq8, hm8⟩ := HM.out
      have HUP := Lib.hid hup
      have HS8 := Lib.hid (And.intro hp8 hq8)
      have HM8 := Lib.hid hm8
      clear HM hup hp8 hq8 hm8
      have hal := alloc_below W3 (.map #[] 0)
      have HSC : Hid (∀ W, Below (W3.alloc (.map #[] 0)).heap.size (W3.alloc (.map #[] 0)) W → W.cell? ⟨p, 1, none⟩ = some (.map (some bl)) ∧ W.cell? ⟨w.heap.size, 0, none⟩ = some (.string ⟨t.toArray⟩)) := Lib.hid (fun W hW => ⟨((H3.out.below hal).hd.below hW).cell 1, ((X13.out.below hal).below hW).cell 0⟩)
      clear hal
      have hmk := mkmap_run (W3)
      go_wp2_with fail
      clear hmk
      refine wp_region_held_drew (S := fun W => W.cell? ⟨p, 1, none⟩ = some (.map (some bl)) ∧ W.cell? ⟨w.heap.size, 0, none⟩ = some (.string ⟨t.toArray⟩)) (by kernel_rfl) (HSC.out _ (Below.refl _ _).drew) (fun hHeld => ?_)
      refine take_ok (i := 0) (d := 21) (v := ?_) rfl rfl (by kernel_rfl) (by kernel_rfl) (by kernel_rfl) (fun _ _ _ h => h) (Or.inl ⟨by rfl, ?_⟩) (by assumption) ?_
      rotate_left
      · intro w9 hSw
        try dsimp only at hSw
        first | (go_simp; done) | (go_simp; with_reducible rfl)
      try simp only [Act.put, List.setIfInBounds_toArray, List.set_cons_zero, List.set_cons_succ]
      refine take_ok (i := 1) (d := 22) (v := ?_) rfl rfl (by kernel_rfl) (by kernel_rfl) (by kernel_rfl) (fun _ _ _ h => h) (Or.inl ⟨by rfl, ?_⟩) (by assumption) ?_
      rotate_left
      · intro w9 hSw
        try dsimp only at hSw
        first | (go_simp; done) | (go_simp; with_reducible rfl)
      try simp only [Act.put, List.setIfInBounds_toArray, List.set_cons_zero, List.set_cons_succ]
      refine take_ok (i := 2) (d := 23) (v := ?_) rfl rfl (by kernel_rfl) (by kernel_rfl) (by kernel_rfl) (fun _ _ _ h => h) (Or.inl ⟨by rfl, ?_⟩) (by assumption) ?_
      rotate_left
      · intro w9 hSw
        try dsimp only at hSw
        first | (go_simp; done) | (go_simp; with_reducible rfl)
      try simp only [Act.put, List.setIfInBounds_toArray, List.set_cons_zero, List.set_cons_succ]
      refine take_ok (i := 3) (d := 24) (v := ?_) rfl rfl (by kernel_rfl) (by kernel_rfl) (by kernel_rfl) (fun _ _ _ h => h) (Or.inl ⟨by rfl, ?_⟩) (by assumption) ?_
      rotate_left
      · intro w9 hSw
        try dsimp only at hSw
        first | (go_simp; done) | (go_simp; with_reducible rfl)
      try simp only [Act.put, List.setIfInBounds_toArray, List.set_cons_zero, List.set_cons_succ]
      refine take_ok (i := 4) (d := 25) (v := ?_) rfl rfl (by kernel_rfl) (by kernel_rfl) (by kernel_rfl) (fun _ _ _ h => h) (Or.inl ⟨by rfl, ?_⟩) (by assumption) ?_
      rotate_left
      · intro w9 hSw
        try dsimp only at hSw
        first | (go_simp; done) | (go_simp; with_reducible rfl)
      try simp only [Act.put, List.setIfInBounds_toArray, List.set_cons_zero, List.set_cons_succ]
      refine take_ok (i := 5) (d := 26) (v := ?_) rfl rfl (by kernel_rfl) (by kernel_rfl) (by kernel_rfl) (fun _ _ _ h => h) (Or.inl ⟨by rfl, ?_⟩) (by assumption) ?_
      rotate_left
      · intro w9 hSw
        try dsimp only at hSw
        first | (go_simp; done) | (go_simp; with_reducible rfl)
      try simp only [Act.put, List.setIfInBounds_toArray, List.set_cons_zero, List.set_cons_succ]
      refine take_ok (i := 6) (d := 27) (v := ?_) rfl rfl (by kernel_rfl) (by kernel_rfl) (by kernel_rfl) (fun _ _ _ h => h) (Or.inl ⟨by rfl, ?_⟩) (by assumption) ?_
      rotate_left
      · intro w9 hSw
        try dsimp only at hSw
        first | (go_simp; done) | (go_simp; with_reducible rfl)
      try simp only [Act.put, List.setIfInBounds_toArray, List.set_cons_zero, List.set_cons_succ]
      refine wpAnyH_ready (rs := [7]) (by kernel_rfl) (by simp) ?_
      refine AllReadyH.cons rfl (fun K hK => ?_) AllReadyH.nil
      refine step_mapUpdate_run rfl _ _ _ _ rfl _ _ _ w8 rfl rfl rfl HUP.out ?_
      refine hK.out _ _ (HS8.out) (fun hHeld => ?_)
      clear hK K
      try simp only [Act.put, List.setIfInBounds_toArray, List.set_cons_zero, List.set_cons_succ]
      refine wpAnyH_done (by kernel_rfl) ?_ _
      clear hHeld HSC
      go_wp2
      go_meet
      exact ⟨L, [], W3.heap.size, [], _, rfl, HM8⟩
  case rest =>
    obtain ⟨pre, post, b, es, own1, rfl, hmid⟩ := hcut
    obtain ⟨hix, htw, ho1, ho2, hte, hfe, hfl, hel, hfu, hx1, hx2⟩ := hmid.out
    obtain ⟨w6, hw6⟩ : ∃ w6, w6 = wc.alloc (.cells #[.int .i64 i] 3) := ⟨_, rfl⟩
    have hb6 : Below wc.heap.size wc w6 := by rw [hw6]; exact alloc_below _ _
    have hx6 : Bx 3 w6 wc.heap.size #[.int .i64 i] := by rw [hw6]; exact Bx.new _ wc _
    have hs6 : w6.heap.size = wc.heap.size + 1 := by rw [hw6]; simp
    have HW6 := Lib.hid hw6.symm
    have HB6 := Lib.hid hb6
    have HX6 := Lib.hid hx6
    have HS6 := Lib.hid hs6
    have HSAME6 : Hid (∀ j, j < wc.heap.size → w6.heap[j]? = wc.heap[j]?) := Lib.hid (fun j hj => hb6.block j hj)
    have hm0 : (⟨t, b, es⟩ : Wn) ∈ pre ++ ⟨t, b, es⟩ :: post := mem_mid.2 (.inl rfl)
    have HPM6 := Lib.hid ((hix.lp _ hm0).below hb6)
    have HOB := Lib.hid (hix.lo _ hm0)
    have HIX := Lib.hid hix
    have HTW := Lib.hid htw
    have HO1 := Lib.hid ho1
    have HO2 := Lib.hid ho2
    have HTE := Lib.hid hte
    have HFE := Lib.hid hfe
    have HFL := Lib.hid hfl
    have HEL := Lib.hid hel.1
    have HEN := Lib.hid hel.2
    have HFU2 := Lib.hid hfu
    have HKL : Hid (∃ l, keyOf Tryz.prog 31 (kyv (ko, ks)) = some l) := Lib.hid (kyv_lit _ HK.out)
    have c0 := hx1.cell 0
    have c1 := hx1.cell 1
    have d0 := hx2.cell 0
    have d1 := hx2.cell 1
    simp only [List.getElem?_toArray, List.getElem?_cons_succ, List.getElem?_cons_zero] at c0 c1 d0 d1
    have l1 := hx1.lt
    have l2 := hx2.lt
    obtain ⟨kl, hkl⟩ := HKL.out
    have HKL := Lib.hid hkl
    clear hw6 hb6 hx6 hs6 hix htw ho1 ho2 hte hfe hfl hel hfu hx1 hx2 hmid hkl
    by_cases hin : (ko, ks) ∈ es.map kyo
    case neg =>
      have HNK := Lib.hid hin
      clear hin
      obtain ⟨st, w7, hE, ht7, hst⟩ := PM.entry_new (m := es.map kv) HPM6.out keyLaw Tryz.underlying77 (z := .slice none 0 0) (fun w => by simp [Tryz.zeroValue64]) (by have := HEL.out; rw [List.length_map]; unfold maxLen; omega) HKL.out (key_not HNK.out)
      have hx7 : Bx 3 w7 wc.heap.size #[.int .i64 i] := (turned_block ht7 HX6.out.lt (HPM6.out.not_cells HX6.out)).trans HX6.out
      have hr7 : Row w7 0 (.slice none 0 0) [] := Row.nil _ _
      obtain ⟨A8, C8, w8, hap, hr8, hg8, ho8⟩ := iapp_run [] i (.slice none 0 0) wc.heap.size w7 64 0 hr7 hx7 (by simp) (Nat.zero_le _)
      simp only [List.length_nil, Nat.zero_add, List.nil_append] at hap hr8 ho8
      obtain ⟨w9, hst9, ht9, hpm9⟩ := hst w8 (.slice A8 1 C8) (hg8.block b (Nat.lt_of_lt_of_le HPM6.out.lt ht7.grown.size) (fun e => by cases e))
      have hsz7 : w7.heap.size = w6.heap.size := turned_size ht7
      have hsz8 := hg8.size
      have hsz9 : w9.heap.size = w8.heap.size := turned_size ht9
      have hsz6 := HS6.out
      have hr9 : Row w9 0 (.slice A8 1 C8) [i] := ownsRow_of_block hr8 fun g hg => turned_block ht9 (World.ownsRow.lt hr8 g hg).2 (row_ne_turned ht9 hr8 hg)
      have hbl : ∀ j, j < wc.heap.size → j ≠ b → (none : Option Nat) ≠ some j → w9.heap[j]? = wc.heap[j]? := fun j hj hjb hju => (turned_block ht9 (by omega) hjb).trans ((hg8.block j (by omega) (fun e => hju e.symm)).trans ((turned_block ht7 (by omega) hjb).trans (HSAME6.out j hj)))
      have hown : ∀ g, (Value.slice A8 1 C8).ownBlock = some g → (none : Option Nat) = some g ∨ (wc.heap.size ≤ g ∧ g < w9.heap.size) := fun g hg => by
        have hl := (World.ownsRow.lt hr8 g hg).2
        rcases ho8 with e | e
        · exact .inl (e.symm.trans hg)
        · rw [hg] at e
          have := Option.some.inj e
          exact .inr ⟨by omega, by omega⟩
      have hix := IxL.place (w := wc) (w' := w9) (pre := pre) (post := post) (t := t) (b := b) (pe := es) (old := []) (qe := []) (e' := ⟨ko, ks, .slice A8 1 C8, [i]⟩) (ub := none) (by simpa using HIX.out) (.inl ⟨rfl, rfl⟩) (by omega) (fun j hj h1 h2 => hbl j (HIX.out.up j hj) h1 h2) (by simpa [kv] using hpm9) hr9 HK.out hown
      have htu : Turn own1 wc w9 := ⟨ht9.grown.os.trans (hg8.os.trans (ht7.grown.os.trans HB6.out.os)), ht9.grown.tape.trans (hg8.tape.trans (ht7.grown.tape.trans HB6.out.tape)), ht9.grown.output.trans (hg8.output.trans (ht7.grown.output.trans HB6.out.output)), by omega, fun j hj hno => hbl j hj (fun e => hno (e ▸ HOB.out)) (fun e => by cases e)⟩
      have HIX9 := Lib.hid hix
      have HTU := Lib.hid (HTW.out.join htu HO1.out)
      clear hix htu hown hbl hr9 hsz7 hsz8 hsz9 hsz6 hpm9 ht9 ho8 hg8 hr8 hx7 hr7 ht7 hst
      have HE := Lib.hid hE
      have HAP := Lib.hid hap
      have HST := Lib.hid hst9
      clear hE hap hst9
      go_wp2_with (first
        | (refine wpList_mapEntry_run rfl _ _ _ rfl _ _ _ _ rfl rfl (by rw [HW6.out]; exact HE.out) ?_)
        | (at_builtin; refine wpList_append_run rfl _ _ 64 rfl _ _ HAP.out ?_)
        | (refine wpList_entryStore_run rfl _ _ _ _ rfl _ _ _ _ rfl rfl rfl HST.out ?_))
      go_end0
      exact ⟨rfl, _, _, HIX9.out, Tells.new HTE.out HIX.out.ws HNK.out, full_mid HFU2.out (by simp), few_mid HFE.out HFL.out (by have := HEL.out; simp; omega) (fun e he => by
        rcases List.mem_append.1 he with he | he
        · have := HEN.out e he; omega
        · simp only [List.mem_singleton] at he; subst he; simp), HTU.out, fun j hj => hj.elim (HO1.out j) (fun h => .inr (Nat.le_trans HTW.out.size h.1)), fun j hj => .inl (HO2.out j hj)⟩
    case pos =>
      obtain ⟨x, hx, hxk⟩ := List.mem_map.1 hin
      obtain ⟨pe, qe, hes⟩ := List.append_of_mem hx
      obtain ⟨xo, xs, xa, en⟩ := x
      simp only [kyo, Prod.mk.injEq] at hxk
      obtain ⟨e1, e2⟩ := hxk
      replace e1 := e1.symm
      replace e2 := e2.symm
      subst e1 e2
      subst hes
      have hrow := HIX.out.lr _ hm0 _ hx
      have hou := HIX.out.lw _ hm0 _ hx
      simp only at hrow hou
      obtain ⟨EA, EC, rfl, _⟩ := own_form hrow
      have HROW6 := Lib.hid (Row.below hrow HB6.out)
      have HOU := Lib.hid hou
      have HNL := Lib.hid (HEN.out _ hx)
      clear hin hx hrow hou
      obtain ⟨st, w7, hE, ht7, hst⟩ := PM.entry_at (pre := pe.map kv) (post := qe.map kv) (key := kyv (ko, ks)) (u := .slice EA en.length EC) (by have h := HPM6.out; simpa [kv] using h) keyLaw Tryz.underlying77 (z := .slice none 0 0) (fun w => by simp [Tryz.zeroValue64]) (by have := HEL.out; simp at this ⊢; unfold maxLen; omega) HKL.out
      have hx7 : Bx 3 w7 wc.heap.size #[.int .i64 i] := (turned_block ht7 HX6.out.lt (HPM6.out.not_cells HX6.out)).trans HX6.out
      have hr7 : Row w7 0 (.slice EA en.length EC) en := ownsRow_of_block HROW6.out fun g hg => turned_block ht7 (World.ownsRow.lt HROW6.out g hg).2 (row_ne_map HPM6.out HROW6.out hg)
      obtain ⟨A8, C8, w8, hap, hr8, hg8, ho8⟩ := iapp_run en i (.slice EA en.length EC) wc.heap.size w7 64 0 hr7 hx7 (by have := HNL.out; dsimp only at this; omega) (Nat.zero_le _)
      skip
      obtain ⟨w9, hst9, ht9, hpm9⟩ := hst w8 (.slice A8 (en.length + 1) C8) (hg8.block b (Nat.lt_of_lt_of_le HPM6.out.lt ht7.grown.size) (fun e => row_ne_map HPM6.out HROW6.out e.symm rfl))
      have hsz7 : w7.heap.size = w6.heap.size := turned_size ht7
      have hsz8 := hg8.size
      have hsz9 : w9.heap.size = w8.heap.size := turned_size ht9
      have hsz6 := HS6.out
      have hr9 : Row w9 0 (.slice A8 (en.length + 1) C8) (en ++ [i]) := ownsRow_of_block hr8 fun g hg => turned_block ht9 (World.ownsRow.lt hr8 g hg).2 (row_ne_turned ht9 hr8 hg)
      have hbl : ∀ j, j < wc.heap.size → j ≠ b → (Value.slice EA en.length EC).ownBlock ≠ some j → w9.heap[j]? = wc.heap[j]? := fun j hj hjb hju => (turned_block ht9 (by omega) hjb).trans ((hg8.block j (by omega) (fun e => hju e.symm)).trans ((turned_block ht7 (by omega) hjb).trans (HSAME6.out j hj)))
      have hown : ∀ g, (Value.slice A8 (en.length + 1) C8).ownBlock = some g → (Value.slice EA en.length EC).ownBlock = some g ∨ (wc.heap.size ≤ g ∧ g < w9.heap.size) := fun g hg => by
        have hl := (World.ownsRow.lt hr8 g hg).2
        rcases ho8 with e | e
        · exact .inl (e.symm.trans hg)
        · rw [hg] at e
          have := Option.some.inj e
          exact .inr ⟨by omega, by omega⟩
      have hix := IxL.place (w := wc) (w' := w9) (pre := pre) (post := post) (t := t) (b := b) (pe := pe) (old := [⟨ko, ks, .slice EA en.length EC, en⟩]) (qe := qe) (e' := ⟨ko, ks, .slice A8 (en.length + 1) C8, en ++ [i]⟩) (ub := (Value.slice EA en.length EC).ownBlock) (by simpa using HIX.out) (.inr ⟨_, rfl, rfl⟩) (by omega) (fun j hj h1 h2 => hbl j (HIX.out.up j hj) h1 h2) (by simpa [kv] using hpm9) hr9 HK.out hown
      have htu : Turn own1 wc w9 := ⟨ht9.grown.os.trans (hg8.os.trans (ht7.grown.os.trans HB6.out.os)), ht9.grown.tape.trans (hg8.tape.trans (ht7.grown.tape.trans HB6.out.tape)), ht9.grown.output.trans (hg8.output.trans (ht7.grown.output.trans HB6.out.output)), by omega, fun j hj hno => hbl j hj (fun e => hno (e ▸ HOB.out)) (fun e => hno (HOU.out j e))⟩
      have HIX9 := Lib.hid hix
      have HTU := Lib.hid (HTW.out.join htu HO1.out)
      clear hix htu hown hbl hr9 hsz7 hsz8 hsz9 hsz6 hpm9 ht9 ho8 hg8 hr8 hx7 hr7 ht7 hst
      have HE := Lib.hid hE
      have HAP := Lib.hid hap
      have HST := Lib.hid hst9
      clear hE hap hst9
      go_wp2_with (first
        | (refine wpList_mapEntry_run rfl _ _ _ rfl _ _ _ _ rfl rfl (by rw [HW6.out]; exact HE.out) ?_)
        | (at_builtin; refine wpList_append_run rfl _ _ 64 rfl _ _ HAP.out ?_)
        | (refine wpList_entryStore_run rfl _ _ _ _ rfl _ _ _ _ rfl rfl rfl HST.out ?_))
      go_end0
      exact ⟨rfl, _, _, HIX9.out, Tells.more HTE.out HIX.out.ws (HIX.out.ks hm0), full_mid HFU2.out (by simp), few_mid HFE.out HFL.out (by have := HEL.out; simp at this ⊢; omega) (fun e he => by
        rcases mem_mid.1 he with rfl | he
        · have := HNL.out; simp at this ⊢; omega
        · have := HEN.out e (mem_mid.2 (.inr he)); omega), HTU.out, fun j hj => hj.elim (HO1.out j) (fun h => .inr (Nat.le_trans HTW.out.size h.1)), fun j hj => .inl (HO2.out j hj)⟩
end Go.Proofs.YtdjlgiinekighaaGreatDoor
/-
  An index in memory behind a Key less at a word, and a word less.
-/
namespace Go.Proofs.YtdjlgiinekighaaGreatDoor
open Go.RowKit Go.Lib Go.Sort Go.Shelf Go.Maps Go.Proofs.YtdjlgiinekighaaGreatDoor.P
set_option maxRecDepth 100000

theorem sub_mid {α : Type} {pre post : List α} {x : α} : (pre ++ post).Sublist (pre ++ x :: post) := (List.Sublist.refl pre).append (List.sublist_cons_self x post)
/-- A word's map with fewer Keys, or the same. -/
theorem IxL.thin {w w' : World} {p bt bl : Nat} {T : List Tx} {pre post : List Wn} {own : Nat → Prop} {t : Bs} {b : Nat} {es es' : List Pv}
    (h : IxL w p bt bl T (pre ++ ⟨t, b, es⟩ :: post) own) (hs : es'.Sublist es) (hpm : PM Tryz.prog w' 31 b (es'.map kv)) (ht : w.mapTurned w' b) : IxL w' p bt bl T (pre ++ ⟨t, b, es'⟩ :: post) own := by
  have hm0 : (⟨t, b, es⟩ : Wn) ∈ pre ++ ⟨t, b, es⟩ :: post := mem_mid.2 (.inl rfl)
  obtain ⟨n1, n2, n3, n4⟩ := nb_mid h.nb
  simp only at n2 n3 n4
  have same : ∀ i, i < w.heap.size → i ≠ b → w'.heap[i]? = w.heap[i]? := fun i hi hne => turned_block ht hi hne
  have hsz := ht.grown.size
  refine ⟨fun i hi => Nat.lt_of_lt_of_le (h.up i hi) hsz, h.op, h.ot, h.ol, (same _ h.hd.lt (h.pb.2.2 _ hm0)).trans h.hd, h.tm.of_block (same _ h.tm.lt (fun e => n2 e.symm)), fun x hx => ?_, h.tw, h.tk, ?_, fun x hx => ?_, fun x hx => ?_, fun x hx => ?_, fun x hx e he => ?_, fun x hx e he g hg => ?_, fun x hx e he => ?_, ?_, ?_⟩
  · exact ownsRow_of_block (h.tr x hx) fun g hg => same g (h.up _ (h.tw x hx g hg)) (row_ne_map (h.lp _ hm0) (h.tr x hx) hg)
  · have e1 : (pre ++ ⟨t, b, es'⟩ :: post).map wnv = (pre ++ ⟨t, b, es⟩ :: post).map wnv := by simp [wnv]
    rw [e1]
    exact h.lm.of_block (same _ h.lm.lt (fun e => n3 e.symm))
  · rcases mem_mid.1 hx with rfl | hx
    · exact h.lt (⟨t, b, es⟩ : Wn) hm0
    · exact h.lt x (mem_mid.2 (.inr hx))
  · rcases mem_mid.1 hx with rfl | hx
    · exact h.lo (⟨t, b, es⟩ : Wn) hm0
    · exact h.lo x (mem_mid.2 (.inr hx))
  · rcases mem_mid.1 hx with rfl | hx
    · exact hpm
    · exact (h.lp x (mem_mid.2 (.inr hx))).of_block (same _ (h.lp x (mem_mid.2 (.inr hx))).lt (n4 x hx).1)
  · have hr : Row w 0 e.a e.ns ∧ ∀ g, e.a.ownBlock = some g → own g := by
      rcases mem_mid.1 hx with rfl | hx
      · exact ⟨h.lr _ hm0 e (hs.subset he), h.lw _ hm0 e (hs.subset he)⟩
      · exact ⟨h.lr x (mem_mid.2 (.inr hx)) e he, h.lw x (mem_mid.2 (.inr hx)) e he⟩
    exact ownsRow_of_block hr.1 fun g hg => same g (h.up _ (hr.2 g hg)) (row_ne_map (h.lp _ hm0) hr.1 hg)
  · rcases mem_mid.1 hx with rfl | hx
    · exact h.lw _ hm0 e (hs.subset he) g hg
    · exact h.lw x (mem_mid.2 (.inr hx)) e he g hg
  · rcases mem_mid.1 hx with rfl | hx
    · exact h.lk _ hm0 e (hs.subset he)
    · exact h.lk x (mem_mid.2 (.inr hx)) e he
  · have e1 : (pre ++ ⟨t, b, es'⟩ :: post).map Wn.b = (pre ++ ⟨t, b, es⟩ :: post).map Wn.b := by simp
    rw [e1]
    exact h.nb
  · refine h.nr.sublist (List.Sublist.map _ ?_)
    simp only [List.flatMap_append, List.flatMap_cons]
    exact (List.Sublist.refl _).append (hs.append (List.Sublist.refl _))
theorem flat_sub {L' L : List Wn} (h : L'.Sublist L) : (L'.flatMap Wn.es).Sublist (L.flatMap Wn.es) := by
  induction h with
  | slnil => exact List.Sublist.refl _
  | cons a h ih =>
    rw [List.flatMap_cons]
    exact ih.trans (List.sublist_append_right _ _)
  | cons_cons a h ih =>
    rw [List.flatMap_cons, List.flatMap_cons]
    exact (List.Sublist.refl _).append ih
/-- Fewer words, or the same. -/
theorem IxL.fewer {w w' : World} {p bt bl : Nat} {T : List Tx} {L L' : List Wn} {own : Nat → Prop} (h : IxL w p bt bl T L own) (hs : L'.Sublist L) (hpm : PM Tryz.prog w' 9 bl (L'.map wnv)) (ht : w.mapTurned w' bl) : IxL w' p bt bl T L' own := by
  have hnb := h.nb
  rw [List.nodup_cons, List.nodup_cons] at hnb
  simp only [List.mem_cons, not_or] at hnb
  have same : ∀ i, i < w.heap.size → i ≠ bl → w'.heap[i]? = w.heap[i]? := fun i hi hne => turned_block ht hi hne
  have hsz := ht.grown.size
  refine ⟨fun i hi => Nat.lt_of_lt_of_le (h.up i hi) hsz, h.op, h.ot, h.ol, (same _ h.hd.lt h.pb.2.1).trans h.hd, h.tm.of_block (same _ h.tm.lt hnb.1.1), fun x hx => ?_, h.tw, h.tk, hpm, fun x hx => h.lt x (hs.subset hx), fun x hx => h.lo x (hs.subset hx), fun x hx => ?_, fun x hx e he => ?_, fun x hx => h.lw x (hs.subset hx), fun x hx => h.lk x (hs.subset hx), ?_, h.nr.sublist (List.Sublist.map _ (flat_sub hs))⟩
  · exact ownsRow_of_block (h.tr x hx) fun g hg => same g (h.up _ (h.tw x hx g hg)) (row_ne_map h.lm (h.tr x hx) hg)
  · exact (h.lp x (hs.subset hx)).of_block (same _ (h.lp x (hs.subset hx)).lt (fun e => hnb.2.1 (e ▸ List.mem_map_of_mem (hs.subset hx))))
  · exact ownsRow_of_block (h.lr x (hs.subset hx) e he) fun g hg => same g (h.up _ (h.lw x (hs.subset hx) e he g hg)) (row_ne_map h.lm (h.lr x (hs.subset hx) e he) hg)
  · exact h.nb.sublist (((hs.map Wn.b).cons_cons bl).cons_cons bt)
/-- What is left at a word whose Key went. -/
def Left (L : List Wn) (t : Bs) (mv : Option Nat) (n0 : Nat) : Prop := (mv = none ∧ n0 = 0 ∧ t ∉ L.map Wn.t ∧ Full L) ∨ ∃ pre post b es, L = pre ++ ⟨t, b, es⟩ :: post ∧ mv = some b ∧ n0 = es.length ∧ Full (pre ++ post)
theorem Left.found {L : List Wn} {t : Bs} {mv : Option Nat} {n0 : Nat} (h : Left L t mv n0) : ∃ c, Found L t mv c := by
  rcases h with ⟨e, _, hn, _⟩ | ⟨pre, post, b, es, e, e2, _⟩
  · exact ⟨false, .inr ⟨rfl, e, hn⟩⟩
  · exact ⟨true, .inl ⟨rfl, pre, post, b, es, e, e2⟩⟩
theorem Left.full {L : List Wn} {t : Bs} {mv : Option Nat} {n0 : Nat} (h : Left L t mv n0) (h0 : n0 ≠ 0) : Full L := by
  rcases h with ⟨_, e, _, hn⟩ | ⟨pre, post, b, es, rfl, _, e, hf⟩
  · exact hn
  · exact full_mid hf (by rintro rfl; exact h0 e)
theorem len_nil (ty : TypeId) (w : World) : (Builtin.len_ #[77] ty #[.map none]).run Tryz.prog w = .ok (.int .i64 0) w := by
  simp [Builtin.len_, go_sem]
theorem del_nil (ty : TypeId) (k : Value) {l : Lit} (hk : keyOf Tryz.prog 31 k = some l) (w : World) : (Builtin.delete_ #[77, 31] ty #[.map none, k]).run Tryz.prog w = .ok (.tuple #[]) w := by
  have hc := keyLaw.check w true hk
  simp [Builtin.delete_, go_sem, hc, Result.andThen]
theorem Left.len {L : List Wn} {t : Bs} {mv : Option Nat} {n0 : Nat} (h : Left L t mv n0) {w : World} {p bt bl : Nat} {T : List Tx} {own : Nat → Prop} (hx : IxL w p bt bl T L own) (ty : TypeId) : (Builtin.len_ #[77] ty #[.map mv]).run Tryz.prog w = .ok (.int .i64 n0) w := by
  rcases h with ⟨rfl, rfl, _, _⟩ | ⟨pre, post, b, es, rfl, rfl, rfl, _⟩
  · exact len_nil ty w
  · have := (hx.lp _ (mem_mid.2 (.inl rfl))).len Tryz.underlying77 ty
    simpa using this
/-- 'delete(lists[w], k)'. -/
theorem leave_mid {W : World} {p bt bl n : Nat} {T : List Tx} {L : List Wn} {own : Nat → Prop} {F : Ky → Bs → List Int} {t : Bs} {k : Ky} {mv : Option Nat} {c : Bool} (hfo : Found L t mv c) (h : IxL W p bt bl T L own) (hf : Tells L F) (hfu : Full L) (hn : Few n T L) (hk : okKy k) (ty : TypeId) :
    ∃ w8, (Builtin.delete_ #[77, 31] ty #[.map mv, kyv k]).run Tryz.prog W = .ok (.tuple #[]) w8 ∧ ∃ L1 n0, IxL w8 p bt bl T L1 own ∧ Tells L1 (delF F k t) ∧ Few n T L1 ∧ Turn own W w8 ∧ Left L1 t mv n0 ∧ n0 ≤ n := by
  obtain ⟨l, hl⟩ := kyv_lit k hk
  rcases hfo with ⟨_, pre, post, b, es, rfl, rfl⟩ | ⟨_, rfl, hno⟩
  · have hm0 : (⟨t, b, es⟩ : Wn) ∈ pre ++ ⟨t, b, es⟩ :: post := mem_mid.2 (.inl rfl)
    have hob := h.lo _ hm0
    have hpm := h.lp _ hm0
    have hfp : Full (pre ++ post) := fun y hy => hfu y (mem_mid.2 (.inr hy))
    by_cases hin : k ∈ es.map kyo
    · obtain ⟨x, hx, hxk⟩ := List.mem_map.1 hin
      obtain ⟨pe, qe, rfl⟩ := List.append_of_mem hx
      have hpm2 : PM Tryz.prog W 31 b (pe.map kv ++ (kyv k, x.a) :: qe.map kv) := by
        have e1 : (pe ++ x :: qe).map kv = pe.map kv ++ (kyv k, x.a) :: qe.map kv := by subst hxk; simp [kv, kyo, kyv]
        rw [← e1]; exact hpm
      obtain ⟨w8, hr, hp8, ht8⟩ := hpm2.del (Keyed.of_law keyLaw) Tryz.underlying77 hl ty
      rw [← List.map_append] at hp8
      have hix := h.thin (sub_mid (x := x)) hp8 ht8
      refine ⟨w8, hr, _, (pe ++ qe).length, hix, hxk ▸ Tells.del hf h.ws (h.ks hm0), ?_, Turn.ofTurned ht8 hob, .inr ⟨pre, post, b, pe ++ qe, rfl, rfl, rfl, hfp⟩, ?_⟩
      · have := hn.e _ hm0
        refine ⟨hn.t, by have := hn.l; simpa using this, fun y hy => ?_, fun y hy e he => ?_⟩
        · rcases mem_mid.1 hy with rfl | hy
          · simp at this ⊢; omega
          · exact hn.e y (mem_mid.2 (.inr hy))
        · rcases mem_mid.1 hy with rfl | hy
          · exact hn.s _ hm0 e (mem_mid.2 (.inr he))
          · exact hn.s y (mem_mid.2 (.inr hy)) e he
      · have := hn.e _ hm0; simp at this ⊢; omega
    · obtain ⟨w8, hr, hp8, ht8⟩ := hpm.del_no (Keyed.of_law keyLaw) Tryz.underlying77 hl (key_not hin) ty
      refine ⟨w8, hr, _, es.length, h.thin (List.Sublist.refl es) hp8 ht8, Tells.none hf (fun y hy e => ?_), hn, Turn.ofTurned ht8 hob, .inr ⟨pre, post, b, es, rfl, rfl, rfl, hfp⟩, hn.e _ hm0⟩
      rcases mem_mid.1 hy with rfl | hy
      · exact hin
      · exact absurd e (words_mid h.ws y hy)
  · exact ⟨W, del_nil ty _ hl W, L, 0, h, Tells.none hf (fun y hy e => absurd (List.mem_map.2 ⟨y, hy, e⟩) hno), hn, Turn.refl _ _, .inl ⟨rfl, rfl, hno, hfu⟩, Nat.zero_le _⟩
/-- 'delete(lists, w)' of a word that stands nowhere. -/
theorem leave_end {W : World} {p bt bl n : Nat} {T : List Tx} {L : List Wn} {own : Nat → Prop} {F : Ky → Bs → List Int} {t : Bs} {mv : Option Nat} {n0 : Nat} (hl : Left L t mv n0) (h0 : n0 = 0) (h : IxL W p bt bl T L own) (hf : Tells L F) (hn : Few n T L) (ht : t.length ≤ 1000) (ty : TypeId) :
    ∃ w8, (Builtin.delete_ #[70, 9] ty #[.map (some bl), .string ⟨t.toArray⟩]).run Tryz.prog W = .ok (.tuple #[]) w8 ∧ ∃ L1, IxL w8 p bt bl T L1 own ∧ Tells L1 F ∧ Full L1 ∧ Few n T L1 ∧ Turn own W w8 := by
  obtain ⟨l, hk⟩ := word_lit t ht
  rcases hl with ⟨_, _, hno, hfu⟩ | ⟨pre, post, b, es, rfl, _, e, hfu⟩
  · obtain ⟨w8, hr, hp8, ht8⟩ := h.lm.del_no strKeyed Tryz.underlying70 hk (word_not hno) ty
    exact ⟨w8, hr, L, h.fewer (List.Sublist.refl _) hp8 ht8, hf, hfu, hn, Turn.ofTurned ht8 h.ol⟩
  · have hes : es = [] := List.length_eq_zero_iff.1 (by omega)
    subst hes
    have hpm : PM Tryz.prog W 9 bl (pre.map wnv ++ (bsv t, .map (some b)) :: post.map wnv) := by have := h.lm; simpa [wnv] using this
    obtain ⟨w8, hr, hp8, ht8⟩ := hpm.del strKeyed Tryz.underlying70 hk ty
    rw [← List.map_append] at hp8
    exact ⟨w8, hr, pre ++ post, h.fewer sub_mid hp8 ht8, Tells.strike hf, hfu, few_sub hn, Turn.ofTurned ht8 h.ol⟩
end Go.Proofs.YtdjlgiinekighaaGreatDoor
/-
  leave of package index, by contract.
-/
namespace Go.Proofs.YtdjlgiinekighaaGreatDoor
open Go.RowKit Go.Lib Go.Sort Go.Shelf Go.Maps Go.Proofs.YtdjlgiinekighaaGreatDoor.P
set_option maxRecDepth 100000
set_option linter.unusedSimpArgs false

set_option maxHeartbeats 16000000 in
theorem leave_c (p bt bl n : Nat) (T : List Tx) (L : List Wn) (own : Nat → Prop) (F : Ky → Bs → List Int) (t : Bs) (i : Int) (ko ks : Int) (w : World) (h : IxL w p bt bl T L own) (hf : Tells L F) (hfu : Full L) (hn : Few n T L) (hk : okKy (ko, ks)) (ht : t.length ≤ 1000) :
    Calls Tryz.prog 32 #[.pointer (some ⟨p, 0, none⟩), .agg #[.string ⟨t.toArray⟩, .int .i64 i], .agg #[.int .i64 ko, .int .i64 ks]] w fun e w' => e = .returned (.tuple #[]) ∧
      ∃ L', IxL w' p bt bl T L' own ∧ Tells L' (delF F (ko, ks) t) ∧ Full L' ∧ Few n T L' ∧ Turn own w w' := by
  have mixed : Tryz.prog.follows .mixedOrders = true := by kernel_rfl
  obtain ⟨mv, c, hfo⟩ := found_any L t
  obtain ⟨W2, hW2⟩ : ∃ W2, W2 = (w.alloc (.cells #[.string ⟨t.toArray⟩, .int .i64 i] 52)).alloc (.cells #[.int .i64 ko, .int .i64 ks] 31) := ⟨_, rfl⟩
  have hb2 : Below w.heap.size w W2 := by rw [hW2]; exact below_two _ _ _
  have x1 : Bx 52 W2 w.heap.size #[.string ⟨t.toArray⟩, .int .i64 i] := by rw [hW2]; exact (Bx.new 52 w _).below (alloc_below _ _)
  have x2 : Bx 31 W2 (w.heap.size + 1) #[.int .i64 ko, .int .i64 ks] := by
    rw [hW2]
    have := Bx.new 31 (w.alloc (.cells #[.string ⟨t.toArray⟩, .int .i64 i] 52)) #[.int .i64 ko, .int .i64 ks]
    rwa [World.size_alloc] at this
  have h2 := h.below hb2
  have hno1 : ¬ own w.heap.size := fun e => by have := h.up _ e; omega
  have hno2 : ¬ own (w.heap.size + 1) := fun e => by have := h.up _ e; omega
  obtain ⟨w3, hde, L1, n0, h3, hf3, hn3, htu3, hle, hn0⟩ := leave_mid hfo (h2.below (Below.refl _ W2).drew) hf hfu hn hk 0
  have htu2 : Turn own W2 w3 := (Turn.ofBelow (Below.refl _ W2).drew).trans htu3
  have x13 : Bx 52 w3 w.heap.size #[.string ⟨t.toArray⟩, .int .i64 i] := (htu2.block _ x1.lt hno1).trans x1
  have x23 : Bx 31 w3 (w.heap.size + 1) #[.int .i64 ko, .int .i64 ks] := (htu2.block _ x2.lt hno2).trans x2
  obtain ⟨c1, hfo1⟩ := hle.found
  have HSC : Hid (∀ W, Below W2.heap.size W2 W → W.cell? ⟨p, 1, none⟩ = some (.map (some bl)) ∧ W.cell? ⟨w.heap.size, 0, none⟩ = some (.string ⟨t.toArray⟩) ∧ W.cell? ⟨w.heap.size + 1, 0, none⟩ = some (.int .i64 ko) ∧ W.cell? ⟨w.heap.size + 1, 1, none⟩ = some (.int .i64 ks) ∧ (Instr.lookup 70 (.map (some bl)) (.string ⟨t.toArray⟩) false).run Tryz.prog W = .ok (.map mv) W) := Lib.hid (fun W hW => ⟨(h2.hd.below hW).cell 1, (x1.below hW).cell 0, (x2.below hW).cell 0, (x2.below hW).cell 1, ((h2.below hW).find hfo ht).2⟩)
  have HDE := Lib.hid hde
  have HS3 := Lib.hid (show w3.cell? ⟨p, 1, none⟩ = some (.map (some bl)) ∧ w3.cell? ⟨w.heap.size, 0, none⟩ = some (.string ⟨t.toArray⟩) ∧ w3.cell? ⟨w.heap.size + 1, 0, none⟩ = some (.int .i64 ko) ∧ w3.cell? ⟨w.heap.size + 1, 1, none⟩ = some (.int .i64 ks) ∧ (Instr.lookup 70 (.map (some bl)) (.string ⟨t.toArray⟩) false).run Tryz.prog w3 = .ok (.map mv) w3 from ⟨h3.hd.cell 1, x13.cell 0, x23.cell 0, x23.cell 1, (h3.find hfo1 ht).2⟩)
  have hp1 := h2.hd.lt
  have H3 := Lib.hid h3
  have HF := Lib.hid hf3
  have HN := Lib.hid hn3
  have HT := Lib.hid ht
  have HLE := Lib.hid hle
  have HTU := Lib.hid ((Turn.ofBelow hb2).join htu2 (fun i hi => .inl hi))
  have HFO1 := Lib.hid hfo1
  have X13 := Lib.hid x13
  have HN0 := Lib.hid hn0
  have HNO := Lib.hid hno1
  clear h hf hfu hn hk ht hfo hb2 h2 x1 x2 h3 hf3 hn3 htu3 htu2 hle hfo1 x13 x23 hde hn0 hno1 hno2
  go_enter Tryz.func32, Tryz.ntmps32
  go_wp2_with fail
  rw [← hW2]
  clear hW2
  refine wp_region_held_drew (S := fun W => W.cell? ⟨p, 1, none⟩ = some (.map (some bl)) ∧ W.cell? ⟨w.heap.size, 0, none⟩ = some (.string ⟨t.toArray⟩) ∧ W.cell? ⟨w.heap.size + 1, 0, none⟩ = some (.int .i64 ko) ∧ W.cell? ⟨w.heap.size + 1, 1, none⟩ = some (.int .i64 ks) ∧ (Instr.lookup 70 (.map (some bl)) (.string ⟨t.toArray⟩) false).run Tryz.prog W = .ok (.map mv) W) (by kernel_rfl) (HSC.out _ (Below.refl _ _).drew) (fun hHeld => ?_)
  refine take_ok (i := 0) (d := 6) (v := ?_) rfl rfl (by kernel_rfl) (by kernel_rfl) (by kernel_rfl) (fun _ _ _ h => h) (Or.inl ⟨by rfl, ?_⟩) (by assumption) ?_
  rotate_left
  · intro w9 hSw
    try dsimp only at hSw
    first | (go_simp; done) | (go_simp; with_reducible rfl)
  try simp only [Act.put, List.setIfInBounds_toArray, List.set_cons_zero, List.set_cons_succ]
  refine take_ok (i := 1) (d := 7) (v := ?_) rfl rfl (by kernel_rfl) (by kernel_rfl) (by kernel_rfl) (fun _ _ _ h => h) (Or.inl ⟨by rfl, ?_⟩) (by assumption) ?_
  rotate_left
  · intro w9 hSw
    try dsimp only at hSw
    first | (go_simp; done) | (go_simp; with_reducible rfl)
  try simp only [Act.put, List.setIfInBounds_toArray, List.set_cons_zero, List.set_cons_succ]
  refine take_ok (i := 2) (d := 8) (v := ?_) rfl rfl (by kernel_rfl) (by kernel_rfl) (by kernel_rfl) (fun _ _ _ h => h) (Or.inl ⟨by rfl, ?_⟩) (by assumption) ?_
  rotate_left
  · intro w9 hSw
    try dsimp only at hSw
    first | (go_simp; done) | (go_simp; with_reducible rfl)
  try simp only [Act.put, List.setIfInBounds_toArray, List.set_cons_zero, List.set_cons_succ]
  refine take_ok (i := 3) (d := 9) (v := ?_) rfl rfl (by kernel_rfl) (by kernel_rfl) (by kernel_rfl) (fun _ _ _ h => h) (Or.inl ⟨by rfl, ?_⟩) (by assumption) ?_
  rotate_left
  · intro w9 hSw
    try dsimp only at hSw
    first | (go_simp; done) | (go_simp; with_reducible rfl)
  try simp only [Act.put, List.setIfInBounds_toArray, List.set_cons_zero, List.set_cons_succ]
  refine take_ok (i := 4) (d := 10) (v := ?_) rfl rfl (by kernel_rfl) (by kernel_rfl) (by kernel_rfl) (fun _ _ _ h => h) (Or.inl ⟨by rfl, ?_⟩) (by assumption) ?_
  rotate_left
  · intro w9 hSw
    try dsimp only at hSw
    first | (go_simp; done) | (go_simp; with_reducible rfl)
  try simp only [Act.put, List.setIfInBounds_toArray, List.set_cons_zero, List.set_cons_succ]
  refine take_ok (i := 5) (d := 11) (v := ?_) rfl rfl (by kernel_rfl) (by kernel_rfl) (by kernel_rfl) (fun _ _ _ h => h) (Or.inl ⟨by rfl, ?_⟩) (by assumption) ?_
  rotate_left
  · intro w9 hSw
    try dsimp only at hSw
    first | (go_simp; done) | (go_simp; with_reducible rfl)
  try simp only [Act.put, List.setIfInBounds_toArray, List.set_cons_zero, List.set_cons_succ]
  refine take_ok (i := 6) (d := 12) (v := ?_) rfl rfl (by kernel_rfl) (by kernel_rfl) (by kernel_rfl) (fun _ _ _ h => h) (Or.inl ⟨by rfl, ?_⟩) (by assumption) ?_
  rotate_left
  · intro w9 hSw
    try dsimp only at hSw
    first | (go_simp; done) | (go_simp; with_reducible rfl)
  try simp only [Act.put, List.setIfInBounds_toArray, List.set_cons_zero, List.set_cons_succ]
  refine take_ok (i := 7) (d := 13) (v := ?_) rfl rfl (by kernel_rfl) (by kernel_rfl) (by kernel_rfl) (fun _ _ _ h => h) (Or.inl ⟨by rfl, ?_⟩) (by assumption) ?_
  rotate_left
  · intro w9 hSw
    try dsimp only at hSw
    first | (go_simp; done) | (go_simp; with_reducible rfl)
  try simp only [Act.put, List.setIfInBounds_toArray, List.set_cons_zero, List.set_cons_succ]
  refine wpAnyH_ready (rs := [8]) (by kernel_rfl) (by simp) ?_
  refine AllReadyH.cons rfl (fun K hK => ?_) AllReadyH.nil
  refine step_delete_run rfl _ _ _ _ rfl _ _ w3 rfl rfl HDE.out ?_
  refine hK.out _ _ (HS3.out) (fun hHeld => ?_)
  clear hK K
  try simp only [Act.put, List.setIfInBounds_toArray, List.set_cons_zero, List.set_cons_succ]
  refine wpAnyH_done (by kernel_rfl) ?_ _
  clear hHeld HSC HDE HS3
  have hl3 : ∀ n, (Instr.lookup 70 (.map (some bl)) (.string ⟨t.toArray⟩) false).run Tryz.prog (w3.drewN n) = .ok (.map mv) (w3.drewN n) := fun n => ((H3.out.below (Go.Proofs.YtdjlgiinekighaaGreatDoor.P.below_drewN (Below.refl _ _) n)).find HFO1.out HT.out).2
  have hl4 : ∀ n ty, (Builtin.len_ #[77] ty #[.map mv]).run Tryz.prog (w3.drewN n) = .ok (.int .i64 n0) (w3.drewN n) := fun n ty => HLE.out.len (H3.out.below (Go.Proofs.YtdjlgiinekighaaGreatDoor.P.below_drewN (Below.refl _ _) n)) ty
  have p1 := H3.out.hd.cell 1
  have q0 := X13.out.cell 0
  simp only [List.getElem?_toArray, List.getElem?_cons_succ, List.getElem?_cons_zero] at p1 q0
  have pl := H3.out.hd.lt
  have ql := X13.out.lt
  by_cases h0 : n0 = 0
  case neg =>
    have hne : ¬ ((n0 : Int) = 0) := by omega
    go_wp2_with fail
    go_quiet (fail)
    go_wp2_with fail
    go_end0
    exact ⟨rfl, L1, H3.out.below (Go.Proofs.YtdjlgiinekighaaGreatDoor.P.below_drewN (Below.refl _ _) _), HF.out, HLE.out.full h0, HN.out, HTU.out.drewN _⟩
  case pos =>
    rw [h0] at hl4
    go_wp2_with fail
    go_quiet (fail)
    obtain ⟨W5, hW5⟩ : ∃ W5, W5 = w3.drewN nq := ⟨_, rfl⟩
    have hb5 : Below w3.heap.size w3 W5 := by rw [hW5]; exact Go.Proofs.YtdjlgiinekighaaGreatDoor.P.below_drewN (Below.refl _ _) _
    rw [← hW5]
    have H5 := Lib.hid (H3.out.below hb5)
    have X5 := Lib.hid (X13.out.below hb5)
    have HB5 := Lib.hid hb5
    clear hW5 hb5 hl3 hl4 p1 q0 pl ql
    obtain ⟨w9, hd9, L9, h9, hf9, hu9, hn9, htu9⟩ := leave_end HLE.out h0 (H5.out.below (Below.refl _ W5).drew) HF.out HN.out HT.out 0
    have HD9 := Lib.hid hd9
    have hx9 : Bx 52 w9 w.heap.size #[.string ⟨t.toArray⟩, .int .i64 i] := (htu9.block _ X5.out.lt HNO.out).trans X5.out
    have HS9 := Lib.hid (show w9.cell? ⟨p, 1, none⟩ = some (.map (some bl)) ∧ w9.cell? ⟨w.heap.size, 0, none⟩ = some (.string ⟨t.toArray⟩) from ⟨h9.hd.cell 1, hx9.cell 0⟩)
    clear hx9
    have HSC5 : Hid (∀ W, Below W5.heap.size W5 W → W.cell? ⟨p, 1, none⟩ = some (.map (some bl)) ∧ W.cell? ⟨w.heap.size, 0, none⟩ = some (.string ⟨t.toArray⟩)) := Lib.hid (fun W hW => ⟨(H5.out.hd.below hW).cell 1, (X5.out.below hW).cell 0⟩)
    have H9 := Lib.hid (And.intro h9 (And.intro hf9 (And.intro hu9 (And.intro hn9 htu9))))
    have HL5 := Lib.hid H5.out.hd.lt
    clear hd9 h9 hf9 hu9 hn9 htu9
    go_wp2_with fail
    refine wp_region_held_drew (S := fun W => W.cell? ⟨p, 1, none⟩ = some (.map (some bl)) ∧ W.cell? ⟨w.heap.size, 0, none⟩ = some (.string ⟨t.toArray⟩)) (by kernel_rfl) (HSC5.out _ (Below.refl _ _).drew) (fun hHeld => ?_)
    refine take_ok (i := 0) (d := 23) (v := ?_) rfl rfl (by kernel_rfl) (by kernel_rfl) (by kernel_rfl) (fun _ _ _ h => h) (Or.inl ⟨by rfl, ?_⟩) (by assumption) ?_
    rotate_left
    · intro w9 hSw
      try dsimp only at hSw
      first | (go_simp; done) | (go_simp; with_reducible rfl)
    try simp only [Act.put, List.setIfInBounds_toArray, List.set_cons_zero, List.set_cons_succ]
    refine take_ok (i := 1) (d := 24) (v := ?_) rfl rfl (by kernel_rfl) (by kernel_rfl) (by kernel_rfl) (fun _ _ _ h => h) (Or.inl ⟨by rfl, ?_⟩) (by assumption) ?_
    rotate_left
    · intro w9 hSw
      try dsimp only at hSw
      first | (go_simp; done) | (go_simp; with_reducible rfl)
    try simp only [Act.put, List.setIfInBounds_toArray, List.set_cons_zero, List.set_cons_succ]
    refine take_ok (i := 2) (d := 25) (v := ?_) rfl rfl (by kernel_rfl) (by kernel_rfl) (by kernel_rfl) (fun _ _ _ h => h) (Or.inl ⟨by rfl, ?_⟩) (by assumption) ?_
    rotate_left
    · intro w9 hSw
      try dsimp only at hSw
      first | (go_simp; done) | (go_simp; with_reducible rfl)
    try simp only [Act.put, List.setIfInBounds_toArray, List.set_cons_zero, List.set_cons_succ]
    refine take_ok (i := 3) (d := 26) (v := ?_) rfl rfl (by kernel_rfl) (by kernel_rfl) (by kernel_rfl) (fun _ _ _ h => h) (Or.inl ⟨by rfl, ?_⟩) (by assumption) ?_
    rotate_left
    · intro w9 hSw
      try dsimp only at hSw
      first | (go_simp; done) | (go_simp; with_reducible rfl)
    try simp only [Act.put, List.setIfInBounds_toArray, List.set_cons_zero, List.set_cons_succ]
    refine take_ok (i := 4) (d := 27) (v := ?_) rfl rfl (by kernel_rfl) (by kernel_rfl) (by kernel_rfl) (fun _ _ _ h => h) (Or.inl ⟨by rfl, ?_⟩) (by assumption) ?_
    rotate_left
    · intro w9 hSw
      try dsimp only at hSw
      first | (go_simp; done) | (go_simp; with_reducible rfl)
    try simp only [Act.put, List.setIfInBounds_toArray, List.set_cons_zero, List.set_cons_succ]
    refine take_ok (i := 5) (d := 28) (v := ?_) rfl rfl (by kernel_rfl) (by kernel_rfl) (by kernel_rfl) (fun _ _ _ h => h) (Or.inl ⟨by rfl, ?_⟩) (by assumption) ?_
    rotate_left
    · intro w9 hSw
      try dsimp only at hSw
      first | (go_simp; done) | (go_simp; with_reducible rfl)
    try simp only [Act.put, List.setIfInBounds_toArray, List.set_cons_zero, List.set_cons_succ]
    refine wpAnyH_ready (rs := [6]) (by kernel_rfl) (by simp) ?_
    refine AllReadyH.cons rfl (fun K hK => ?_) AllReadyH.nil
    refine step_delete_run rfl _ _ _ _ rfl _ _ w9 rfl rfl HD9.out ?_
    refine hK.out _ _ (HS9.out) (fun hHeld => ?_)
    clear hK K
    try simp only [Act.put, List.setIfInBounds_toArray, List.set_cons_zero, List.set_cons_succ]
    refine wpAnyH_done (by kernel_rfl) ?_ _
    clear hHeld HSC5 HD9 HS9
    go_wp2_with fail
    go_end0
    obtain ⟨h9, hf9, hu9, hn9, htu9⟩ := H9.out
    exact ⟨rfl, L9, h9, hf9, hu9, hn9, HTU.out.join ((Turn.ofBelow (bn HB5.out (Below.refl _ W5).drew)).trans htu9) (fun i hi => .inl hi)⟩
end Go.Proofs.YtdjlgiinekighaaGreatDoor
/-
  An index as its callers see it: the texts' words by Keys, and what they tell of the words' places.
-/
namespace Go.Proofs.YtdjlgiinekighaaGreatDoor
open Go.RowKit Go.Lib Go.Sort Go.Shelf Go.Maps Go.Proofs.YtdjlgiinekighaaGreatDoor.P
set_option maxRecDepth 100000

/-- Where t stands in ts, counted from i. -/
def posN : Nat → List Bs → Bs → List Int
  | _, [], _ => []
  | i, a :: r, t => if a = t then (i : Int) :: posN (i + 1) r t else posN (i + 1) r t
abbrev Sx := List (Ky × List Bs)
def posS : Sx → Ky → Bs → List Int
  | [], _, _ => []
  | x :: r, k, t => if x.1 = k then posN 0 x.2 t else posS r k t
theorem posN_snoc : ∀ (ts : List Bs) (i : Nat) (a t : Bs), posN i (ts ++ [a]) t = posN i ts t ++ (if a = t then [((i + ts.length : Nat) : Int)] else [])
  | [], i, a, t => by simp [posN]
  | b :: r, i, a, t => by
    simp only [List.cons_append, posN, posN_snoc r (i + 1) a t, List.length_cons]
    rw [show i + 1 + r.length = i + (r.length + 1) from by omega]
    split <;> simp
theorem posN_no : ∀ (ts : List Bs) (i : Nat) (t : Bs), t ∉ ts → posN i ts t = []
  | [], _, _, _ => rfl
  | b :: r, i, t, h => by
    simp only [List.mem_cons, not_or] at h
    have h1 : ¬ b = t := fun e => h.1 e.symm
    simp only [posN, if_neg h1, posN_no r (i + 1) t h.2]
theorem posN_len (ts : List Bs) (i : Nat) (t : Bs) : (posN i ts t).length ≤ ts.length := by
  induction ts generalizing i with
  | nil => simp [posN]
  | cons b r ih =>
    have := ih (i + 1)
    simp only [posN, List.length_cons]
    split <;> simp <;> omega
theorem posS_no : ∀ (S : Sx) (k : Ky) (t : Bs), k ∉ S.map Prod.fst → posS S k t = []
  | [], _, _, _ => rfl
  | x :: r, k, t, h => by
    simp only [List.map_cons, List.mem_cons, not_or] at h
    have h1 : ¬ x.1 = k := fun e => h.1 e.symm
    simp only [posS, if_neg h1, posS_no r k t h.2]
theorem posS_snoc : ∀ (S : Sx) (k : Ky) (ts : List Bs) (k' : Ky) (t : Bs), k ∉ S.map Prod.fst → posS (S ++ [(k, ts)]) k' t = if k' = k then posN 0 ts t else posS S k' t
  | [], k, ts, k', t, _ => by
    simp only [List.nil_append, posS]
    by_cases h : k = k'
    · rw [if_pos h, if_pos h.symm]
    · rw [if_neg h, if_neg (fun e => h e.symm)]
  | x :: r, k, ts, k', t, h => by
    simp only [List.map_cons, List.mem_cons, not_or] at h
    simp only [List.cons_append, posS, posS_snoc r k ts k' t h.2]
    by_cases h1 : x.1 = k'
    · rw [if_pos h1, if_neg (fun e => h.1 (e.symm.trans h1.symm)), if_pos h1]
    · rw [if_neg h1, if_neg h1]
theorem posS_mid : ∀ (A B : Sx) (k : Ky) (ts : List Bs) (k' : Ky) (t : Bs), k ∉ A.map Prod.fst → k ∉ B.map Prod.fst → posS (A ++ (k, ts) :: B) k' t = if k' = k then posN 0 ts t else posS (A ++ B) k' t
  | [], B, k, ts, k', t, _, _ => by
    simp only [List.nil_append, posS]
    by_cases h : k = k'
    · rw [if_pos h, if_pos h.symm]
    · rw [if_neg h, if_neg (fun e => h e.symm)]
  | x :: r, B, k, ts, k', t, h, hB => by
    simp only [List.map_cons, List.mem_cons, not_or] at h
    simp only [List.cons_append, posS, posS_mid r B k ts k' t h.2 hB]
    by_cases h1 : x.1 = k'
    · rw [if_pos h1, if_neg (fun e => h.1 (e.symm.trans h1.symm)), if_pos h1]
    · rw [if_neg h1, if_neg h1]
/-- Put, word by word. -/
def putF (S : Sx) (k : Ky) (ts : List Bs) (j : Nat) : Ky → Bs → List Int := posS (S ++ [(k, ts.take j)])
theorem putF_zero (S : Sx) (k : Ky) (ts : List Bs) (h : k ∉ S.map Prod.fst) : putF S k ts 0 = posS S := by
  funext k' t
  unfold putF
  rw [List.take_zero, posS_snoc S k [] k' t h]
  split
  · rename_i e; rw [e, posS_no S k t h]; rfl
  · rfl
theorem putF_next (S : Sx) (k : Ky) (ts : List Bs) (j : Nat) (h : k ∉ S.map Prod.fst) (hj : j < ts.length) : addF (putF S k ts j) k ts[j] (j : Int) = putF S k ts (j + 1) := by
  funext k' t
  unfold putF addF
  rw [posS_snoc S k _ k ts[j] h, if_pos rfl, posS_snoc S k _ k' t h, posS_snoc S k _ k' t h, List.take_succ_eq_append_getElem hj, posN_snoc]
  rw [List.length_take, Nat.min_eq_left (Nat.le_of_lt hj), Nat.zero_add]
  by_cases h1 : k' = k
  · by_cases h2 : t = ts[j]
    · rw [if_pos ⟨h1, h2⟩, if_pos h1, h2, if_pos rfl]
    · rw [if_neg (fun e => h2 e.2), if_pos h1, if_pos h1, if_neg (fun e => h2 e.symm), List.append_nil]
  · rw [if_neg (fun e => h1 e.1), if_neg h1, if_neg h1]
theorem putF_all (S : Sx) (k : Ky) (ts : List Bs) : putF S k ts ts.length = posS (S ++ [(k, ts)]) := by unfold putF; rw [List.take_length]
/-- Drop, word by word. -/
def dropF (S : Sx) (k : Ky) (ts : List Bs) (j : Nat) : Ky → Bs → List Int := fun k' t => if k' = k ∧ t ∈ ts.take j then [] else posS S k' t
theorem dropF_zero (S : Sx) (k : Ky) (ts : List Bs) : dropF S k ts 0 = posS S := by
  funext k' t
  simp [dropF]
theorem dropF_next (S : Sx) (k : Ky) (ts : List Bs) (j : Nat) (hj : j < ts.length) : delF (dropF S k ts j) k ts[j] = dropF S k ts (j + 1) := by
  funext k' t
  unfold dropF delF
  rw [List.take_succ_eq_append_getElem hj]
  simp only [List.mem_append, List.mem_singleton]
  by_cases h1 : k' = k
  · by_cases h2 : t = ts[j]
    · rw [if_pos ⟨h1, h2⟩, if_pos ⟨h1, .inr h2⟩]
    · rw [if_neg (fun e => h2 e.2)]
      by_cases h3 : t ∈ ts.take j
      · rw [if_pos ⟨h1, h3⟩, if_pos ⟨h1, .inl h3⟩]
      · rw [if_neg (fun e => h3 e.2), if_neg (fun e => e.2.elim h3 h2)]
  · rw [if_neg (fun e => h1 e.1), if_neg (fun e => h1 e.1), if_neg (fun e => h1 e.1)]
theorem dropF_all (A B : Sx) (k : Ky) (ts : List Bs) (hA : k ∉ A.map Prod.fst) (hB : k ∉ B.map Prod.fst) : dropF (A ++ (k, ts) :: B) k ts ts.length = posS (A ++ B) := by
  funext k' t
  unfold dropF
  rw [List.take_length, posS_mid A B k ts k' t hA hB]
  by_cases h1 : k' = k
  · subst h1
    have h0 : posS (A ++ B) k' t = [] := posS_no _ _ _ (by simp only [List.map_append, List.mem_append, not_or]; exact ⟨hA, hB⟩)
    by_cases h2 : t ∈ ts
    · rw [if_pos ⟨rfl, h2⟩, h0]
    · rw [if_neg (fun e => h2 e.2), if_pos rfl, posN_no _ _ _ h2, h0]
  · rw [if_neg (fun e => h1 e.1), if_neg h1]
def txs (x : Tx) : Ky × List Bs := (txo x, x.ts)
theorem txs_fst (T : List Tx) : (T.map txs).map Prod.fst = T.map txo := by simp [txs]
/-- The texts' map turned, and it alone. -/
theorem IxL.texts {w w' : World} {p bt bl : Nat} {T T' : List Tx} {L : List Wn} {own own' : Nat → Prop} (h : IxL w p bt bl T L own) (h1 : ∀ i, own i → own' i) (h2 : ∀ i, own' i → i < w.heap.size) (hpm : PM Tryz.prog w' 31 bt (T'.map tv)) (ht : w.mapTurned w' bt)
    (htr : ∀ x ∈ T', Go.Proofs.YtdjlgiinekighaaGreatDoor.T.WordsAt w 0 x.v x.ts ∧ (∀ g, x.v.ownBlock = some g → own' g) ∧ okKy (txo x)) : IxL w' p bt bl T' L own' := by
  have hnb := h.nb
  rw [List.nodup_cons, List.nodup_cons] at hnb
  simp only [List.mem_cons, not_or] at hnb
  have same : ∀ i, i < w.heap.size → i ≠ bt → w'.heap[i]? = w.heap[i]? := fun i hi hne => turned_block ht hi hne
  have hsz := ht.grown.size
  refine ⟨fun i hi => Nat.lt_of_lt_of_le (h2 i hi) hsz, h1 _ h.op, h1 _ h.ot, h1 _ h.ol, (same _ h.hd.lt h.pb.1).trans h.hd, hpm, fun x hx => ?_, fun x hx => (htr x hx).2.1, fun x hx => (htr x hx).2.2, h.lm.of_block (same _ h.lm.lt (fun e => hnb.1.1 e.symm)), h.lt, fun x hx => h1 _ (h.lo x hx), fun x hx => ?_, fun x hx e he => ?_, fun x hx e he g hg => h1 _ (h.lw x hx e he g hg), h.lk, h.nb, h.nr⟩
  · exact ownsRow_of_block (htr x hx).1 fun g hg => same g (h2 _ ((htr x hx).2.1 g hg)) (row_ne_map h.tm (htr x hx).1 hg)
  · exact (h.lp x hx).of_block (same _ (h.lp x hx).lt (fun e => hnb.1.2 (e ▸ List.mem_map_of_mem hx)))
  · exact ownsRow_of_block (h.lr x hx e he) fun g hg => same g (h.up _ (h.lw x hx e he g hg)) (row_ne_map h.tm (h.lr x hx e he) hg)
/-- An index in memory, as its callers see it. -/
def Ix (w : World) (p : Nat) (S : Sx) (n : Nat) (own : Nat → Prop) : Prop := ∃ bt bl T L, IxL w p bt bl T L own ∧ T.map txs = S ∧ Tells L (posS S) ∧ Full L ∧ Few n T L
theorem Ix.keep {w w' : World} {p : Nat} {S : Sx} {n : Nat} {own : Nat → Prop} (h : Ix w p S n own) (hs : w.heap.size ≤ w'.heap.size) (hb : ∀ i, own i → w'.heap[i]? = w.heap[i]?) : Ix w' p S n own := by
  obtain ⟨bt, bl, T, L, h1, h2⟩ := h
  exact ⟨bt, bl, T, L, h1.keep hs hb, h2⟩
theorem Ix.below {w w' : World} {p : Nat} {S : Sx} {n : Nat} {own : Nat → Prop} (h : Ix w p S n own) (hb : Below w.heap.size w w') : Ix w' p S n own := by
  obtain ⟨bt, bl, T, L, h1, h2⟩ := h
  exact ⟨bt, bl, T, L, h1.below hb, h2⟩
theorem Ix.up {w : World} {p : Nat} {S : Sx} {n : Nat} {own : Nat → Prop} (h : Ix w p S n own) : ∀ i, own i → i < w.heap.size := by
  obtain ⟨bt, bl, T, L, h1, h2⟩ := h
  exact h1.up
theorem Ix.few {w : World} {p : Nat} {S : Sx} {n m : Nat} {own : Nat → Prop} (h : Ix w p S n own) (hm : n ≤ m) : Ix w p S m own := by
  obtain ⟨bt, bl, T, L, h1, h2, h3, h4, h5⟩ := h
  exact ⟨bt, bl, T, L, h1, h2, h3, h4, Nat.le_trans h5.t hm, Nat.le_trans h5.l hm, fun x hx => Nat.le_trans (h5.e x hx) hm, fun x hx e he => Nat.le_trans (h5.s x hx e he) hm⟩
theorem IxL.tks {w : World} {p bt bl : Nat} {T : List Tx} {L : List Wn} {own : Nat → Prop} (h : IxL w p bt bl T L own) : (T.map txo).Nodup := by
  have := h.tm.nd
  rw [tv_fst] at this
  exact List.Pairwise.of_map kyv (fun a b h e => h (by rw [e])) this
/-- No index without its own box. -/
theorem Ix.op {w : World} {p : Nat} {S : Sx} {n : Nat} {own : Nat → Prop} (h : Ix w p S n own) : own p := by
  obtain ⟨bt, bl, T, L, h1, h2⟩ := h
  exact h1.op
set_option maxHeartbeats 1000000 in
theorem new_c (w : World) : Calls Tryz.prog 10 #[] w fun e w' => ∃ p own, e = .returned (.pointer (some ⟨p, 0, none⟩)) ∧ Ix w' p [] 0 own ∧ (∀ i, own i → w.heap.size ≤ i) ∧ Below w.heap.size w w' := by
  have hm1 : ∀ w, (Instr.makeMap 69 none).run Tryz.prog w = .ok (.map (some w.heap.size)) (w.alloc (.map #[] 0)) := fun w => by simp [Instr.makeMap, go_sem]
  have hm2 : ∀ w, (Instr.makeMap 70 none).run Tryz.prog w = .ok (.map (some w.heap.size)) (w.alloc (.map #[] 0)) := fun w => by simp [Instr.makeMap, go_sem]
  go_enter Tryz.func10, Tryz.ntmps10
  go_wp2
  go_ret
  have hn1 : PM Tryz.prog (w.alloc (.map #[] 0)) 31 w.heap.size [] := PM.new _ w _
  have hn2 : PM Tryz.prog ((w.alloc (.map #[] 0)).alloc (.map #[] 0)) 9 (w.heap.size + 1) [] := by
    have := PM.new Tryz.prog (w.alloc (.map #[] 0)) 9
    rwa [World.size_alloc] at this
  have hn3 : Bx 72 (((w.alloc (.map #[] 0)).alloc (.map #[] 0)).alloc (.cells #[.map (some w.heap.size), .map (some (w.heap.size + 1))] 72)) (w.heap.size + 1 + 1) #[.map (some w.heap.size), .map (some (w.heap.size + 1))] := by
    have := Bx.new 72 ((w.alloc (.map #[] 0)).alloc (.map #[] 0)) #[.map (some w.heap.size), .map (some (w.heap.size + 1))]
    rwa [World.size_alloc, World.size_alloc] at this
  refine ⟨_, fun i => w.heap.size ≤ i ∧ i < w.heap.size + 1 + 1 + 1, rfl, ⟨w.heap.size, w.heap.size + 1, [], [], ?_, rfl, ⟨fun x hx => (by cases hx), fun k t h => absurd rfl h⟩, fun x hx => (by cases hx), ⟨Nat.le_refl _, Nat.le_refl _, fun x hx => (by cases hx), fun x hx => (by cases hx)⟩⟩, fun i hi => hi.1, ((Below.refl _ _).alloc (Nat.le_refl _) _ |>.alloc (by simp) _).alloc (by simp; omega) _⟩
  refine ⟨fun i hi => by simp only [World.size_alloc]; exact hi.2, ⟨by omega, by omega⟩, ⟨by omega, by omega⟩, ⟨by omega, by omega⟩, hn3, (hn1.below (alloc_below _ _)).below (alloc_below _ _), fun x hx => (by cases hx), fun x hx => (by cases hx), fun x hx => (by cases hx), hn2.below (alloc_below _ _), fun x hx => (by cases hx), fun x hx => (by cases hx), fun x hx => (by cases hx), fun x hx => (by cases hx), fun x hx => (by cases hx), fun x hx => (by cases hx), ?_, List.Pairwise.nil⟩
  simp
end Go.Proofs.YtdjlgiinekighaaGreatDoor
/-
  The words of a text that may be; how they lie.
-/
namespace Go.Proofs.YtdjlgiinekighaaGreatDoor
open Go.RowKit Go.Lib Go.Sort Go.Shelf Go.Maps Go.Proofs.YtdjlgiinekighaaGreatDoor.P Go.Proofs
set_option maxRecDepth 100000

theorem enc_inj : ∀ (a b : List Nat), GvTok.Ok a → GvTok.Ok b → GvTok.enc a = GvTok.enc b → a = b
  | [], [], _, _, _ => rfl
  | [], r :: t, _, hb, h => by rw [GvTok.enc_cons, GvTok.enc_nil] at h; exact absurd h.symm (GvTok.encN_ne r _)
  | r :: t, [], ha, _, h => by rw [GvTok.enc_cons, GvTok.enc_nil] at h; exact absurd h (GvTok.encN_ne r _)
  | r :: t, r' :: t', ha, hb, h => by
    rw [GvTok.enc_cons, GvTok.enc_cons] at h
    have h1 := GvTok.decode_encN r ha.head (GvTok.enc t)
    have h2 := GvTok.decode_encN r' hb.head (GvTok.enc t')
    rw [h] at h1
    rw [h2, Prod.mk.injEq] at h1
    obtain ⟨e1, e2⟩ := h1
    subst e1
    rw [enc_inj t t' ha.tail hb.tail (List.append_cancel_left h)]
open Classical in
/-- The words of a text. -/
noncomputable def wordsOf (s : ByteArray) : List Bs := if h : ∃ rs, GvTok.Ok rs ∧ GvTok.enc rs = s.data.toList then GvTok.words (Classical.choose h) else []
theorem wordsOf_eq {s : ByteArray} {rs : List Nat} (ho : GvTok.Ok rs) (he : s.data.toList = GvTok.enc rs) : wordsOf s = GvTok.words rs := by
  have h : ∃ rs, GvTok.Ok rs ∧ GvTok.enc rs = s.data.toList := ⟨rs, ho, he.symm⟩
  unfold wordsOf
  rw [dif_pos h]
  have h2 := Classical.choose_spec h
  rw [enc_inj _ _ h2.1 ho (h2.2.trans he)]
theorem runs_le : ∀ (rs cur : List Nat), ∀ x ∈ GvTok.runs cur rs, x.length ≤ cur.length + rs.length
  | [], cur, x, hx => by
    by_cases hc : cur = []
    · subst hc; simp [GvTok.runs] at hx
    · rw [GvTok.runs_nil cur hc] at hx
      simp only [List.mem_singleton] at hx
      subst hx; simp
  | r :: t, cur, x, hx => by
    cases hl : GvTok.letter r
    · by_cases hc : cur = []
      · subst hc
        rw [GvTok.runs_other0 _ _ hl] at hx
        have := runs_le t [] x hx
        simp at this ⊢; omega
      · rw [GvTok.runs_other _ _ _ hl hc] at hx
        rcases List.mem_cons.1 hx with rfl | hx
        · simp
        · have := runs_le t [] x hx
          simp at this ⊢; omega
    · rw [GvTok.runs_letter _ _ _ hl] at hx
      have := runs_le t _ x hx
      simp at this ⊢; omega
theorem words_few {rs : List Nat} (h : rs.length ≤ 120) : (GvTok.words rs).length ≤ 120 ∧ ∀ t ∈ GvTok.words rs, t.length ≤ 1000 := by
  constructor
  · have := GvTok.runs_length rs []
    unfold GvTok.words
    rw [List.length_map]
    simp at this; omega
  · intro t ht
    obtain ⟨x, hx, rfl⟩ := List.mem_map.1 ht
    have h1 := runs_le rs [] x hx
    have h2 := (GvTok.low_len x).1
    simp only [List.length_nil] at h1
    omega
theorem may_text {s : ByteArray} (h : R.tmayB s.data.toList = true) : ∃ rs, GvTok.Ok rs ∧ s.data.toList = GvTok.enc rs ∧ s.size ≤ 120 ∧ rs.length ≤ 120 := by
  simp only [R.tmayB, Bool.and_eq_true, decide_eq_true_eq] at h
  obtain ⟨rs, ho, he⟩ := GvTok.valid_split _ h.2
  have hz : s.size ≤ 120 := by rw [Lib.size_eq]; exact h.1
  refine ⟨rs, ho, he.symm, hz, ?_⟩
  have := GvTok.enc_le rs
  rw [he] at this
  omega
theorem wcells_at : ∀ (ts : List Bs) (i k : Nat) (hk : k < ts.length), (T.wcells i ts)[k * 2]? = some (.string ⟨ts[k].toArray⟩) ∧ (T.wcells i ts)[k * 2 + 1]? = some (.int .i64 ((i + k : Nat) : Int))
  | [], i, k, hk => by simp at hk
  | t :: ts, i, 0, hk => by simp [T.wcells]
  | t :: ts, i, k + 1, hk => by
    have := wcells_at ts (i + 1) k (by simpa using hk)
    rw [show (k + 1) * 2 = k * 2 + 2 from by omega]
    simp only [T.wcells, List.getElem?_cons_succ, List.getElem_cons_succ]
    rw [show i + (k + 1) = i + 1 + k from by omega]
    exact this
/-- A word read. -/
theorem words_at {w : World} {B : Nat} {v : Value} {ts : List Bs} (h : T.WordsAt w B v ts) {k : Nat} (hk : k < ts.length) : ∃ g C, v = .slice (some ⟨g, 0, none⟩) ts.length C ∧ w.cell? ⟨g, k * 2, none⟩ = some (.string ⟨ts[k].toArray⟩) ∧ w.cell? ⟨g, k * 2 + 1, none⟩ = some (.int .i64 (k : Int)) := by
  obtain ⟨g, C, e, _⟩ := World.ownsRow.form h (by omega)
  have hl := T.wcells_length ts 0
  subst e
  refine ⟨g, C, rfl, ?_, ?_⟩
  · exact (World.ownsRow.cellAt h (k * 2) (by omega)).trans (wcells_at ts 0 k hk).1
  · have := (World.ownsRow.cellAt h (k * 2 + 1) (by omega)).trans (wcells_at ts 0 k hk).2
    simpa using this
theorem IxL.text_no {w : World} {p bt bl : Nat} {T : List Tx} {L : List Wn} {own : Nat → Prop} (h : IxL w p bt bl T L own) {k : Ky} (hk : okKy k) (hn : k ∉ T.map txo) :
    (Instr.lookup 69 (.map (some bt)) (kyv k) true).run Tryz.prog w = .ok (.tuple #[.slice none 0 0, .bool false]) w ∧ (Instr.lookup 69 (.map (some bt)) (kyv k) false).run Tryz.prog w = .ok (.slice none 0 0) w := by
  obtain ⟨l, hl⟩ := kyv_lit k hk
  refine h.tm.look_no (z := .slice none 0 0) (Keyed.of_law keyLaw) Tryz.underlying69 (fun w => by simp [Tryz.zeroValue49]) hl ?_
  rw [tv_fst]
  intro h2
  obtain ⟨x, hx, e⟩ := List.mem_map.1 h2
  exact hn (kyv_inj e ▸ hx)
theorem IxL.text_at {w : World} {p bt bl : Nat} {T : List Tx} {L : List Wn} {own : Nat → Prop} (h : IxL w p bt bl T L own) {x : Tx} (hx : x ∈ T) :
    (Instr.lookup 69 (.map (some bt)) (kyv (txo x)) true).run Tryz.prog w = .ok (.tuple #[x.v, .bool true]) w ∧ (Instr.lookup 69 (.map (some bt)) (kyv (txo x)) false).run Tryz.prog w = .ok x.v w := by
  obtain ⟨l, hl⟩ := kyv_lit (txo x) (h.tk x hx)
  exact h.tm.look (z := .slice none 0 0) (Keyed.of_law keyLaw) Tryz.underlying69 (fun w => by simp [Tryz.zeroValue49]) hl (v := x.v) (List.mem_map.2 ⟨x, hx, rfl⟩)
end Go.Proofs.YtdjlgiinekighaaGreatDoor
