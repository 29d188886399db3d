/-
  Boxes, bytes, pieces of them, appending, copying, comparing; what the laws share.
-/
import Derived.Laws.BytesArg
import Derived.Lib.SliceRun
import Derived.Maps.OwnSet
import Derived.Maps.Ext
import Derived.Sort.KeysCollected
import Derived.Test.YtjmkphnppegegaaGreatDoorPkA
import Derived.Test.YtjmkphnppegegaaGreatDoorIter
import Derived.Laws.Cover1
namespace Go.Proofs.YtjmkphnppegegaaGreatDoor
open Go.RowKit Go.Lib
set_option maxRecDepth 100000
theorem drbapp_run (l m : List Int) (v u : Value) (w : World) (ty : TypeId) (B : Nat) (h : BRow w B v l) (hu : Bl w u m) (hn : l.length + m.length ≤ 2000000) (hB : B ≤ w.heap.size) :
    ∃ A N C w1, (Builtin.append_ #[78, 78] ty #[v, u]).run Tryz.prog w = .ok (.slice A N C) w1 ∧ BRow w1 B (.slice A N C) (l ++ m) ∧ Below B w w1 := by
  rcases hu with ⟨rfl, rfl⟩ | ⟨ad, cap, rfl, hu⟩
  · obtain ⟨a, c, rfl, hc⟩ := h.bc.2
    have hc' : ¬ c < l.length := by omega
    refine ⟨a, _, c, w, ?_, by rw [List.append_nil]; exact h, Below.refl _ _⟩
    cases a <;> simp [hc', Builtin.append_, go_sem, run_underlying Tryz.underlying78]
  · obtain ⟨i0, hi, hz0, hz1, hz2⟩ := info_parts byteInfo
    obtain ⟨v', w', h1, h2, h3, _, _⟩ := run_append_own_at (P := Tryz.prog) w B 78 ty 5 i0 (.int .u8 0) 1 1 Tryz.underlying78 hi hz0 hz1 hz2 rfl (by decide) v l.length (bys l) h ad m.length cap (bys m) (by rw [bys_len, Nat.mul_one]) (Bl.news hu) (bys_one m) (by unfold maxLen; omega) (by omega) hB
    have hr : BRow w' B v' (l ++ m) := by
      unfold BRow
      rw [List.length_append, show bys (l ++ m) = bys l ++ bys m by simp [bys]]
      exact h2
    obtain ⟨a, c, rfl, _⟩ := hr.nl.form
    exact ⟨a, _, c, w', h1, hr, below_of_grown h3 hB (fun g hg => (World.ownsRow.lt h g hg).1)⟩
set_option maxHeartbeats 4000000 in
theorem drclone_c (l : List Int) (v : Value) (w : World) (h : Bl w v l) (hn : l.length ≤ 2000000) : Calls Tryz.prog 68 #[v] w (rowB w.heap.size l w) := by
  rcases h with ⟨rfl, rfl⟩ | ⟨ad, cap, rfl, h⟩
  · have hq := fun W => Lib.run_eql_slice_nil (P := Tryz.prog) W 78 5 none 0 0 0 0 Tryz.underlying78
    go_enter Tryz.func68, Tryz.ntmps68
    go_wp2
    go_ret
    exact ⟨_, rfl, BRow.nil _ _, Below.refl _ _⟩
  · obtain ⟨i0, hi, hz0, hz1, hz2⟩ := info_parts byteInfo
    have HN : Hid (∀ i u, (bys l)[i]? = some u → (w.alloc (.cells #[] 5)).cell? (ad.add i) = some u) := Lib.hid (fun i u hu => by
      have h1 := Bl.news h i u hu
      exact (((Below.refl _ w).alloc (Nat.le_refl _) (.cells #[] 5)).cell (World.block_lt_of_cell? w _ h1)).trans h1)
    have HO := Lib.hid (brow_empty w)
    have hq := fun W => Lib.run_eql_slice_nil (P := Tryz.prog) W 78 5 (some ad) l.length cap 0 0 Tryz.underlying78
    clear h
    go_enter Tryz.func68, Tryz.ntmps68
    go_wp2_with (at_builtin; refine wpList_append_own _ rfl _ _ 78 rfl w.heap.size 5 i0 (.int .u8 0) 1 1 Tryz.underlying78 hi hz0 hz1 hz2 rfl (by decide) _ _ _ rfl HO.out ad l.length cap (bys l) rfl (by rw [bys_len, Nat.mul_one]) (by exact HN.out) (bys_one l) (by unfold maxLen; omega) (by omega) (by simp) ?_; intro v' w3 hown3 hgrow3 hnil3)
    go_ret
    refine ⟨_, rfl, by rw [Nat.zero_add, List.nil_append] at hown3; exact hown3, ?_⟩
    exact ((Below.refl _ w).alloc (Nat.le_refl _) _).trans (below_of_grown hgrow3 (by simp) (by intro g hg; cases hg; exact Nat.le_refl _))
end Go.Proofs.YtjmkphnppegegaaGreatDoor
/-
  A drive's files as a plain list, by rising names; what a map of them reads as.
-/
namespace Go.Proofs.YtjmkphnppegegaaGreatDoor
open Go.RowKit Go.Lib
set_option maxRecDepth 100000
/-- A file: its name, its block, its slice, its bytes, how many of them are synced. -/
structure Fl where
  n : List UInt8
  b : Nat
  v : Value
  a : List Int
  f : Nat
def ptrElem : Value → Option (DataW Unit × List MemPlace)
  | .pointer none => some (.nil, [])
  | .pointer (some ⟨b, 0, none⟩) => some (.lit (.int .i64 (b : Int)), [])
  | _ => none
theorem ptrElem_at {v : Value} {b : Nat} {ps : List MemPlace} (h : ptrElem v = some (.lit (.int .i64 (b : Int)), ps)) : v = .pointer (some ⟨b, 0, none⟩) := by
  unfold ptrElem at h
  split at h
  · cases h
  · simp only [Option.some.injEq, Prod.mk.injEq, DataW.lit.injEq, Lit.int.injEq, true_and] at h
    obtain ⟨h, _⟩ := h
    have : _ = b := Int.ofNat.inj h
    subst this
    rfl
  · cases h
theorem ptrElem_nil {v : Value} {ps : List MemPlace} (h : ptrElem v = some (.nil, ps)) : v = .pointer none := by
  unfold ptrElem at h
  split at h
  · rfl
  · cases h
  · cases h
def ent (x : Fl) : Lit × DataW Unit := (.string x.n, .lit (.int .i64 (x.b : Int)))
def Dof (L : List Fl) : DataW Unit := .map (L.map ent)
def ins (x : Fl) : List Fl → List Fl
  | [] => [x]
  | y :: r => if bytesBefore x.n y.n then x :: y :: r else y :: ins x r
def Up (L : List Fl) : Prop := L.Pairwise (fun x y => bytesBefore x.n y.n = true)
theorem same_str (a b : List UInt8) : (Lit.string a).sameKey (.string b) = (a == b) := rfl
theorem insert_ent (x : Fl) : ∀ L : List Fl, DataW.insert (ent x) (L.map ent) = (ins x L).map ent
  | [] => rfl
  | y :: r => by
    rw [List.map_cons, DataW.insert, ins]
    have e : (ent x).1.before (ent y).1 = bytesBefore x.n y.n := rfl
    rw [e]
    split
    · rfl
    · rw [insert_ent x r, List.map_cons]
theorem filter_ent (s : List UInt8) (L : List Fl) : (L.map ent).filter (fun p => !p.1.sameKey (.string s)) = (L.filter (fun y => !(y.n == s))).map ent := by
  rw [List.filter_map]
  rfl
theorem Dof_del (s : List UInt8) (L : List Fl) : (Dof L).del (.string s) = Dof (L.filter (fun y => !(y.n == s))) := by
  show DataW.map _ = DataW.map _
  rw [filter_ent]
theorem filter_none {s : List UInt8} {L : List Fl} (h : ∀ y ∈ L, y.n ≠ s) : L.filter (fun y => !(y.n == s)) = L :=
  List.filter_eq_self.2 fun y hy => by simpa using h y hy
theorem Dof_put {x : Fl} {L : List Fl} (h : ∀ y ∈ L, y.n ≠ x.n) : (Dof L).put (.string x.n) (.lit (.int .i64 (x.b : Int))) = Dof (ins x L) := by
  show DataW.map (DataW.insert (ent x) _) = DataW.map _
  rw [filter_ent, filter_none h, insert_ent]
theorem Dof_has (s : List UInt8) (L : List Fl) : Maps.has (Dof L) (.string s) = L.any (fun y => y.n == s) := by
  show (L.map ent).any _ = _
  rw [List.any_map]
  rfl
theorem Dof_hasNo {s : List UInt8} {L : List Fl} (h : ∀ y ∈ L, y.n ≠ s) : Maps.has (Dof L) (.string s) = false := by
  rw [Dof_has, List.any_eq_false]
  intro y hy
  simpa using h y hy
theorem Dof_at {x : Fl} {pre post : List Fl} (h : ∀ y ∈ pre, y.n ≠ x.n) (z : DataW Unit) : (Dof (pre ++ x :: post)).atKey (.string x.n) z = .lit (.int .i64 (x.b : Int)) := by
  have e : ((pre ++ x :: post).map ent).find? (fun p => p.1.sameKey (.string x.n)) = some (ent x) := by
    rw [List.map_append, List.find?_append, List.find?_eq_none.2, List.map_cons, List.find?_cons_of_pos]
    · rfl
    · show (x.n == x.n) = true
      simp
    · intro p hp
      obtain ⟨y, hy, rfl⟩ := List.mem_map.1 hp
      show ¬ (y.n == x.n) = true
      simpa using h y hy
  unfold Dof DataW.atKey
  simp only [e]
  rfl
theorem Dof_hasYes (x : Fl) (pre post : List Fl) : Maps.has (Dof (pre ++ x :: post)) (.string x.n) = true := by
  rw [Dof_has, List.any_eq_true]
  exact ⟨x, by simp, by simp⟩
theorem Dof_keys (L : List Fl) : strKeys (Dof L) = L.map (·.n) := by
  show (L.map ent).map _ = _
  rw [List.map_map]
  rfl
theorem Dof_size (L : List Fl) : Maps.size (Dof L) = L.length := List.length_map ..
theorem ins_mem {x y : Fl} : ∀ {L : List Fl}, y ∈ ins x L ↔ y = x ∨ y ∈ L
  | [] => by simp [ins]
  | z :: r => by
    rw [ins]
    split
    · simp
    · simp only [List.mem_cons, ins_mem (L := r)]
      constructor
      · rintro (h | h | h)
        · exact .inr (.inl h)
        · exact .inl h
        · exact .inr (.inr h)
      · rintro (h | h | h)
        · exact .inr (.inl h)
        · exact .inl h
        · exact .inr (.inr h)
theorem ins_len (x : Fl) : ∀ L : List Fl, (ins x L).length = L.length + 1
  | [] => rfl
  | z :: r => by
    rw [ins]
    split
    · rfl
    · simp [ins_len x r]
theorem ins_up {x : Fl} : ∀ {L : List Fl}, Up L → (∀ y ∈ L, y.n ≠ x.n) → Up (ins x L)
  | [], _, _ => List.pairwise_singleton ..
  | z :: r, h, hn => by
    obtain ⟨h1, h2⟩ := List.pairwise_cons.1 h
    rw [ins]
    split
    · rename_i hb
      refine List.pairwise_cons.2 ⟨fun y hy => ?_, h⟩
      rcases List.mem_cons.1 hy with rfl | hy
      · exact hb
      · exact WideShapes.bytes_trans _ _ _ hb (h1 y hy)
    · rename_i hb
      refine List.pairwise_cons.2 ⟨fun y hy => ?_, ins_up h2 (fun y hy => hn y (List.mem_cons_of_mem _ hy))⟩
      rcases ins_mem.1 hy with rfl | hy
      · rcases WideAt.bytes_total _ _ (hn z (List.mem_cons_self ..)) with h | h
        · exact h
        · exact absurd h hb
      · exact h1 y hy
/-- The list with one more stands around it. -/
theorem ins_parts (x : Fl) : ∀ L : List Fl, ∃ pre post, ins x L = pre ++ x :: post ∧ L = pre ++ post
  | [] => ⟨[], [], rfl, rfl⟩
  | z :: r => by
    rw [ins]
    split
    · exact ⟨[], z :: r, rfl, rfl⟩
    · obtain ⟨pre, post, h1, h2⟩ := ins_parts x r
      exact ⟨z :: pre, post, by rw [h1]; rfl, by rw [h2]; rfl⟩
theorem Up.ne {pre post : List Fl} {x : Fl} (h : Up (pre ++ x :: post)) : (∀ y ∈ pre, y.n ≠ x.n) ∧ (∀ y ∈ post, y.n ≠ x.n) := by
  obtain ⟨_, h2, h3⟩ := List.pairwise_append.1 h
  obtain ⟨h4, _⟩ := List.pairwise_cons.1 h2
  refine ⟨fun y hy e => ?_, fun y hy e => ?_⟩
  · have := h3 y hy x (List.mem_cons_self ..)
    rw [e, WideAt.bytes_irrefl] at this
    cases this
  · have := h4 y hy
    rw [e, WideAt.bytes_irrefl] at this
    cases this

/-- Files, as all see them: name, bytes, how many are synced. -/
abbrev Pf := List UInt8 × List Int × Nat
def pl (x : Fl) : Pf := (x.n, x.a, x.f)
def usedP : List Pf → Nat
  | [] => 0
  | y :: r => y.2.1.length + usedP r
def lookP (s : List UInt8) : List Pf → Option (List Int × Nat)
  | [] => none
  | y :: r => if y.1 == s then some y.2 else lookP s r
def insP (x : Pf) : List Pf → List Pf
  | [] => [x]
  | y :: r => if bytesBefore x.1 y.1 then x :: y :: r else y :: insP x r
def updP (s : List UInt8) (g : List Int × Nat) (P : List Pf) : List Pf := P.map fun y => if y.1 == s then (y.1, g) else y
def delP (s : List UInt8) (P : List Pf) : List Pf := P.filter fun y => !(y.1 == s)
def crashP : Nat → List Pf → List Pf
  | _, [] => []
  | k, y :: r => (y.1, y.2.1.take (y.2.2 + min k (y.2.1.length - y.2.2)), y.2.2 + min k (y.2.1.length - y.2.2)) :: crashP (k - min k (y.2.1.length - y.2.2)) r
theorem ins_pl (x : Fl) : ∀ L : List Fl, (ins x L).map pl = insP (pl x) (L.map pl)
  | [] => rfl
  | y :: r => by
    rw [ins, List.map_cons, insP]
    have e : bytesBefore (pl x).1 (pl y).1 = bytesBefore x.n y.n := rfl
    rw [e]
    split
    · rfl
    · rw [List.map_cons, ins_pl x r]
theorem look_none {s : List UInt8} : ∀ {L : List Fl}, lookP s (L.map pl) = none → ∀ y ∈ L, y.n ≠ s
  | z :: r, h, y, hy => by
    rw [List.map_cons, lookP] at h
    split at h
    · cases h
    · rename_i hz
      rcases List.mem_cons.1 hy with rfl | hy
      · simpa [pl] using hz
      · exact look_none h y hy
theorem look_some {s : List UInt8} {a : List Int} {f : Nat} : ∀ {L : List Fl}, lookP s (L.map pl) = some (a, f) → ∃ pre x post, L = pre ++ x :: post ∧ x.n = s ∧ x.a = a ∧ x.f = f
  | z :: r, h => by
    rw [List.map_cons, lookP] at h
    split at h
    · rename_i hz
      simp only [pl, Option.some.injEq, Prod.mk.injEq] at h
      exact ⟨[], z, r, rfl, by simpa [pl] using hz, h.1, h.2⟩
    · obtain ⟨pre, x, post, rfl, h1⟩ := look_some h
      exact ⟨z :: pre, x, post, rfl, h1⟩
theorem updP_pl {pre post : List Fl} {x x' : Fl} (h : Up (pre ++ x :: post)) (hn : x'.n = x.n) : updP x.n (x'.a, x'.f) ((pre ++ x :: post).map pl) = (pre ++ x' :: post).map pl := by
  obtain ⟨h1, h2⟩ := h.ne
  have e : ∀ L : List Fl, (∀ y ∈ L, y.n ≠ x.n) → (L.map pl).map (fun y : Pf => if y.1 == x.n then (y.1, (x'.a, x'.f)) else y) = L.map pl := by
    intro L hL
    rw [List.map_map]
    refine List.map_congr_left fun y hy => ?_
    have := hL y hy
    simp [pl, this]
  unfold updP
  rw [List.map_append, List.map_append, List.map_cons, List.map_cons, e pre h1, e post h2, List.map_append, List.map_cons]
  simp [pl, hn]
theorem delP_pl {pre post : List Fl} {x : Fl} (h : Up (pre ++ x :: post)) : delP x.n ((pre ++ x :: post).map pl) = (pre ++ post).map pl := by
  obtain ⟨h1, h2⟩ := h.ne
  have e : ∀ L : List Fl, (∀ y ∈ L, y.n ≠ x.n) → (L.map pl).filter (fun y : Pf => !(y.1 == x.n)) = L.map pl := by
    intro L hL
    refine List.filter_eq_self.2 fun y hy => ?_
    obtain ⟨z, hz, rfl⟩ := List.mem_map.1 hy
    have := hL z hz
    simpa [pl] using this
  unfold delP
  rw [List.map_append, List.filter_append, List.map_cons, e pre h1, List.filter_cons, e post h2, List.map_append]
  simp [pl]
theorem usedP_append : ∀ a b : List Pf, usedP (a ++ b) = usedP a + usedP b
  | [], b => by simp [usedP]
  | y :: r, b => by simp [usedP, usedP_append r b]; omega
def used (L : List Fl) : Nat := usedP (L.map pl)
theorem used_mid (pre post : List Fl) (x : Fl) : used (pre ++ x :: post) = used (pre ++ post) + x.a.length := by
  simp only [used, List.map_append, List.map_cons, usedP_append, usedP, pl]
  omega
theorem used_ins (x : Fl) (L : List Fl) : used (ins x L) = used L + x.a.length := by
  obtain ⟨pre, post, h1, h2⟩ := ins_parts x L
  rw [h1, used_mid, ← h2]
theorem bb_le : ∀ a b : List UInt8, bytesBefore a b = true → a ≤ b
  | [], b, _ => List.nil_le b
  | _ :: _, [], h => by simp [bytesBefore] at h
  | x :: r, y :: s, h => by
    simp only [bytesBefore, Bool.or_eq_true, decide_eq_true_eq, Bool.and_eq_true, beq_iff_eq] at h
    rcases h with h | ⟨rfl, h⟩
    · exact List.cons_le_cons_iff.2 (.inl h)
    · exact List.cons_le_cons_iff.2 (.inr ⟨rfl, bb_le r s h⟩)
theorem names_sorted {L : List Fl} (h : Up L) {ss : List (List UInt8)} (hp : ss.Perm (L.map (·.n))) : ss.mergeSort Go.leB = L.map (·.n) := by
  rw [mergeSort_of_perm hp]
  refine List.mergeSort_of_pairwise ?_
  rw [List.pairwise_map]
  exact h.imp fun hxy => by simpa using bb_le _ _ hxy
end Go.Proofs.YtjmkphnppegegaaGreatDoor
/-
  A drive in memory: its box, its map, its files' boxes and rows; what stays of it.
-/
namespace Go.Proofs.YtjmkphnppegegaaGreatDoor
open Go.RowKit Go.Lib
set_option maxRecDepth 100000
/-- What has turned lies in S, or is new. -/
structure Turn (S : Nat → Prop) (w w' : World) : Prop where
  os : w'.os = w.os
  tape : w'.tape = w.tape
  output : w'.output = w.output
  size : w.heap.size ≤ w'.heap.size
  block : ∀ i, i < w.heap.size → ¬ S i → w'.heap[i]? = w.heap[i]?
theorem Turn.refl (S : Nat → Prop) (w : World) : Turn S w w := ⟨rfl, rfl, rfl, Nat.le_refl _, fun _ _ _ => rfl⟩
theorem Turn.trans {S : Nat → Prop} {a b c : World} (h : Turn S a b) (k : Turn S b c) : Turn S a c :=
  ⟨k.os.trans h.os, k.tape.trans h.tape, k.output.trans h.output, Nat.le_trans h.size k.size, fun i hi hn => (k.block i (Nat.lt_of_lt_of_le hi h.size) hn).trans (h.block i hi hn)⟩
theorem Turn.wide {S T : Nat → Prop} {a b : World} (h : Turn S a b) (k : ∀ i, i < a.heap.size → S i → T i) : Turn T a b := ⟨h.os, h.tape, h.output, h.size, fun i hi hn => h.block i hi (fun hs => hn (k i hi hs))⟩
theorem Turn.ofBelow {S : Nat → Prop} {a b : World} (h : Below a.heap.size a b) : Turn S a b := ⟨h.os, h.tape, h.output, h.size, fun i hi _ => h.block i hi⟩
theorem Turn.ofGrown {S : Nat → Prop} {a b : World} {r : Option Nat} (h : a.grownBy b r) (k : ∀ g, r = some g → S g) : Turn S a b := ⟨h.os, h.tape, h.output, h.size, fun i hi hn => h.block i hi (fun e => hn (k i e.symm))⟩
theorem Turn.set {S : Nat → Prop} {a w : World} (h : Turn S a w) {p : Addr} (hp : S p.block) (u : Value) : Turn S a (w.setCell p u) :=
  ⟨h.os, h.tape, h.output, by simpa [World.setCell] using h.size, fun i hi hne => (Below.heap_setCell w p u i (by rintro rfl; exact hne hp)).trans (h.block i hi hne)⟩
theorem Turn.alloc {S : Nat → Prop} {a w : World} (h : Turn S a w) (o : Obj) : Turn S a (w.alloc o) := h.trans (.ofBelow (alloc_below w o))
theorem Turn.drewN {S : Nat → Prop} {a w : World} (h : Turn S a w) (n : Nat) : Turn S a (w.drewN n) := ⟨h.os, h.tape, h.output, h.size, h.block⟩
theorem Turn.below {S : Nat → Prop} {a b : World} {B : Nat} (h : Turn S a b) (hB : B ≤ a.heap.size) (hS : ∀ i, S i → B ≤ i) : Below B a b := ⟨h.os, h.tape, h.output, h.size, fun i hi => h.block i (by omega) (fun hs => by have := hS i hs; omega)⟩

/-- A file in memory. -/
structure FlAt (w : World) (own : Nat → Prop) (x : Fl) : Prop where
  ob : own x.b
  bx : Bx 80 w x.b #[x.v, .int .i64 (x.f : Int)]
  row : BRow w 0 x.v x.a
  ov : ∀ g, x.v.ownBlock = some g → own g
  le : x.f ≤ x.a.length
theorem ownsRow_of_block {w w' : World} {B : Nat} {e : TypeId} {k : Nat} {v : Value} {n : Nat} {xs : List Value} (h : w.ownsRow B e k v n xs) (hb : ∀ g, v.ownBlock = some g → w'.heap[g]? = w.heap[g]?) : w'.ownsRow B e k v n xs := by
  refine ⟨h.1, ?_⟩
  rcases h.2 with h2 | ⟨g, cap, cur, rfl, h3, h4, h5⟩
  · exact .inl h2
  · exact .inr ⟨g, cap, cur, rfl, h3, (hb g rfl).trans h4, h5⟩
theorem FlAt.keep {w w' : World} {own own' : Nat → Prop} {x : Fl} (h : FlAt w own x) (ho : ∀ i, own i → own' i) (h1 : w'.heap[x.b]? = w.heap[x.b]?) (h2 : ∀ g, x.v.ownBlock = some g → w'.heap[g]? = w.heap[g]?) : FlAt w' own' x :=
  ⟨ho _ h.ob, h1.trans h.bx, ownsRow_of_block h.row h2, fun g hg => ho g (h.ov g hg), h.le⟩
theorem BRow.tag {w : World} {B : Nat} {v : Value} {l : List Int} {g : Nat} (h : BRow w B v l) (hg : v.ownBlock = some g) : ∃ cur, w.heap[g]? = some (.cells cur 5 (0, 0)) := by
  rcases h.2 with ⟨rfl, _⟩ | ⟨g', cap, cur, rfl, _, h4, _⟩
  · cases hg
  · cases hg
    exact ⟨cur, h4⟩
theorem tag_ne {w : World} {a b : Nat} {x y : Array Value} {s t : TypeId} {m n : Nat × Nat} (hx : w.heap[a]? = some (.cells x s m)) (hy : w.heap[b]? = some (.cells y t n)) (h : s ≠ t) : a ≠ b := by
  rintro rfl
  rw [hx] at hy
  simp only [Option.some.injEq, Obj.cells.injEq] at hy
  exact h hy.2.1

/-- Two files share no block. -/
def Apart (x y : Fl) : Prop := x.b ≠ y.b ∧ ∀ g, x.v.ownBlock = some g → y.v.ownBlock ≠ some g

/-- A drive in memory, of whose bytes ex more are counted than its files have. -/
structure DrvAt (w : World) (p bm : Nat) (L : List Fl) (m ex : Nat) (own : Nat → Prop) : Prop where
  up : ∀ i, own i → i < w.heap.size
  op : own p
  om : own bm
  hd : Bx 62 w p #[.map (some bm), .int .i64 (m : Int), .int .i64 ((used L + ex : Nat) : Int)]
  mp : w.ownsMap Tryz.prog 9 ptrElem bm L.length (Dof L)
  fl : ∀ x ∈ L, FlAt w own x
  ap : L.Pairwise Apart
  so : Up L
  us : used L + ex ≤ m
  mx : m ≤ 1048576
theorem ownsMap_of_block {w w' : World} {P : Program} {k : TypeId} {R : Value → Option (DataW Unit × List MemPlace)} {b n : Nat} {D : DataW Unit} (h : w.ownsMap P k R b n D) (hb : w'.heap[b]? = w.heap[b]?) : w'.ownsMap P k R b n D := by
  obtain ⟨es, clock, h1, h2⟩ := h
  exact ⟨es, clock, hb.trans h1, h2⟩
theorem ownsMap_tight {w : World} {P : Program} {k : TypeId} {R : Value → Option (DataW Unit × List MemPlace)} {b n : Nat} {D : DataW Unit} (h : w.ownsMap P k R b n D) {n' : Nat} (hn : Maps.size D = n') : w.ownsMap P k R b n' D := by
  obtain ⟨es, clock, h1, h2, h3, h4⟩ := h
  refine ⟨es, clock, h1, h2, ?_, h4⟩
  subst hn h4
  simp [Maps.size, length_sorted]
theorem DrvAt.keep {w w' : World} {p bm : Nat} {L : List Fl} {m ex : Nat} {own : Nat → Prop} (h : DrvAt w p bm L m ex own) (hs : w.heap.size ≤ w'.heap.size) (hb : ∀ i, own i → w'.heap[i]? = w.heap[i]?) : DrvAt w' p bm L m ex own :=
  ⟨fun i hi => Nat.lt_of_lt_of_le (h.up i hi) hs, h.op, h.om, (hb _ h.op).trans h.hd, ownsMap_of_block h.mp (hb _ h.om), fun x hx => (h.fl x hx).keep (fun _ k => k) (hb _ (h.fl x hx).ob) (fun g hg => hb _ ((h.fl x hx).ov g hg)), h.ap, h.so, h.us, h.mx⟩
theorem DrvAt.below {w w' : World} {p bm : Nat} {L : List Fl} {m ex : Nat} {own : Nat → Prop} (h : DrvAt w p bm L m ex own) (hb : Below w.heap.size w w') : DrvAt w' p bm L m ex own :=
  h.keep hb.size (fun i hi => hb.block i (h.up i hi))
theorem map_ne {w : World} {P : Program} {k : TypeId} {R : Value → Option (DataW Unit × List MemPlace)} {b n : Nat} {D : DataW Unit} (h : w.ownsMap P k R b n D) {i : Nat} {x : Array Value} {s : TypeId} {m : Nat × Nat} (hx : w.heap[i]? = some (.cells x s m)) : i ≠ b := by
  rintro rfl
  obtain ⟨es, clock, h1, _⟩ := h
  rw [hx] at h1
  cases h1
theorem DrvAt.pm {w : World} {p bm : Nat} {L : List Fl} {m ex : Nat} {own : Nat → Prop} (h : DrvAt w p bm L m ex own) : p ≠ bm := map_ne h.mp h.hd
theorem FlAt.bp {w : World} {p : Nat} {own : Nat → Prop} {x : Fl} {cs : Array Value} (h : FlAt w own x) (hd : Bx 62 w p cs) : x.b ≠ p := tag_ne h.bx hd (by decide)
theorem FlAt.rp {w : World} {p : Nat} {own : Nat → Prop} {x : Fl} {cs : Array Value} (h : FlAt w own x) (hd : Bx 62 w p cs) {g : Nat} (hg : x.v.ownBlock = some g) : g ≠ p := by
  obtain ⟨cur, hc⟩ := h.row.tag hg
  exact tag_ne hc hd (by decide)
theorem FlAt.rb {w : World} {own : Nat → Prop} {x y : Fl} (h : FlAt w own x) (k : FlAt w own y) {g : Nat} (hg : x.v.ownBlock = some g) : g ≠ y.b := by
  obtain ⟨cur, hc⟩ := h.row.tag hg
  exact tag_ne hc k.bx (by decide)
theorem FlAt.lt {w : World} {own : Nat → Prop} {x : Fl} (h : FlAt w own x) : x.b < w.heap.size := h.bx.lt
theorem FlAt.rlt {w : World} {own : Nat → Prop} {x : Fl} (h : FlAt w own x) {g : Nat} (hg : x.v.ownBlock = some g) : g < w.heap.size := (World.ownsRow.lt h.row g hg).2
theorem apart_mid {pre post : List Fl} {x : Fl} (h : (pre ++ x :: post).Pairwise Apart) : ∀ y ∈ pre ++ post, Apart y x := by
  obtain ⟨_, h2, h3⟩ := List.pairwise_append.1 h
  obtain ⟨h4, _⟩ := List.pairwise_cons.1 h2
  intro y hy
  rcases List.mem_append.1 hy with hy | hy
  · exact h3 y hy x (List.mem_cons_self ..)
  · have := h4 y hy
    exact ⟨fun e => this.1 e.symm, fun g hg e => this.2 g e hg⟩
theorem apart_sub {pre post : List Fl} {x : Fl} (h : (pre ++ x :: post).Pairwise Apart) : (pre ++ post).Pairwise Apart := by
  refine h.sublist ?_
  exact List.Sublist.append (List.Sublist.refl _) (List.sublist_cons_self ..)
theorem up_sub {pre post : List Fl} {x : Fl} (h : Up (pre ++ x :: post)) : Up (pre ++ post) := by
  refine List.Pairwise.sublist ?_ h
  exact List.Sublist.append (List.Sublist.refl _) (List.sublist_cons_self ..)
theorem pairwise_mid {α : Type} {R : α → α → Prop} (hs : ∀ a b, R a b → R b a) {pre post : List α} {x : α} (h : (pre ++ post).Pairwise R) (hx : ∀ y ∈ pre ++ post, R y x) : (pre ++ x :: post).Pairwise R := by
  obtain ⟨h1, h2, h3⟩ := List.pairwise_append.1 h
  refine List.pairwise_append.2 ⟨h1, List.pairwise_cons.2 ⟨fun y hy => hs _ _ (hx y (by simp [hy])), h2⟩, fun a ha b hb => ?_⟩
  rcases List.mem_cons.1 hb with rfl | hb
  · exact hx a (by simp [ha])
  · exact h3 a ha b hb
theorem apart_symm (a b : Fl) (h : Apart a b) : Apart b a := ⟨fun e => h.1 e.symm, fun g hg e => h.2 g e hg⟩
theorem Up.turn {pre post : List Fl} {x x' : Fl} (h : Up (pre ++ x :: post)) (hn : x'.n = x.n) : Up (pre ++ x' :: post) := by
  obtain ⟨h1, h2, h3⟩ := List.pairwise_append.1 h
  obtain ⟨h4, h5⟩ := List.pairwise_cons.1 h2
  refine List.pairwise_append.2 ⟨h1, List.pairwise_cons.2 ⟨fun y hy => by rw [hn]; exact h4 y hy, h5⟩, fun a ha b hb => ?_⟩
  rcases List.mem_cons.1 hb with rfl | hb
  · rw [hn]; exact h3 a ha x (List.mem_cons_self ..)
  · exact h3 a ha b (List.mem_cons_of_mem _ hb)
theorem Dof_turn {pre post : List Fl} {x x' : Fl} (hn : x'.n = x.n) (hb : x'.b = x.b) : Dof (pre ++ x' :: post) = Dof (pre ++ x :: post) := by
  simp [Dof, ent, hn, hb]

/-- One file has turned, and what is counted. -/
theorem DrvAt.turn {w w' : World} {p bm : Nat} {pre post : List Fl} {x x' : Fl} {m ex ex' : Nat} {own own' : Nat → Prop} (h : DrvAt w p bm (pre ++ x :: post) m ex own)
    (hn : x'.n = x.n) (hb : x'.b = x.b) (ho : ∀ i, own i → own' i) (hu : ∀ i, own' i → i < w'.heap.size)
    (hd : Bx 62 w' p #[.map (some bm), .int .i64 (m : Int), .int .i64 ((used (pre ++ x' :: post) + ex' : Nat) : Int)]) (hx : FlAt w' own' x')
    (hk : ∀ i, own i → i ≠ p → i ≠ x.b → x.v.ownBlock ≠ some i → w'.heap[i]? = w.heap[i]?)
    (hr : ∀ g, x'.v.ownBlock = some g → x.v.ownBlock = some g ∨ w.heap.size ≤ g) (us : used (pre ++ x' :: post) + ex' ≤ m) : DrvAt w' p bm (pre ++ x' :: post) m ex' own' := by
  have hxm := h.fl x (by simp)
  have hpm := h.pm
  have hxb : x.b ≠ bm := map_ne h.mp hxm.bx
  have am := apart_mid h.ap
  refine ⟨hu, ho _ h.op, ho _ h.om, hd, ?_, ?_, ?_, h.so.turn hn, us, h.mx⟩
  · have e1 : (pre ++ x' :: post).length = (pre ++ x :: post).length := by simp
    rw [e1, Dof_turn hn hb]
    refine ownsMap_of_block h.mp (hk bm h.om (fun e => hpm e.symm) (fun e => hxb e.symm) (fun e => ?_))
    obtain ⟨cur, hc⟩ := hxm.row.tag e
    exact map_ne h.mp hc rfl
  · intro y hy
    by_cases hyx : y ∈ pre ++ post
    · have hyf := h.fl y (by rcases List.mem_append.1 hyx with k | k <;> simp [k])
      have ay := am y hyx
      refine hyf.keep ho (hk y.b hyf.ob (hyf.bp h.hd) ay.1 (fun e => hxm.rb hyf e rfl)) (fun g hg => hk g (hyf.ov g hg) (hyf.rp h.hd hg) (hyf.rb hxm hg) (fun e => ay.2 g hg e))
    · have : y = x' := by
        rcases List.mem_append.1 hy with k | k
        · exact absurd (List.mem_append.2 (.inl k)) hyx
        · rcases List.mem_cons.1 k with k | k
          · exact k
          · exact absurd (List.mem_append.2 (.inr k)) hyx
      rw [this]; exact hx
  · refine pairwise_mid apart_symm (apart_sub h.ap) fun y hy => ?_
    have ay := am y hy
    have hyf := h.fl y (by rcases List.mem_append.1 hy with k | k <;> simp [k])
    refine ⟨by rw [hb]; exact ay.1, fun g hg e => ?_⟩
    rcases hr g e with k | k
    · exact ay.2 g hg k
    · have := hyf.rlt hg
      omega

/-- One more file. -/
theorem DrvAt.add {w w' : World} {p bm : Nat} {L : List Fl} {x : Fl} {m ex ex' : Nat} {own own' : Nat → Prop} (h : DrvAt w p bm L m ex own) (hno : ∀ y ∈ L, y.n ≠ x.n)
    (ho : ∀ i, own i → own' i) (hu : ∀ i, own' i → i < w'.heap.size)
    (hm : w'.ownsMap Tryz.prog 9 ptrElem bm (L.length + 1) (Dof (ins x L))) (hx : FlAt w' own' x) (hk : ∀ i, own i → i ≠ bm → w'.heap[i]? = w.heap[i]?) (ha : ∀ y ∈ L, Apart y x) (he : x.a.length + ex' = ex) : DrvAt w' p bm (ins x L) m ex' own' := by
  have e1 : used (ins x L) + ex' = used L + ex := by rw [used_ins]; omega
  refine ⟨hu, ho _ h.op, ho _ h.om, ?_, by rw [ins_len]; exact hm, ?_, ?_, ins_up h.so hno, by rw [e1]; exact h.us, h.mx⟩
  · rw [e1]
    exact (hk p h.op h.pm).trans h.hd
  · intro y hy
    rcases ins_mem.1 hy with rfl | hy
    · exact hx
    · have hyf := h.fl y hy
      refine hyf.keep ho (hk y.b hyf.ob (map_ne h.mp hyf.bx)) (fun g hg => hk g (hyf.ov g hg) ?_)
      obtain ⟨cur, hc⟩ := hyf.row.tag hg
      exact map_ne h.mp hc
  · obtain ⟨pre, post, e, e2⟩ := ins_parts x L
    rw [e]
    rw [e2] at ha
    exact pairwise_mid apart_symm (by rw [← e2]; exact h.ap) ha

/-- One file fewer. -/
theorem DrvAt.cut {w w' : World} {p bm : Nat} {pre post : List Fl} {x : Fl} {m ex ex' : Nat} {own : Nat → Prop} (h : DrvAt w p bm (pre ++ x :: post) m ex own) (hs : w.heap.size ≤ w'.heap.size)
    (hd : Bx 62 w' p #[.map (some bm), .int .i64 (m : Int), .int .i64 ((used (pre ++ post) + ex' : Nat) : Int)])
    (hm : w'.ownsMap Tryz.prog 9 ptrElem bm (pre ++ post).length (Dof (pre ++ post))) (hk : ∀ i, own i → i ≠ p → i ≠ bm → w'.heap[i]? = w.heap[i]?) (us : used (pre ++ post) + ex' ≤ m) : DrvAt w' p bm (pre ++ post) m ex' own := by
  refine ⟨fun i hi => Nat.lt_of_lt_of_le (h.up i hi) hs, h.op, h.om, hd, hm, ?_, apart_sub h.ap, up_sub h.so, us, h.mx⟩
  intro y hy
  have hyf := h.fl y (by rcases List.mem_append.1 hy with k | k <;> simp [k])
  refine hyf.keep (fun _ k => k) (hk y.b hyf.ob (hyf.bp h.hd) (map_ne h.mp hyf.bx)) (fun g hg => hk g (hyf.ov g hg) (hyf.rp h.hd hg) ?_)
  obtain ⟨cur, hc⟩ := hyf.row.tag hg
  exact map_ne h.mp hc

theorem nameKeyed : Maps.Keyed Tryz.prog 9 := Maps.string_keyed Tryz.underlying9
theorem DrvAt.find {w : World} {bm n : Nat} {pre post : List Fl} {x : Fl} (h : w.ownsMap Tryz.prog 9 ptrElem bm n (Dof (pre ++ x :: post))) (so : Up (pre ++ x :: post)) {s : ByteArray} (hs : s.data.toList = x.n) (hl : s.size ≤ maxLen) :
    (Instr.lookup 60 (.map (some bm)) (.string s) true).run Tryz.prog w = .ok (.tuple #[.pointer (some ⟨x.b, 0, none⟩), .bool true]) w := by
  obtain ⟨v, ps, h1, h2⟩ := h.look_ok nameKeyed Tryz.underlying60 (z := .pointer none) (by simp [Tryz.zeroValue76]) (zd := .nil) (zp := []) rfl (Go.WideMaps.keyOf_string_mk Tryz.underlying9 hl)
  rw [hs, Dof_hasYes] at h1
  rw [hs, Dof_at so.ne.1] at h2
  rw [h1, ptrElem_at h2]
theorem DrvAt.find1 {w : World} {bm n : Nat} {pre post : List Fl} {x : Fl} (h : w.ownsMap Tryz.prog 9 ptrElem bm n (Dof (pre ++ x :: post))) (so : Up (pre ++ x :: post)) {s : ByteArray} (hs : s.data.toList = x.n) (hl : s.size ≤ maxLen) :
    (Instr.lookup 60 (.map (some bm)) (.string s) false).run Tryz.prog w = .ok (.pointer (some ⟨x.b, 0, none⟩)) w := by
  obtain ⟨v, ps, h1, h2⟩ := h.lookup nameKeyed Tryz.underlying60 (z := .pointer none) (by simp [Tryz.zeroValue76]) (zd := .nil) (zp := []) rfl (Go.WideMaps.keyOf_string_mk Tryz.underlying9 hl)
  rw [hs, Dof_at so.ne.1] at h2
  rw [h1, ptrElem_at h2]
theorem DrvAt.miss {w : World} {bm n : Nat} {L : List Fl} (h : w.ownsMap Tryz.prog 9 ptrElem bm n (Dof L)) {s : ByteArray} (hs : ∀ y ∈ L, y.n ≠ s.data.toList) (hl : s.size ≤ maxLen) :
    (Instr.lookup 60 (.map (some bm)) (.string s) true).run Tryz.prog w = .ok (.tuple #[.pointer none, .bool false]) w := by
  obtain ⟨v, ps, h1, h2⟩ := h.look_ok nameKeyed Tryz.underlying60 (z := .pointer none) (by simp [Tryz.zeroValue76]) (zd := .nil) (zp := []) rfl (Go.WideMaps.keyOf_string_mk Tryz.underlying9 hl)
  have hno := Dof_hasNo hs
  rw [hno] at h1
  rw [Maps.atKey_of_not_has hno] at h2
  rw [h1, ptrElem_nil h2]
theorem DrvAt.drops {w : World} {bm n : Nat} {pre post : List Fl} {x : Fl} (h : w.ownsMap Tryz.prog 9 ptrElem bm n (Dof (pre ++ x :: post))) (so : Up (pre ++ x :: post)) {s : ByteArray} (hs : s.data.toList = x.n) (hl : s.size ≤ maxLen) (ty : TypeId) :
    ∃ w', (Builtin.delete_ #[60, 9] ty #[.map (some bm), .string s]).run Tryz.prog w = .ok (.tuple #[]) w' ∧ w'.ownsMap Tryz.prog 9 ptrElem bm (pre ++ post).length (Dof (pre ++ post)) ∧ w.mapTurned w' bm := by
  obtain ⟨w', h1, h2, h3⟩ := h.drop nameKeyed Tryz.underlying60 (Go.WideMaps.keyOf_string_mk Tryz.underlying9 hl) ty
  have e : (pre ++ x :: post).filter (fun y => !(y.n == x.n)) = pre ++ post := by
    rw [List.filter_append, List.filter_cons]
    simp only [BEq.rfl, Bool.not_true, Bool.false_eq_true, if_false]
    rw [filter_none so.ne.1, filter_none so.ne.2]
  rw [hs, Dof_del, e] at h2
  exact ⟨w', h1, ownsMap_tight h2 (Dof_size _), h3⟩
theorem DrvAt.puts {w : World} {bm n : Nat} {L : List Fl} {x : Fl} (h : w.ownsMap Tryz.prog 9 ptrElem bm n (Dof L)) (hno : ∀ y ∈ L, y.n ≠ x.n) {s : ByteArray} (hs : s.data.toList = x.n) (hl : s.size ≤ maxLen) (hn : n < maxLen) :
    ∃ w', (Instr.mapUpdate 60 (.map (some bm)) (.string s) (.pointer (some ⟨x.b, 0, none⟩))).run Tryz.prog w = .ok () w' ∧ w'.ownsMap Tryz.prog 9 ptrElem bm (L.length + 1) (Dof (ins x L)) ∧ w.mapTurned w' bm := by
  obtain ⟨w', h1, h2, h3⟩ := h.store nameKeyed Tryz.underlying60 hn (Go.WideMaps.keyOf_string_mk Tryz.underlying9 hl) (val := .pointer (some ⟨x.b, 0, none⟩)) (d := .lit (.int .i64 (x.b : Int))) (ps := []) rfl
  rw [hs, Dof_put hno] at h2
  exact ⟨w', h1, ownsMap_tight h2 (by rw [Dof_size, ins_len]), h3⟩
end Go.Proofs.YtjmkphnppegegaaGreatDoor
/-
  loose, settle, Used of a drive, by contract.
-/
namespace Go.Proofs.YtjmkphnppegegaaGreatDoor
open Go.RowKit Go.Lib
set_option maxRecDepth 100000
theorem FlAt.form {w : World} {own : Nat → Prop} {x : Fl} (h : FlAt w own x) : ∃ ad cap, x.v = .slice ad x.a.length cap ∧ x.a.length ≤ cap := by
  obtain ⟨ad, cap, e, hc⟩ := h.row.bc.2
  exact ⟨ad, cap, e, hc⟩
theorem used_mem {L : List Fl} {x : Fl} (h : x ∈ L) : x.a.length ≤ used L := by
  obtain ⟨pre, post, rfl⟩ := List.append_of_mem h
  rw [used_mid]
  omega
theorem DrvAt.most {w : World} {p bm : Nat} {L : List Fl} {m ex : Nat} {own : Nat → Prop} (h : DrvAt w p bm L m ex own) {x : Fl} (hx : x ∈ L) : x.a.length ≤ 1048576 := by
  have := used_mem hx
  have := h.us
  have := h.mx
  omega

set_option maxHeartbeats 2000000 in
theorem loose_c (x : Fl) (w : World) (own : Nat → Prop) (h : FlAt w own x) (hm : x.a.length ≤ 1048576) :
    Calls Tryz.prog 42 #[.pointer (some ⟨x.b, 0, none⟩)] w fun e w' => e = .returned (.int .i64 ((x.a.length - x.f : Nat) : Int)) ∧ Below w.heap.size w w' := by
  obtain ⟨ad, cap, hv, _⟩ := h.form
  have hle := h.le
  have c0 := h.bx.cell 0
  have c1 := h.bx.cell 1
  rw [hv] at c0
  simp only [List.getElem?_toArray, List.getElem?_cons_zero, List.getElem?_cons_succ] at c0 c1
  have hlt := h.lt
  clear hv h
  have e : ((x.a.length - x.f : Nat) : Int) = (x.a.length : Int) - (x.f : Int) := by omega
  rw [e]
  clear e
  generalize x.a.length = n at *
  generalize x.f = f at *
  generalize x.b = b at *
  go_enter Tryz.func42, Tryz.ntmps42
  go_wp2
  go_quiet (fail)
  go_wp2
  go_ret
  exact ⟨by go_num, below_drewN (Below.refl _ _) _⟩

set_option maxHeartbeats 2000000 in
theorem used_c (p bm : Nat) (L : List Fl) (m ex : Nat) (own : Nat → Prop) (w : World) (h : DrvAt w p bm L m ex own) :
    Calls Tryz.prog 26 #[.pointer (some ⟨p, 0, none⟩)] w fun e w' => e = .returned (.int .i64 ((used L + ex : Nat) : Int)) ∧ w = w' := by
  have c2 := h.hd.cell 2
  simp only [List.getElem?_toArray, List.getElem?_cons_zero, List.getElem?_cons_succ] at c2
  have hlt := h.hd.lt
  clear h
  generalize ((used L + ex : Nat) : Int) = u at *
  go_enter Tryz.func26, Tryz.ntmps26
  go_wp2
  go_ret
  exact ⟨rfl, rfl⟩

theorem BRow.cut {w : World} {ad : Option Addr} {cap : Nat} {l : List Int} (h : BRow w 0 (.slice ad l.length cap) l) (k : Nat) (hk : k ≤ l.length) : BRow w 0 (.slice ad k cap) (l.take k) := by
  have hl : (l.take k).length = k := by simp; omega
  unfold BRow at h ⊢
  rw [hl]
  rcases h.2 with ⟨e, h0⟩ | ⟨g, c, cur, e, h3, h4, h5, h6, h7, h8⟩
  · simp only [Value.slice.injEq] at e
    obtain ⟨rfl, _, rfl⟩ := e
    obtain rfl : k = 0 := by omega
    exact ⟨by simp [bys_len], .inl ⟨rfl, rfl⟩⟩
  · simp only [Value.slice.injEq] at e
    obtain ⟨rfl, _, rfl⟩ := e
    refine ⟨by rw [bys_len, hl, Nat.mul_one], .inr ⟨g, cap, cur, rfl, h3, h4, by omega, h6, h7, ?_⟩⟩
    rw [Nat.mul_one] at h8 ⊢
    have e2 : bys (l.take k) = (bys l).take k := by simp [bys, List.map_take]
    rw [e2, ← h8, List.take_take]
    congr 1
    omega
theorem sliced_zero (ad : Option Addr) (k cap : Nat) : sliced ad 0 k cap 1 = .slice ad k cap := by
  unfold sliced
  cases ad
  · simp
  · rename_i a
    have : a.add 0 = a := by cases a; simp [Addr.add]
    simp [this]

theorem DrvAt.drew {w : World} {p bm : Nat} {L : List Fl} {m ex : Nat} {own : Nat → Prop} (h : DrvAt w p bm L m ex own) : DrvAt w.drew p bm L m ex own := h.keep (Nat.le_refl _) (fun _ _ => rfl)
theorem DrvAt.drewN {w : World} {p bm : Nat} {L : List Fl} {m ex : Nat} {own : Nat → Prop} (h : DrvAt w p bm L m ex own) (n : Nat) : DrvAt (w.drewN n) p bm L m ex own := h.keep (Nat.le_refl _) (fun _ _ => rfl)
theorem Turn.drew {S : Nat → Prop} {a w : World} (h : Turn S a w) : Turn S a w.drew := ⟨h.os, h.tape, h.output, h.size, h.block⟩
theorem DrvAt.settled {w : World} {p bm : Nat} {pre post : List Fl} {x : Fl} {m ex : Nat} {own : Nat → Prop} {ad : Option Addr} {cap : Nat} (h : DrvAt w p bm (pre ++ x :: post) m ex own) (hv : x.v = .slice ad x.a.length cap) (k : Nat) (hk : k ≤ x.a.length)
    (U : Int) (hU : U = ((used (pre ++ post) + k + ex : Nat) : Int)) :
    DrvAt (((w.setCell ⟨p, 2, none⟩ (.int .i64 U)).setCell ⟨x.b, 0, none⟩ (.slice ad k cap)).setCell ⟨x.b, 1, none⟩ (.int .i64 (k : Int))) p bm (pre ++ { x with v := .slice ad k cap, a := x.a.take k, f := k } :: post) m ex own := by
  have hx := h.fl x (by simp)
  have hbp := hx.bp h.hd
  have hpb : p ≠ x.b := fun e => hbp e.symm
  have hob : ∀ g, (Value.slice ad k cap).ownBlock = some g → x.v.ownBlock = some g := fun g hg => by rw [hv]; cases ad <;> exact hg
  have hl : (x.a.take k).length = k := by simp; omega
  have hu : used (pre ++ { x with v := .slice ad k cap, a := x.a.take k, f := k } :: post) + ex = used (pre ++ post) + k + ex := by rw [used_mid]; simp only [hl]
  have hum := used_mid pre post x
  have hkeep : ∀ i, i ≠ p → i ≠ x.b → (((w.setCell ⟨p, 2, none⟩ (.int .i64 U)).setCell ⟨x.b, 0, none⟩ (.slice ad k cap)).setCell ⟨x.b, 1, none⟩ (.int .i64 (k : Int))).heap[i]? = w.heap[i]? := fun i h1 h2 => by
    rw [Below.heap_setCell _ _ _ _ h2, Below.heap_setCell _ _ _ _ h2, Below.heap_setCell _ _ _ _ h1]
  have hs : w.heap.size = (((w.setCell ⟨p, 2, none⟩ (.int .i64 U)).setCell ⟨x.b, 0, none⟩ (.slice ad k cap)).setCell ⟨x.b, 1, none⟩ (.int .i64 (k : Int))).heap.size := by simp [World.setCell]
  refine h.turn rfl rfl (fun _ k => k) (fun i hi => by rw [← hs]; exact h.up i hi) ?_ ?_ (fun i _ h1 h2 _ => hkeep i h1 h2) ?_ ?_
  · rw [hu, ← hU]
    exact ((h.hd.set 2 (.int .i64 U)).setFar (p := ⟨x.b, 0, none⟩) hpb _).setFar (p := ⟨x.b, 1, none⟩) hpb _
  · refine ⟨hx.ob, ?_, ?_, ?_, ?_⟩
    · exact ((hx.bx.setFar (p := ⟨p, 2, none⟩) hbp _).set 0 _).set 1 _
    · have hr := hx.row
      rw [hv] at hr
      refine ownsRow_of_block (hr.cut k hk) (fun g hg => hkeep g ?_ ?_)
      · exact hx.rp h.hd (hob g hg)
      · exact hx.rb hx (hob g hg)
    · intro g hg
      exact hx.ov g (hob g hg)
    · show k ≤ (x.a.take k).length
      omega
  · intro g hg
    exact .inl (hob g hg)
  · rw [hu]
    have := h.us
    omega

set_option maxHeartbeats 4000000 in
theorem settle_c (p bm : Nat) (pre post : List Fl) (x : Fl) (m ex : Nat) (own : Nat → Prop) (w : World) (h : DrvAt w p bm (pre ++ x :: post) m ex own) (k : Nat) (hk : k ≤ x.a.length) :
    Calls Tryz.prog 43 #[.pointer (some ⟨p, 0, none⟩), .pointer (some ⟨x.b, 0, none⟩), .int .i64 (k : Int)] w fun e w' => e = .returned (.tuple #[]) ∧ ∃ v', DrvAt w' p bm (pre ++ { x with v := v', a := x.a.take k, f := k } :: post) m ex own ∧ Turn (fun i => i = p ∨ i = x.b) w w' := by
  have hx := h.fl x (by simp)
  obtain ⟨ad, cap, hv, hcap⟩ := hx.form
  have hmo := h.most (x := x) (by simp)
  have hus := h.us
  have hmx := h.mx
  have hum := used_mid pre post x
  have c0 := hx.bx.cell 0
  have c1 := hx.bx.cell 1
  have d2 := h.hd.cell 2
  rw [hv] at c0
  simp only [List.getElem?_toArray, List.getElem?_cons_zero, List.getElem?_cons_succ] at c0 c1 d2
  have f0 := hx.bx.soft 0
  have f1 := hx.bx.soft 1
  have g2 := h.hd.soft 2
  have hlt := hx.lt
  have hltp := h.hd.lt
  have hbp := hx.bp h.hd
  have hpb : p ≠ x.b := fun e => hbp e.symm
  have R1 : Hid (∀ W, (Instr.sliceAt 78 (.slice ad x.a.length cap) none (some (.int .i64 (k : Int))) none).run Tryz.prog W = .ok (.slice ad k cap) W) := Lib.hid (fun W => by
    rw [slice_any_run ad x.a.length cap none (some (.int .i64 (k : Int))) 0 k W (by
      have e1 : ¬ cap < k := by omega
      simp [Instr.sliceBounds, go_sem, e1]), sliced_zero])
  have HD := Lib.hid h
  have HX := Lib.hid hx
  have HV := Lib.hid hv
  clear h hx hv
  have huu : used (pre ++ x :: post) + ex = used (pre ++ post) + ex + x.a.length := by omega
  rw [huu] at d2
  have HUU := Lib.hid huu
  clear huu hum
  have d2' : w.cell? ⟨p, 2, none⟩ = some (.int .i64 (((used (pre ++ post) + ex : Nat) : Int) + (x.a.length : Int))) := by rw [d2]; simp
  clear d2
  have hbound : used (pre ++ post) + ex + x.a.length ≤ 1048576 := by have := HUU.out; omega
  generalize hB : used (pre ++ post) + ex = B at d2' hbound
  have HB := Lib.hid hB
  clear hB hus hmx
  obtain ⟨xn, b, xv, xa, xf⟩ := x
  simp only at *
  generalize hn : xa.length = n at *
  have HN := Lib.hid hn
  clear hn
  go_enter Tryz.func43, Tryz.ntmps43
  go_wp2
  go_region
  go_wp2_with (refine wpList_slice_run rfl 78 _ _ _ rfl _ (R1.out _) ?_)
  go_end0
  refine ⟨rfl, .slice ad k cap, ?_, (((Turn.refl _ w).set (p := ⟨p, 2, none⟩) (.inl rfl) _).set (p := ⟨b, 0, none⟩) (.inr rfl) _).set (p := ⟨b, 1, none⟩) (.inr rfl) _ |>.drew⟩
  refine (HD.out.settled (ad := ad) (cap := cap) (by rw [HN.out]; exact HV.out) k (by rw [HN.out]; exact hk) _ ?_).drew
  have := HB.out
  omega
end Go.Proofs.YtjmkphnppegegaaGreatDoor
/-
  maySign, mayName, by contract.
-/
namespace Go.Proofs.YtjmkphnppegegaaGreatDoor
open Go.RowKit Go.Lib
set_option maxRecDepth 100000
def signB (c : Int) : Bool := (decide (97 ≤ c) && decide (c ≤ 122)) || (decide (48 ≤ c) && decide (c ≤ 57)) || (c == 46)
def nameB (l : List UInt8) : Bool := decide (1 ≤ l.length) && decide (l.length ≤ 20) && l.all (fun c => signB (c.toNat : Int))

set_option maxHeartbeats 4000000 in
theorem sign_c (c : Int) (w : World) : Calls Tryz.prog 103 #[.int .u8 c] w fun e w' => e = .returned (.bool (signB c)) ∧ w = w' := by
  unfold signB
  generalize h1 : decide (97 ≤ c) = b1
  generalize h2 : decide (c ≤ 122) = b2
  generalize h3 : decide (48 ≤ c) = b3
  generalize h4 : decide (c ≤ 57) = b4
  generalize h5 : (c == 46) = b5
  cases b1 <;> cases b2 <;> cases b3 <;> cases b4 <;> cases b5
  all_goals
    go_enter Tryz.func103, Tryz.ntmps103
    go_wp2
    go_ret
    exact ⟨rfl, rfl⟩

set_option maxHeartbeats 4000000 in
theorem name_c (s : ByteArray) (w : World) (hs : s.size ≤ maxLen) : Calls Tryz.prog 79 #[.string s] w fun e w' => e = .returned (.bool (nameB s.data.toList)) ∧ w = w' := by
  have hl : s.data.toList.length = s.size := Array.length_toList
  unfold maxLen at hs
  by_cases h1 : 1 ≤ s.size
  · have e1 : decide ((s.size : Int) < 1) = false := by simp; omega
    by_cases h2 : s.size ≤ 20
    · have e2 : decide ((20 : Int) < (s.size : Int)) = false := by simp; omega
      have HN : Hid (nameB s.data.toList = s.data.toList.all (fun c => signB (c.toNat : Int))) := Lib.hid (by
        unfold nameB
        rw [hl]
        simp [h1, h2])
      have HL := Lib.hid hl
      clear hl
      generalize hR : nameB s.data.toList = R at HN ⊢
      clear hR
      go_enter Tryz.func79, Tryz.ntmps79
      go_wp2
      go_loopw [14] (fun v14 wr => ∃ k : Nat, k ≤ s.size ∧ v14 = .int .i64 (k : Int) ∧ wr = w ∧ Hid (R = (s.data.toList.drop k).all (fun c => signB (c.toNat : Int)))) (fun v14 _ => s.size - (RowKit.intOf v14).toNat)
      case atStart => exact ⟨0, by omega, rfl, rfl, Lib.hid (by rw [List.drop_zero]; exact HN.out)⟩
      case round =>
        obtain ⟨k, hk, rfl, rfl, HK⟩ := hrel
        by_cases hp : k < s.size
        · have hp' : k < s.data.toList.length := by rw [HL.out]; exact hp
          have hK := HK.out
          rw [List.drop_eq_getElem_cons hp', List.all_cons] at hK
          have hb : s.data.toList[k] = s[k] := rfl
          rw [hb] at hK
          have HC := Lib.hid (fun W => sign_c ((s[k].toNat : Nat) : Int) W)
          generalize signB ((s[k].toNat : Nat) : Int) = b at hK HC
          cases b
          · rw [Bool.false_and] at hK
            subst hK
            go_wp2_with fail
            refine (HC.out _).mono ?_
            rintro e w1 ⟨rfl, rfl⟩
            go_wp2
            go_ret
            exact ⟨rfl, rfl⟩
          · rw [Bool.true_and] at hK
            have HK2 := Lib.hid hK
            clear hK HK
            go_wp2_with fail
            refine (HC.out _).mono ?_
            rintro e w1 ⟨rfl, rfl⟩
            go_wp2
            go_roundw
            case rel => exact ⟨k + 1, hp, by go_num, trivial, HK2⟩
            case measure => simp [RowKit.intOf]; omega
        · have hK := HK.out
          rw [List.drop_eq_nil_of_le (by rw [HL.out]; omega), List.all_nil] at hK
          subst hK
          go_wp2
          go_ret
          exact ⟨rfl, rfl⟩
    · have e2 : decide ((20 : Int) < (s.size : Int)) = true := by simp; omega
      have e3 : nameB s.data.toList = false := by unfold nameB; rw [hl]; simp [h2]
      rw [e3]
      go_enter Tryz.func79, Tryz.ntmps79
      go_wp2
      go_ret
      exact ⟨rfl, rfl⟩
  · have e1 : decide ((s.size : Int) < 1) = true := by simp; omega
    have e3 : nameB s.data.toList = false := by unfold nameB; rw [hl]; simp [h1]
    rw [e3]
    go_enter Tryz.func79, Tryz.ntmps79
    go_wp2
    go_ret
    exact ⟨rfl, rfl⟩
end Go.Proofs.YtjmkphnppegegaaGreatDoor
/-
  Loose, Read, of a drive, by contract.
-/
namespace Go.Proofs.YtjmkphnppegegaaGreatDoor
open Go.RowKit Go.Lib
set_option maxRecDepth 100000
theorem DrvAt.cell0 {w : World} {p bm : Nat} {L : List Fl} {m ex : Nat} {own : Nat → Prop} (h : DrvAt w p bm L m ex own) : w.cell? ⟨p, 0, none⟩ = some (.map (some bm)) := by
  rw [h.hd.cell 0]; rfl
theorem DrvAt.cell1 {w : World} {p bm : Nat} {L : List Fl} {m ex : Nat} {own : Nat → Prop} (h : DrvAt w p bm L m ex own) : w.cell? ⟨p, 1, none⟩ = some (.int .i64 (m : Int)) := by
  rw [h.hd.cell 1]; rfl
theorem DrvAt.cell2 {w : World} {p bm : Nat} {L : List Fl} {m ex : Nat} {own : Nat → Prop} (h : DrvAt w p bm L m ex own) : w.cell? ⟨p, 2, none⟩ = some (.int .i64 ((used L + ex : Nat) : Int)) := by
  rw [h.hd.cell 2]; rfl
theorem FlAt.cell0 {w : World} {own : Nat → Prop} {x : Fl} (h : FlAt w own x) : w.cell? ⟨x.b, 0, none⟩ = some x.v := by
  rw [h.bx.cell 0]; rfl
theorem FlAt.cell1 {w : World} {own : Nat → Prop} {x : Fl} (h : FlAt w own x) : w.cell? ⟨x.b, 1, none⟩ = some (.int .i64 (x.f : Int)) := by
  rw [h.bx.cell 1]; rfl

set_option maxHeartbeats 2000000 in
theorem looseAt_c (p bm : Nat) (pre post : List Fl) (x : Fl) (m ex : Nat) (own : Nat → Prop) (w : World) (h : DrvAt w p bm (pre ++ x :: post) m ex own) (s : ByteArray) (hs : s.data.toList = x.n) (hl : s.size ≤ maxLen) :
    Calls Tryz.prog 40 #[.pointer (some ⟨p, 0, none⟩), .string s] w fun e w' => e = .returned (.int .i64 ((x.a.length - x.f : Nat) : Int)) ∧ Below w.heap.size w w' := by
  have c0 := h.cell0
  have hlt := h.hd.lt
  have hf := DrvAt.find h.mp h.so hs hl
  have HC := Lib.hid (loose_c x w own (h.fl x (by simp)) (h.most (by simp)))
  generalize ((x.a.length - x.f : Nat) : Int) = R at HC ⊢
  clear h hs hl
  go_enter Tryz.func40, Tryz.ntmps40
  go_wp2_with fail
  refine HC.out.mono ?_
  rintro e w1 ⟨rfl, b1⟩
  go_wp2
  go_ret
  exact ⟨rfl, b1⟩

set_option maxHeartbeats 2000000 in
theorem looseNo_c (p bm : Nat) (L : List Fl) (m ex : Nat) (own : Nat → Prop) (w : World) (h : DrvAt w p bm L m ex own) (s : ByteArray) (hs : ∀ y ∈ L, y.n ≠ s.data.toList) (hl : s.size ≤ maxLen) :
    Calls Tryz.prog 40 #[.pointer (some ⟨p, 0, none⟩), .string s] w fun e w' => e = .returned (.int .i64 0) ∧ w = w' := by
  have c0 := h.cell0
  have hlt := h.hd.lt
  have hf := DrvAt.miss h.mp hs hl
  clear h hs hl
  go_enter Tryz.func40, Tryz.ntmps40
  go_wp2
  go_ret
  exact ⟨rfl, rfl⟩

def drreadT (l : List Int) (w : World) (e : Ending) (w' : World) : Prop := ∃ A C, e = .returned (.tuple #[.slice A l.length C, .int .i64 0]) ∧ BRow w' w.heap.size (.slice A l.length C) l ∧ Below w.heap.size w w'
set_option maxHeartbeats 2000000 in
theorem readAt_c (p bm : Nat) (pre post : List Fl) (x : Fl) (m ex : Nat) (own : Nat → Prop) (w : World) (h : DrvAt w p bm (pre ++ x :: post) m ex own) (s : ByteArray) (hs : s.data.toList = x.n) (hl : s.size ≤ maxLen) :
    Calls Tryz.prog 47 #[.pointer (some ⟨p, 0, none⟩), .string s] w (drreadT x.a w) := by
  have c0 := h.cell0
  have hlt := h.hd.lt
  have hf := DrvAt.find h.mp h.so hs hl
  have hx := h.fl x (by simp)
  obtain ⟨ad, cap, hv, _⟩ := hx.form
  have c1 := hx.cell0
  rw [hv] at c1
  have hr := hx.row.nl
  rw [hv] at hr
  have HC := Lib.hid (drclone_c x.a _ w hr (by have := h.most (x := x) (by simp); omega))
  have hltx := hx.lt
  clear h hs hl hx hv hr
  go_enter Tryz.func47, Tryz.ntmps47
  go_wp2_with fail
  refine HC.out.mono ?_
  rintro e w1 ⟨v, rfl, hv1, b1⟩
  obtain ⟨A, C, rfl, _⟩ := hv1.bc.2
  go_wp2
  go_ret2
  exact ⟨A, C, rfl, hv1, b1⟩

set_option maxHeartbeats 2000000 in
theorem readNo_c (p bm : Nat) (L : List Fl) (m ex : Nat) (own : Nat → Prop) (w : World) (h : DrvAt w p bm L m ex own) (s : ByteArray) (hs : ∀ y ∈ L, y.n ≠ s.data.toList) (hl : s.size ≤ maxLen) :
    Calls Tryz.prog 47 #[.pointer (some ⟨p, 0, none⟩), .string s] w fun e w' => e = .returned (.tuple #[.slice none 0 0, .int .i64 13]) ∧ w = w' := by
  have c0 := h.cell0
  have hlt := h.hd.lt
  have hf := DrvAt.miss h.mp hs hl
  clear h hs hl
  go_enter Tryz.func47, Tryz.ntmps47
  go_wp2
  go_ret2
  exact ⟨rfl, rfl⟩
end Go.Proofs.YtjmkphnppegegaaGreatDoor
/-
  drop, Remove, Cut of a drive, by contract.
-/
namespace Go.Proofs.YtjmkphnppegegaaGreatDoor
open Go.RowKit Go.Lib
set_option maxRecDepth 100000
theorem wpList_delete_run {P : Program} {w : World} {ops : Array Oper} {rest : List Oper} {o : Oper} {a : Act} {Q : Exit → Act → World → Prop} (hgd : o.guard = none) (m x : Operand) (t k : TypeId)
    (ho : o.op = .call { callee := .builtin .delete, args := #[m, x], argTypes := #[t, k] }) (w' : World)
    (hr : (Builtin.delete_ #[t, k] o.type #[a.eval m, a.eval x]).run P w = .ok (.tuple #[]) w') (h : wpList P ops Q rest (a.put o.dst (.tuple #[])) w') : wpList P ops Q (o :: rest) a w :=
  wpList_plain hgd fun _ hK => by
    unfold Oper.wp execOp
    simp only [ho, resolve, invoke, builtin, Sem.run_bind, Sem.run_pure, Result.andThen_ok, List.map_toArray, List.map_cons, List.map_nil, hr]
    exact hK _ _ h

set_option maxHeartbeats 2000000 in
theorem dropNo_c (p bm : Nat) (L : List Fl) (m ex : Nat) (own : Nat → Prop) (w : World) (h : DrvAt w p bm L m ex own) (s : ByteArray) (hs : ∀ y ∈ L, y.n ≠ s.data.toList) (hl : s.size ≤ maxLen) :
    Calls Tryz.prog 67 #[.pointer (some ⟨p, 0, none⟩), .string s] w fun e w' => e = .returned (.bool false) ∧ w = w' := by
  have c0 := h.cell0
  have hlt := h.hd.lt
  have hf := DrvAt.miss h.mp hs hl
  clear h hs hl
  go_enter Tryz.func67, Tryz.ntmps67
  go_wp2
  go_ret
  exact ⟨rfl, rfl⟩

set_option maxHeartbeats 4000000 in
theorem dropAt_c (p bm : Nat) (pre post : List Fl) (x : Fl) (m ex : Nat) (own : Nat → Prop) (w : World) (h : DrvAt w p bm (pre ++ x :: post) m ex own) (s : ByteArray) (hs : s.data.toList = x.n) (hl : s.size ≤ maxLen) :
    Calls Tryz.prog 67 #[.pointer (some ⟨p, 0, none⟩), .string s] w fun e w' => e = .returned (.bool true) ∧ DrvAt w' p bm (pre ++ post) m ex own ∧ Turn (fun i => i = p ∨ i = bm) w w' := by
  have c0 := h.cell0
  have hlt := h.hd.lt
  have hf := DrvAt.find h.mp h.so hs hl
  obtain ⟨w1, hdr, hm1, ht1⟩ := DrvAt.drops h.mp h.so hs hl 0
  have hg1 := ht1.grown
  have hx := h.fl x (by simp)
  obtain ⟨ad, cap, hv, _⟩ := hx.form
  have hpm := h.pm
  have hxm : x.b ≠ bm := map_ne h.mp hx.bx
  have hd1 : Bx 62 w1 p _ := h.hd.far hg1 (by simpa using hpm)
  have d2 := hd1.cell 2
  have hb1 : Bx 80 w1 x.b _ := hx.bx.far hg1 (by simpa using hxm)
  have d0 := hb1.cell 0
  rw [hv] at d0
  rw [used_mid] at d2
  simp only [List.getElem?_toArray, List.getElem?_cons_zero, List.getElem?_cons_succ] at d2 d0
  have f2 := hd1.soft 2
  have hltx := hb1.lt
  have hlt1 := hd1.lt
  have hus := h.us
  have hmx := h.mx
  rw [used_mid] at hus
  have d2' : w1.cell? ⟨p, 2, none⟩ = some (.int .i64 (((used (pre ++ post) + ex : Nat) : Int) + (x.a.length : Int))) := by rw [d2]; simp; omega
  have H : Hid (∀ U : Int, U = ((used (pre ++ post) + ex : Nat) : Int) → DrvAt (w1.setCell ⟨p, 2, none⟩ (.int .i64 U)) p bm (pre ++ post) m ex own) := Lib.hid (fun U hU => by
    refine h.cut (by simpa [World.setCell] using hg1.size) ?_ ?_ ?_ (by omega)
    · rw [← hU]
      exact hd1.set 2 _
    · exact hm1.setCell (a := ⟨p, 2, none⟩) (fun e => hpm e.symm) _
    · intro i hi h1 h2
      rw [Below.heap_setCell _ _ _ _ h1]
      exact hg1.block i (h.up i hi) (by simpa using h2))
  have HT : Hid (∀ U : Value, Turn (fun i => i = p ∨ i = bm) w (w1.setCell ⟨p, 2, none⟩ U)) := Lib.hid (fun U => (Turn.ofGrown hg1 (fun g hg => .inr (by cases hg; rfl))).set (p := ⟨p, 2, none⟩) (.inl rfl) U)
  have hbound : used (pre ++ post) + ex + x.a.length ≤ 1048576 := by omega
  clear h hs hl hx hv hm1 ht1 hg1 hd1 hb1 hus hmx d2
  have HDR := Lib.hid hdr
  clear hdr
  generalize used (pre ++ post) + ex = B at *
  generalize x.a.length = n at *
  generalize x.b = b at *
  have hwB : IntKind.i64.wrap (B : Int) = (B : Int) := by rw [IntKind.wrap_i64]; omega
  go_enter Tryz.func67, Tryz.ntmps67
  go_wp2_with (at_delete; refine wpList_delete_run rfl _ _ 60 9 rfl _ HDR.out ?_)
  go_region
  all_goals
    go_wp2
  all_goals
    go_ret
    exact ⟨rfl, (H.out _ (by first | rfl | exact hwB | omega)).drew, (HT.out _).drew⟩

set_option maxHeartbeats 2000000 in
theorem removeAt_c (p bm : Nat) (pre post : List Fl) (x : Fl) (m ex : Nat) (own : Nat → Prop) (w : World) (h : DrvAt w p bm (pre ++ x :: post) m ex own) (s : ByteArray) (hs : s.data.toList = x.n) (hl : s.size ≤ maxLen) :
    Calls Tryz.prog 45 #[.pointer (some ⟨p, 0, none⟩), .string s] w fun e w' => e = .returned (.int .i64 0) ∧ DrvAt w' p bm (pre ++ post) m ex own ∧ Turn (fun i => i = p ∨ i = bm) w w' := by
  have HC := Lib.hid (dropAt_c p bm pre post x m ex own w h s hs hl)
  clear h hs hl
  go_enter Tryz.func45, Tryz.ntmps45
  go_wp2_with fail
  refine HC.out.mono ?_
  rintro e w1 ⟨rfl, b1, b2⟩
  go_wp2
  go_ret
  exact ⟨rfl, b1, b2⟩

set_option maxHeartbeats 2000000 in
theorem removeNo_c (p bm : Nat) (L : List Fl) (m ex : Nat) (own : Nat → Prop) (w : World) (h : DrvAt w p bm L m ex own) (s : ByteArray) (hs : ∀ y ∈ L, y.n ≠ s.data.toList) (hl : s.size ≤ maxLen) :
    Calls Tryz.prog 45 #[.pointer (some ⟨p, 0, none⟩), .string s] w fun e w' => e = .returned (.int .i64 13) ∧ w = w' := by
  have HC := Lib.hid (dropNo_c p bm L m ex own w h s hs hl)
  clear h hs hl
  go_enter Tryz.func45, Tryz.ntmps45
  go_wp2_with fail
  refine HC.out.mono ?_
  rintro e w1 ⟨rfl, rfl⟩
  go_wp2
  go_ret
  exact ⟨rfl, rfl⟩
end Go.Proofs.YtjmkphnppegegaaGreatDoor
/-
  Cut of a drive, by contract.
-/
namespace Go.Proofs.YtjmkphnppegegaaGreatDoor
open Go.RowKit Go.Lib
set_option maxRecDepth 100000
set_option maxHeartbeats 2000000 in
theorem cutNo_c (p bm : Nat) (L : List Fl) (m ex : Nat) (own : Nat → Prop) (w : World) (h : DrvAt w p bm L m ex own) (s : ByteArray) (hs : ∀ y ∈ L, y.n ≠ s.data.toList) (hl : s.size ≤ maxLen) (k : Int) :
    Calls Tryz.prog 49 #[.pointer (some ⟨p, 0, none⟩), .string s, .int .i64 k] w fun e w' => e = .returned (.int .i64 13) ∧ w = w' := by
  have c0 := h.cell0
  have hlt := h.hd.lt
  have hf := DrvAt.miss h.mp hs hl
  clear h hs hl
  go_enter Tryz.func49, Tryz.ntmps49
  go_wp2
  go_ret
  exact ⟨rfl, rfl⟩

set_option maxHeartbeats 2000000 in
theorem cutBad_c (p bm : Nat) (pre post : List Fl) (x : Fl) (m ex : Nat) (own : Nat → Prop) (w : World) (h : DrvAt w p bm (pre ++ x :: post) m ex own) (s : ByteArray) (hs : s.data.toList = x.n) (hl : s.size ≤ maxLen) (k : Int) (hk : k < 0 ∨ (x.a.length : Int) < k) :
    Calls Tryz.prog 49 #[.pointer (some ⟨p, 0, none⟩), .string s, .int .i64 k] w fun e w' => e = .returned (.int .i64 2) ∧ w = w' := by
  have c0 := h.cell0
  have hlt := h.hd.lt
  have hf := DrvAt.find h.mp h.so hs hl
  have hx := h.fl x (by simp)
  obtain ⟨ad, cap, hv, _⟩ := hx.form
  have c1 := hx.cell0
  rw [hv] at c1
  have hltx := hx.lt
  clear h hs hl hx hv
  generalize x.a.length = n at *
  by_cases h0 : k < 0
  · have e1 : decide (k < 0) = true := by simpa using h0
    clear hk h0
    go_enter Tryz.func49, Tryz.ntmps49
    go_wp2
    go_ret
    exact ⟨rfl, rfl⟩
  · have e1 : decide (k < 0) = false := by simpa using h0
    have e2 : decide ((n : Int) < k) = true := by simp; omega
    clear hk h0
    go_enter Tryz.func49, Tryz.ntmps49
    go_wp2
    go_ret
    exact ⟨rfl, rfl⟩

set_option maxHeartbeats 2000000 in
theorem cutAt_c (p bm : Nat) (pre post : List Fl) (x : Fl) (m ex : Nat) (own : Nat → Prop) (w : World) (h : DrvAt w p bm (pre ++ x :: post) m ex own) (s : ByteArray) (hs : s.data.toList = x.n) (hl : s.size ≤ maxLen) (k : Nat) (hk : k ≤ x.a.length) :
    Calls Tryz.prog 49 #[.pointer (some ⟨p, 0, none⟩), .string s, .int .i64 (k : Int)] w fun e w' => e = .returned (.int .i64 0) ∧ ∃ v', DrvAt w' p bm (pre ++ { x with v := v', a := x.a.take k, f := k } :: post) m ex own ∧ Turn (fun i => i = p ∨ i = x.b) w w' := by
  have c0 := h.cell0
  have hlt := h.hd.lt
  have hf := DrvAt.find h.mp h.so hs hl
  have hx := h.fl x (by simp)
  obtain ⟨ad, cap, hv, _⟩ := hx.form
  have c1 := hx.cell0
  rw [hv] at c1
  have hltx := hx.lt
  have HC := Lib.hid (settle_c p bm pre post x m ex own w h k hk)
  clear h hs hl hx hv
  have e1 : decide ((k : Int) < 0) = false := by simp
  have e2 : decide (x.a.length < k) = false := by simp; omega
  clear hk
  go_enter Tryz.func49, Tryz.ntmps49
  go_wp2_with fail
  refine HC.out.mono ?_
  rintro e w1 ⟨rfl, v', b1, b2⟩
  go_wp2
  go_ret
  exact ⟨rfl, v', b1, b2⟩
end Go.Proofs.YtjmkphnppegegaaGreatDoor
/-
  Append of a drive, by contract.
-/
namespace Go.Proofs.YtjmkphnppegegaaGreatDoor
open Go.RowKit Go.Lib
set_option maxRecDepth 100000
theorem bapp_at (l m : List Int) (v u : Value) (w : World) (ty : TypeId) (h : BRow w 0 v l) (hu : Bl w u m) (hn : l.length + m.length ≤ 2000000) :
    ∃ A C w1, (Builtin.append_ #[78, 78] ty #[v, u]).run Tryz.prog w = .ok (.slice A (l.length + m.length) C) w1 ∧ BRow w1 0 (.slice A (l.length + m.length) C) (l ++ m) ∧ w.grownBy w1 v.ownBlock ∧ (∀ g, (Value.slice A (l.length + m.length) C).ownBlock = some g → v.ownBlock = some g ∨ w.heap.size ≤ g) := by
  rcases hu with ⟨rfl, rfl⟩ | ⟨ad, cap, rfl, hu⟩
  · obtain ⟨a, c, rfl, hc⟩ := h.bc.2
    have hc' : ¬ c < l.length := by omega
    refine ⟨a, c, w, ?_, by rw [List.append_nil]; exact h, grown_refl _ _, fun g hg => .inl hg⟩
    cases a <;> simp [hc', Builtin.append_, go_sem, run_underlying Tryz.underlying78]
  · obtain ⟨i0, hi, hz0, hz1, hz2⟩ := info_parts byteInfo
    obtain ⟨v', w', h1, h2, h3, h4, h5⟩ := run_append_own_at (P := Tryz.prog) w 0 78 ty 5 i0 (.int .u8 0) 1 1 Tryz.underlying78 hi hz0 hz1 hz2 rfl (by decide) v l.length (bys l) h ad m.length cap (bys m) (by rw [bys_len, Nat.mul_one]) (Bl.news hu) (bys_one m) (by unfold maxLen; omega) (by omega) (Nat.zero_le _)
    have hr : BRow w' 0 v' (l ++ m) := by
      unfold BRow
      rw [List.length_append, show bys (l ++ m) = bys l ++ bys m by simp [bys]]
      exact h2
    obtain ⟨a, c, e, _⟩ := hr.nl.form
    rw [List.length_append] at e
    subst e
    refine ⟨a, c, w', h1, hr, h3, fun g hg => ?_⟩
    rcases h5 with h5 | h5
    · exact .inl (by rw [← h5]; exact hg)
    · rw [h5] at hg
      cases hg
      exact .inr (Nat.le_refl _)

theorem Bl.turned {w w' : World} {v : Value} {l : List Int} {bm n : Nat} {D : DataW Unit} (h : Bl w v l) (hm : w.ownsMap Tryz.prog 9 ptrElem bm n D) (hg : w.grownBy w' (some bm)) : Bl w' v l := by
  rcases h with h | ⟨ad, cap, h1, h2⟩
  · exact .inl h
  · refine .inr ⟨ad, cap, h1, fun h0 => ?_⟩
    obtain ⟨b, o, e, hs⟩ := h2 h0
    have hb : b ≠ bm := by
      rintro rfl
      obtain ⟨es, clock, hh, _⟩ := hm
      have := hs 0 h0
      simp [World.cell?, hh] at this
    exact ⟨b, o, e, fun k hk => (grown_cell hg (World.block_lt_of_cell? w _ (hs k hk)) (by simpa using hb)).trans (hs k hk)⟩

/-- What is of one's own now: what was, and what is new. -/
def more (own : Nat → Prop) (w w' : World) (i : Nat) : Prop := own i ∨ (w.heap.size ≤ i ∧ i < w'.heap.size)

theorem DrvAt.appended {w w1 : World} {p bm : Nat} {pre post : List Fl} {x : Fl} {m ex : Nat} {own : Nat → Prop} {V : Value} {l : List Int} (h : DrvAt w p bm (pre ++ x :: post) m ex own) (hr : BRow w1 0 V (x.a ++ l)) (hg : w.grownBy w1 x.v.ownBlock)
    (hloc : ∀ g, V.ownBlock = some g → x.v.ownBlock = some g ∨ w.heap.size ≤ g) (U : Int) (hU : U = ((used (pre ++ x :: post) + ex + l.length : Nat) : Int)) (hm : used (pre ++ x :: post) + ex + l.length ≤ m) :
    DrvAt ((w1.setCell ⟨x.b, 0, none⟩ V).setCell ⟨p, 2, none⟩ (.int .i64 U)) p bm (pre ++ { x with v := V, a := x.a ++ l } :: post) m ex (more own w w1) := by
  have hx := h.fl x (by simp)
  have hbp := hx.bp h.hd
  have hpb : p ≠ x.b := fun e => hbp e.symm
  have hbr : ∀ g, x.v.ownBlock = some g → x.b ≠ g := fun g hg e => hx.rb hx hg e.symm
  have hpr : ∀ g, x.v.ownBlock = some g → p ≠ g := fun g hg e => hx.rp h.hd hg e.symm
  have hu : used (pre ++ { x with v := V, a := x.a ++ l } :: post) + ex = used (pre ++ x :: post) + ex + l.length := by rw [used_mid, used_mid]; simp only [List.length_append]; omega
  have hs : ((w1.setCell ⟨x.b, 0, none⟩ V).setCell ⟨p, 2, none⟩ (.int .i64 U)).heap.size = w1.heap.size := by simp [World.setCell]
  have hkeep : ∀ i, i ≠ p → i ≠ x.b → ((w1.setCell ⟨x.b, 0, none⟩ V).setCell ⟨p, 2, none⟩ (.int .i64 U)).heap[i]? = w1.heap[i]? := fun i h1 h2 => by
    rw [Below.heap_setCell _ _ _ _ h1, Below.heap_setCell _ _ _ _ h2]
  have hb1 : Bx 80 w1 x.b _ := (hg.block x.b hx.lt (fun e => hbr _ e.symm rfl)).trans hx.bx
  have hp1 : Bx 62 w1 p _ := (hg.block p h.hd.lt (fun e => hpr _ e.symm rfl)).trans h.hd
  have hrow : ∀ g, V.ownBlock = some g → g ≠ p ∧ g ≠ x.b := fun g hgv => by
    rcases hloc g hgv with k | k
    · exact ⟨fun e => hpr g k e.symm, fun e => hbr g k e.symm⟩
    · have := h.hd.lt
      have := hx.lt
      exact ⟨by omega, by omega⟩
  refine h.turn (ex' := ex) rfl rfl (fun i hi => .inl hi) ?_ ?_ ?_ ?_ hloc (by rw [hu]; exact hm)
  · intro i hi
    rw [hs]
    rcases hi with hi | hi
    · exact Nat.lt_of_lt_of_le (h.up i hi) hg.size
    · exact hi.2
  · rw [hu, ← hU]
    exact ((hp1.setFar (p := ⟨x.b, 0, none⟩) hpb _).set 2 _)
  · refine ⟨.inl hx.ob, ?_, ?_, ?_, ?_⟩
    · exact (hb1.set 0 V).setFar (p := ⟨p, 2, none⟩) hbp _
    · exact ownsRow_of_block hr (fun g hgv => hkeep g (hrow g hgv).1 (hrow g hgv).2)
    · intro g hgv
      rcases hloc g hgv with k | k
      · exact .inl (hx.ov g k)
      · exact .inr ⟨k, (World.ownsRow.lt hr g hgv).2⟩
    · show x.f ≤ (x.a ++ l).length
      have := hx.le
      simp; omega
  · intro i hi h1 h2 h3
    rw [hkeep i h1 h2]
    exact hg.block i (h.up i hi) (fun e => h3 e.symm)
theorem turn_appended {w w1 : World} {p b : Nat} {own : Nat → Prop} {v V : Value} (hg : w.grownBy w1 v.ownBlock) (hov : ∀ g, v.ownBlock = some g → own g) (hp : own p) (hb : own b) (U : Value) : Turn own w ((w1.setCell ⟨b, 0, none⟩ V).setCell ⟨p, 2, none⟩ U) :=
  ((Turn.ofGrown hg hov).set (p := ⟨b, 0, none⟩) hb V).set (p := ⟨p, 2, none⟩) hp U

/-- A step of a drive: what was its own may have turned; what is its own now was, or is new. -/
structure Step (w : World) (own : Nat → Prop) (w' : World) (own' : Nat → Prop) : Prop where
  turn : Turn own w w'
  sub : ∀ i, own i → own' i
  new : ∀ i, own' i → own i ∨ w.heap.size ≤ i

set_option maxHeartbeats 4000000 in
theorem appName_c (p : Nat) (s : ByteArray) (v : Value) (w : World) (hl : s.size ≤ maxLen) (hn : nameB s.data.toList = false) :
    Calls Tryz.prog 60 #[.pointer (some ⟨p, 0, none⟩), .string s, v] w fun e w' => e = .returned (.int .i64 2) ∧ w = w' := by
  have HN := Lib.hid (name_c s w hl)
  rw [hn] at HN
  clear hn hl
  go_enter Tryz.func60, Tryz.ntmps60
  go_wp2_with fail
  refine HN.out.mono ?_
  rintro e w1 ⟨rfl, rfl⟩
  go_wp2
  go_ret
  exact ⟨rfl, rfl⟩

set_option maxHeartbeats 4000000 in
theorem appFull_c (p bm : Nat) (L : List Fl) (m ex : Nat) (own : Nat → Prop) (w : World) (h : DrvAt w p bm L m ex own) (s : ByteArray) (hl : s.size ≤ maxLen) (hn : nameB s.data.toList = true) (v : Value) (l : List Int) (hv : Bl w v l) (hf : m < used L + ex + l.length) :
    Calls Tryz.prog 60 #[.pointer (some ⟨p, 0, none⟩), .string s, v] w fun e w' => e = .returned (.int .i64 8) ∧ Below w.heap.size w w' := by
  have HN := Lib.hid (name_c s w hl)
  rw [hn] at HN
  have c1 := h.cell1
  have c2 := h.cell2
  have hlt := h.hd.lt
  have hus := h.us
  have hmx := h.mx
  obtain ⟨ad, cap, rfl, _⟩ := hv.form
  clear hn hl h hv
  generalize used L + ex = B at *
  have e1 : decide ((m : Int) - (B : Int) < (l.length : Int)) = true := by simp; omega
  clear hf
  go_enter Tryz.func60, Tryz.ntmps60
  go_wp2_with fail
  refine HN.out.mono ?_
  rintro e w1 ⟨rfl, rfl⟩
  go_wp2
  go_quiet (fail)
  go_wp2
  go_ret
  exact ⟨rfl, below_drewN (Below.refl _ _) _⟩

set_option maxHeartbeats 8000000 in
theorem appOld_c (p bm : Nat) (pre post : List Fl) (x : Fl) (m ex : Nat) (own : Nat → Prop) (w : World) (h : DrvAt w p bm (pre ++ x :: post) m ex own) (s : ByteArray) (hs : s.data.toList = x.n) (hl : s.size ≤ maxLen) (hn : nameB s.data.toList = true) (v : Value) (l : List Int) (hv : Bl w v l)
    (hf : used (pre ++ x :: post) + ex + l.length ≤ m) :
    Calls Tryz.prog 60 #[.pointer (some ⟨p, 0, none⟩), .string s, v] w fun e w' => e = .returned (.int .i64 0) ∧ ∃ V own', DrvAt w' p bm (pre ++ { x with v := V, a := x.a ++ l } :: post) m ex own' ∧ Step w own w' own' := by
  have HN := Lib.hid (name_c s w hl)
  rw [hn] at HN
  have c1 := h.cell1
  have c2 := h.cell2
  have hlt := h.hd.lt
  have hmx := h.mx
  obtain ⟨ad, cap, rfl, _⟩ := hv.form
  have HD := Lib.hid h
  have HV := Lib.hid hv
  have HF := Lib.hid hf
  have HS := Lib.hid hs
  have HL := Lib.hid hl
  clear hn hl h hv hs
  generalize hB : used (pre ++ x :: post) + ex = B at *
  have HB := Lib.hid hB
  clear hB
  have e1 : decide ((m : Int) - (B : Int) < (l.length : Int)) = false := by simp; omega
  go_enter Tryz.func60, Tryz.ntmps60
  go_wp2_with fail
  refine HN.out.mono ?_
  rintro e w1 ⟨rfl, rfl⟩
  go_wp2
  go_quiet (fail)
  have HT : Hid (Turn own w (w.drewN nq)) := Lib.hid ((Turn.refl _ _).drewN _)
  have HSZ : Hid ((w.drewN nq).heap.size = w.heap.size) := Lib.hid rfl
  replace HD := Lib.hid (HD.out.drewN nq)
  replace HV : Hid (Bl (w.drewN nq) (.slice ad l.length cap) l) := Lib.hid HV.out
  clear c1 c2 hlt HN e1
  generalize w.drewN nq = W at HT HD HV HSZ ⊢
  have c0 := HD.out.cell0
  have c2 := HD.out.cell2
  rw [HB.out] at c2
  have hlt := HD.out.hd.lt
  have hx := HD.out.fl x (by simp)
  have hfd := DrvAt.find HD.out.mp HD.out.so HS.out HL.out
  obtain ⟨A0, C0, hxv, _⟩ := hx.form
  have d0 := hx.cell0
  rw [hxv] at d0
  obtain ⟨A, C, w1, happ, hr1, hg1, hloc⟩ := bapp_at x.a l x.v (.slice ad l.length cap) W 78 hx.row HV.out (by have := used_mem (L := pre ++ x :: post) (x := x) (by simp); have := HB.out; omega)
  rw [hxv] at happ
  have HAPP := Lib.hid happ
  have hltx := hx.lt
  have hbp := hx.bp HD.out.hd
  have hb1 : Bx 80 w1 x.b _ := (hg1.block x.b hx.lt (fun e => hx.rb hx e.symm rfl)).trans hx.bx
  have hp1 : Bx 62 w1 p _ := (hg1.block p HD.out.hd.lt (fun e => hx.rp HD.out.hd e.symm rfl)).trans HD.out.hd
  have f0 := hb1.soft 0
  have d1 : w1.cell? ⟨x.b, 0, none⟩ = some x.v := by rw [hb1.cell 0]; rfl
  rw [hxv] at d1
  have f2 := hp1.soft 2
  have c3 : w1.cell? ⟨p, 2, none⟩ = some (.int .i64 (B : Int)) := by rw [hp1.cell 2, ← HB.out]; rfl
  have hlt1 := hp1.lt
  have hltx1 := hb1.lt
  have hpb : p ≠ x.b := fun e => hbp e.symm
  have HR : Hid (∀ U : Int, U = ((B + l.length : Nat) : Int) → DrvAt ((w1.setCell ⟨x.b, 0, none⟩ (.slice A (x.a.length + l.length) C)).setCell ⟨p, 2, none⟩ (.int .i64 U)) p bm (pre ++ { x with v := .slice A (x.a.length + l.length) C, a := x.a ++ l } :: post) m ex (more own W w1)) := Lib.hid (fun U hU =>
    HD.out.appended hr1 hg1 hloc U (by rw [HB.out]; exact hU) (by rw [HB.out]; exact HF.out))
  have HTT : Hid (∀ U, Turn own w ((w1.setCell ⟨x.b, 0, none⟩ (.slice A (x.a.length + l.length) C)).setCell ⟨p, 2, none⟩ U)) := Lib.hid (fun U => HT.out.trans (turn_appended hg1 hx.ov HD.out.op hx.ob U))
  clear happ hr1 hg1 hloc hx hxv hb1 hp1 HV HD HT
  generalize x.a.length = n at *
  go_wp2_with (at_builtin; refine wpList_append_run rfl _ _ 78 rfl _ _ HAPP.out ?_)
  go_ret
  refine ⟨rfl, _, more own W w1, HR.out _ ?_, HTT.out _, fun i hi => .inl hi, fun i hi => ?_⟩
  · omega
  · rcases hi with hi | hi
    · exact .inl hi
    · exact .inr (by rw [← HSZ.out]; exact hi.1)

theorem ins_parts_n (n : List UInt8) : ∀ L : List Fl, ∃ pre post, L = pre ++ post ∧ ∀ x : Fl, x.n = n → ins x L = pre ++ x :: post
  | [] => ⟨[], [], rfl, fun _ _ => rfl⟩
  | z :: r => by
    by_cases hb : bytesBefore n z.n = true
    · exact ⟨[], z :: r, rfl, fun x hx => by rw [ins, hx, if_pos hb]; rfl⟩
    · obtain ⟨pre, post, h1, h2⟩ := ins_parts_n n r
      exact ⟨z :: pre, post, by rw [h1]; rfl, fun x hx => by rw [ins, hx, if_neg hb, h2 x hx]; rfl⟩
theorem wpList_mapUpdate_run {P : Program} {w : World} {ops : Array Oper} {rest : List Oper} {o : Oper} {a : Act} {Q : Exit → Act → World → Prop} (hgd : o.guard = none) (m x v : Operand) (t : TypeId)
    (ho : o.op = .mapUpdate t m x v) (w' : World)
    (hr : (Instr.mapUpdate t (a.eval m) (a.eval x) (a.eval v)).run P w = .ok () w') (h : wpList P ops Q rest (a.put o.dst undef) w') : wpList P ops Q (o :: rest) a w :=
  wpList_plain hgd fun _ hK => by
    unfold Oper.wp execOp
    simp only [ho, Sem.run_bind, Sem.run_pure, Result.andThen_ok, hr]
    exact hK _ _ h
/-- A new file, with nothing in it. -/
theorem DrvAt.fresh {W w2 : World} {p bm : Nat} {L : List Fl} {m ex : Nat} {own : Nat → Prop} {n : List UInt8} (h : DrvAt W p bm L m ex own) (hno : ∀ y ∈ L, y.n ≠ n)
    (hm : w2.ownsMap Tryz.prog 9 ptrElem bm (L.length + 1) (Dof (ins ⟨n, W.heap.size, .slice none 0 0, [], 0⟩ L))) (ht : (W.alloc (.cells #[.slice none 0 0, .int .i64 0] 80)).mapTurned w2 bm) :
    DrvAt w2 p bm (ins ⟨n, W.heap.size, .slice none 0 0, [], 0⟩ L) m ex (fun i => own i ∨ i = W.heap.size) ∧ Turn own W w2 := by
  have hg := ht.grown
  have hbm := h.up bm h.om
  have hblk : ∀ i, i ≠ bm → i < W.heap.size → w2.heap[i]? = W.heap[i]? := fun i h1 h2 => (hg.block i (by simp; omega) (by simpa using h1)).trans (Below.heap_alloc _ _ i h2)
  have hsz : W.heap.size + 1 ≤ w2.heap.size := by have := hg.size; simpa using this
  refine ⟨h.add hno (fun i hi => .inl hi) (fun i hi => ?_) hm ?_ (fun i hi h1 => hblk i h1 (h.up i hi)) (fun y hy => ?_) (by simp), ⟨hg.os.trans rfl, hg.tape.trans rfl, hg.output.trans rfl, by omega, fun i hi hn => hblk i (fun e => hn (by rw [e]; exact h.om)) hi⟩⟩
  · rcases hi with hi | rfl
    · have := h.up i hi
      omega
    · omega
  · refine ⟨.inr rfl, (hg.block W.heap.size (by simp) (by simp; omega)).trans (heap_alloc_new W _), BRow.nil _ _, fun g hg => (by cases hg), Nat.le_refl _⟩
  · have hyf := h.fl y hy
    have := hyf.lt
    exact ⟨by show y.b ≠ W.heap.size; omega, fun g hg e => by cases e⟩

set_option maxHeartbeats 8000000 in
theorem appNew_c (p bm : Nat) (L : List Fl) (m ex : Nat) (own : Nat → Prop) (w : World) (h : DrvAt w p bm L m ex own) (s : ByteArray) (hs : ∀ y ∈ L, y.n ≠ s.data.toList) (hl : s.size ≤ maxLen) (hn : nameB s.data.toList = true) (v : Value) (l : List Int) (hv : Bl w v l)
    (hf : used L + ex + l.length ≤ m) (hL : L.length < maxLen) :
    Calls Tryz.prog 60 #[.pointer (some ⟨p, 0, none⟩), .string s, v] w fun e w' => e = .returned (.int .i64 0) ∧ ∃ b V own', DrvAt w' p bm (ins ⟨s.data.toList, b, V, l, 0⟩ L) m ex own' ∧ Step w own w' own' := by
  have HN := Lib.hid (name_c s w hl)
  rw [hn] at HN
  have c1 := h.cell1
  have c2 := h.cell2
  have hlt := h.hd.lt
  have hmx := h.mx
  obtain ⟨ad, cap, rfl, _⟩ := hv.form
  have HD := Lib.hid h
  have HV := Lib.hid hv
  have HF := Lib.hid hf
  have HS := Lib.hid hs
  have HL := Lib.hid hl
  have HLL := Lib.hid hL
  clear hn hl h hv hs hL
  generalize hB : used L + ex = B at *
  have HB := Lib.hid hB
  clear hB
  have e1 : decide ((m : Int) - (B : Int) < (l.length : Int)) = false := by simp; omega
  go_enter Tryz.func60, Tryz.ntmps60
  go_wp2_with fail
  refine HN.out.mono ?_
  rintro e w1 ⟨rfl, rfl⟩
  go_wp2
  go_quiet (fail)
  have HT : Hid (Turn own w (w.drewN nq)) := Lib.hid ((Turn.refl _ _).drewN _)
  have HSZ : Hid ((w.drewN nq).heap.size = w.heap.size) := Lib.hid rfl
  replace HD := Lib.hid (HD.out.drewN nq)
  replace HV : Hid (Bl (w.drewN nq) (.slice ad l.length cap) l) := Lib.hid HV.out
  clear c1 c2 hlt HN e1
  generalize w.drewN nq = W at HT HD HV HSZ ⊢
  have c0 := HD.out.cell0
  have hlt := HD.out.hd.lt
  have hfd := DrvAt.miss HD.out.mp HS.out HL.out
  obtain ⟨w2, hput, hm2, ht2⟩ := DrvAt.puts (x := ⟨s.data.toList, W.heap.size, .slice none 0 0, [], 0⟩) (HD.out.mp.alloc (.cells #[.slice none 0 0, .int .i64 0] 80)) HS.out (s := s) rfl HL.out HLL.out
  obtain ⟨hD2, hT2⟩ := HD.out.fresh HS.out hm2 ht2
  replace HV := Lib.hid ((HV.out.below (alloc_below W (.cells #[.slice none 0 0, .int .i64 0] 80))).turned (HD.out.mp.alloc _) ht2.grown)
  have HT2 := Lib.hid (HT.out.trans hT2)
  have HPUT := Lib.hid hput
  have hlt0 : p < W.heap.size + 1 := by omega
  have c01 : (W.alloc (.cells #[.slice none 0 0, .int .i64 0] 80)).cell? ⟨p, 0, none⟩ = some (.map (some bm)) := ((alloc_below W _).cell hlt).trans c0
  obtain ⟨pre, post, hLp, hins⟩ := ins_parts_n s.data.toList L
  rw [hins _ rfl] at hD2
  have HD2 := Lib.hid hD2
  have HINS := Lib.hid hins
  have HW2 : Hid (W.heap.size ≤ w2.heap.size) := Lib.hid hT2.size
  have hBu : used (pre ++ ⟨s.data.toList, W.heap.size, .slice none 0 0, [], 0⟩ :: post) + ex = B := by rw [used_mid, ← hLp]; have := HB.out; simp; omega
  have HBU := Lib.hid hBu
  clear hput hm2 ht2 hD2 hT2 hins hLp hBu
  have hx := HD2.out.fl ⟨s.data.toList, W.heap.size, .slice none 0 0, [], 0⟩ (by simp)
  have hltp2 := HD2.out.hd.lt
  have hltx := hx.lt
  have d0 : w2.cell? ⟨W.heap.size, 0, none⟩ = some (.slice none 0 0) := hx.cell0
  obtain ⟨A, C, w1, happ, hr1, hg1, hloc⟩ := bapp_at [] l (.slice none 0 0) (.slice ad l.length cap) w2 78 hx.row HV.out (by simp; omega)
  rw [List.length_nil, Nat.zero_add] at happ hr1 hloc
  have HAPP := Lib.hid happ
  have hbp : W.heap.size ≠ p := by omega
  have hpb : p ≠ W.heap.size := by omega
  have hb1 : Bx 80 w1 W.heap.size _ := (hg1.block _ hx.lt (fun e => by cases e)).trans hx.bx
  have hp1 : Bx 62 w1 p _ := (hg1.block p HD2.out.hd.lt (fun e => by cases e)).trans HD2.out.hd
  have f0 := hb1.soft 0
  have d1 : w1.cell? ⟨W.heap.size, 0, none⟩ = some (.slice none 0 0) := by rw [hb1.cell 0]; rfl
  have f2 := hp1.soft 2
  have c3 : w1.cell? ⟨p, 2, none⟩ = some (.int .i64 (B : Int)) := by rw [hp1.cell 2, ← HBU.out]; rfl
  have hlt1 := hp1.lt
  have hltx1 := hb1.lt
  have HR : Hid (∀ U : Int, U = ((B + l.length : Nat) : Int) → DrvAt ((w1.setCell ⟨W.heap.size, 0, none⟩ (.slice A l.length C)).setCell ⟨p, 2, none⟩ (.int .i64 U)) p bm (pre ++ ⟨s.data.toList, W.heap.size, .slice A l.length C, l, 0⟩ :: post) m ex (more (fun i => own i ∨ i = W.heap.size) w2 w1)) := Lib.hid (fun U hU =>
    HD2.out.appended hr1 hg1 hloc U (by rw [HBU.out]; exact hU) (by rw [HBU.out]; exact HF.out))
  have HTT : Hid (∀ U, Turn own w ((w1.setCell ⟨W.heap.size, 0, none⟩ (.slice A l.length C)).setCell ⟨p, 2, none⟩ U)) := Lib.hid (fun U => by
    have hk : Turn (fun i => own i ∨ i = W.heap.size) w2 ((w1.setCell ⟨W.heap.size, 0, none⟩ (.slice A l.length C)).setCell ⟨p, 2, none⟩ U) := turn_appended hg1 (fun g hg => by cases hg) HD2.out.op hx.ob U
    have h2 := HT2.out
    have hs := HSZ.out
    exact ⟨hk.os.trans h2.os, hk.tape.trans h2.tape, hk.output.trans h2.output, Nat.le_trans h2.size hk.size, fun i hi hn => (hk.block i (Nat.lt_of_lt_of_le hi h2.size) (fun e => by
      rcases e with e | e
      · exact hn e
      · omega)).trans (h2.block i hi hn)⟩)
  clear happ hr1 hg1 hloc hx hb1 hp1 HV HD HT HT2 HD2
  go_wp2_with (first | (at_mapUpdate; refine wpList_mapUpdate_run rfl _ _ _ 60 rfl _ HPUT.out ?_) | (at_builtin; refine wpList_append_run rfl _ _ 78 rfl _ _ HAPP.out ?_))
  go_ret
  refine ⟨rfl, W.heap.size, .slice A l.length C, more (fun i => own i ∨ i = W.heap.size) w2 w1, ?_, HTT.out _, fun i hi => .inl (.inl hi), fun i hi => ?_⟩
  · rw [HINS.out _ rfl]
    refine HR.out _ ?_
    omega
  · have := HSZ.out
    have := HW2.out
    rcases hi with (hi | hi) | hi
    · exact .inl hi
    · exact .inr (by omega)
    · exact .inr (by omega)
end Go.Proofs.YtjmkphnppegegaaGreatDoor
/-
  New of a drive, by contract.
-/
namespace Go.Proofs.YtjmkphnppegegaaGreatDoor
open Go.RowKit Go.Lib
set_option maxRecDepth 100000
set_option maxHeartbeats 2000000 in
theorem newNo_c (m : Int) (w : World) (hm : m < 0 ∨ 1048576 < m) : Calls Tryz.prog 11 #[.int .i64 m] w fun e w' => e = .returned (.pointer none) ∧ w = w' := by
  by_cases h0 : m < 0
  · have e1 : decide (m < 0) = true := by simpa using h0
    clear hm h0
    go_enter Tryz.func11, Tryz.ntmps11
    go_wp2
    go_ret
    exact ⟨rfl, rfl⟩
  · have e1 : decide (m < 0) = false := by simpa using h0
    have e2 : decide (1048576 < m) = true := by simp; omega
    clear hm h0
    go_enter Tryz.func11, Tryz.ntmps11
    go_wp2
    go_ret
    exact ⟨rfl, rfl⟩

theorem DrvAt.made (w : World) (m : Nat) (hm : m ≤ 1048576) :
    DrvAt ((w.alloc (.map #[] 0)).alloc (.cells #[.map (some w.heap.size), .int .i64 (m : Int), .int .i64 0] 62)) (w.heap.size + 1) w.heap.size [] m 0 (fun i => i = w.heap.size ∨ i = w.heap.size + 1) := by
  refine ⟨fun i hi => ?_, .inr rfl, .inl rfl, ?_, ?_, fun x hx => (by cases hx), List.Pairwise.nil, List.Pairwise.nil, Nat.zero_le _, hm⟩
  · rcases hi with rfl | rfl <;> simp <;> omega
  · have := heap_alloc_new (w.alloc (.map #[] 0)) (.cells #[.map (some w.heap.size), .int .i64 (m : Int), .int .i64 0] 62)
    simpa [Bx, used, usedP] using this
  · exact (World.ownsMap_made w Tryz.prog 9 ptrElem).alloc _

def newT (m : Nat) (w : World) (e : Ending) (w' : World) : Prop := ∃ p bm own, e = .returned (.pointer (some ⟨p, 0, none⟩)) ∧ DrvAt w' p bm [] m 0 own ∧ (∀ i, own i → w.heap.size ≤ i) ∧ Below w.heap.size w w'
set_option maxHeartbeats 2000000 in
theorem new_c (m : Nat) (w : World) (hm : m ≤ 1048576) : Calls Tryz.prog 11 #[.int .i64 (m : Int)] w (newT m w) := by
  have e1 : decide ((m : Int) < 0) = false := by simp
  have e2 : decide ((1048576 : Int) < (m : Int)) = false := by simp; omega
  have HM := Lib.hid (DrvAt.made w m hm)
  have hmm := @run_makeMap Tryz.prog
  clear hm
  go_enter Tryz.func11, Tryz.ntmps11
  go_wp2
  go_ret
  exact ⟨_, _, _, rfl, HM.out, fun i hi => by omega, ((Below.refl _ w).alloc (Nat.le_refl _) _).alloc (by simp) _⟩
end Go.Proofs.YtjmkphnppegegaaGreatDoor
/-
  Rename of a drive, by contract.
-/
namespace Go.Proofs.YtjmkphnppegegaaGreatDoor
open Go.RowKit Go.Lib
set_option maxRecDepth 100000
/-- What is left when a file is taken out: it lies beside the drive. -/
def Beside (w : World) (L : List Fl) (x : Fl) (own : Nat → Prop) : Prop := FlAt w own x ∧ ∀ y ∈ L, Apart y x

set_option maxHeartbeats 4000000 in
/-- drop, whether or not the file is there, beside one that was taken out. -/
theorem dropAny_c (p bm : Nat) (L : List Fl) (m ex : Nat) (own : Nat → Prop) (w : World) (h : DrvAt w p bm L m ex own) (s : ByteArray) (hl : s.size ≤ maxLen) (x : Fl) (hx : Beside w L x own) :
    Calls Tryz.prog 67 #[.pointer (some ⟨p, 0, none⟩), .string s] w fun e w' => ∃ (b : Bool) (L' : List Fl), e = .returned (.bool b) ∧ DrvAt w' p bm L' m ex own ∧ L'.map pl = delP s.data.toList (L.map pl) ∧ (∀ y ∈ L', y.n ≠ s.data.toList) ∧ L'.length ≤ L.length ∧ Beside w' L' x own ∧ Turn own w w' := by
  cases hlk : lookP s.data.toList (L.map pl) with
  | none =>
    have hno := look_none hlk
    refine (dropNo_c p bm L m ex own w h s hno hl).mono ?_
    rintro e w' ⟨rfl, rfl⟩
    refine ⟨false, L, rfl, h, ?_, hno, Nat.le_refl _, hx, Turn.refl _ _⟩
    unfold delP
    rw [List.filter_eq_self.2]
    intro y hy
    obtain ⟨z, hz, rfl⟩ := List.mem_map.1 hy
    simpa [pl] using hno z hz
  | some q =>
    obtain ⟨a, f⟩ := q
    obtain ⟨pre, z, post, rfl, hz, _, _⟩ := look_some hlk
    refine (dropAt_c p bm pre post z m ex own w h s hz.symm hl).mono ?_
    rintro e w' ⟨rfl, h1, h2⟩
    refine ⟨true, pre ++ post, rfl, h1, by rw [← hz, delP_pl h.so], ?_, by simp, ⟨?_, ?_⟩, h2.wide (fun i _ hi => hi.elim (fun e => e ▸ h.op) (fun e => e ▸ h.om))⟩
    · intro y hy
      rw [← hz]
      rcases List.mem_append.1 hy with k | k
      · exact h.so.ne.1 y k
      · exact h.so.ne.2 y k
    · refine hx.1.keep (fun _ k => k) (h2.block _ hx.1.lt ?_) (fun g hg => h2.block _ (hx.1.rlt hg) ?_)
      · rintro (e | e)
        · exact hx.1.bp h.hd e
        · exact map_ne h.mp hx.1.bx e
      · rintro (e | e)
        · exact hx.1.rp h.hd hg e
        · obtain ⟨cur, hc⟩ := hx.1.row.tag hg
          exact map_ne h.mp hc e
    · intro y hy
      exact hx.2 y (by rcases List.mem_append.1 hy with k | k <;> simp [k])
end Go.Proofs.YtjmkphnppegegaaGreatDoor
/-
  Names of a drive, by contract.
-/
namespace Go.Proofs.YtjmkphnppegegaaGreatDoor
open Go.RowKit Go.Lib
set_option maxRecDepth 100000
/-- From offset o of block b on the texts ss lie. -/
def Strs (w : World) (b o : Nat) (ss : List (List UInt8)) : Prop := ∀ k (hk : k < ss.length), w.cell? ⟨b, o + k, none⟩ = some (encStr ss[k])
/-- The slice v holds the texts ss, in blocks that are not of the drive. -/
def Sl (w : World) (own : Nat → Prop) (v : Value) (ss : List (List UInt8)) : Prop :=
  ∃ ad cap, v = .slice ad ss.length cap ∧ (0 < ss.length → ∃ b o, ad = some ⟨b, o, none⟩ ∧ Strs w b o ss ∧ ¬ own b)
theorem Sl.turn {w w' : World} {own : Nat → Prop} {v : Value} {ss : List (List UInt8)} (h : Sl w own v ss) (ht : Turn own w w') : Sl w' own v ss := by
  obtain ⟨ad, cap, h1, h2⟩ := h
  refine ⟨ad, cap, h1, fun h0 => ?_⟩
  obtain ⟨b, o, e, hs, hn⟩ := h2 h0
  exact ⟨b, o, e, fun k hk => (World.cell?_of_block (ht.block b (World.block_lt_of_cell? w _ (hs k hk)) hn)).trans (hs k hk), hn⟩
theorem Sl.ofRow {w : World} {own : Nat → Prop} {B : Nat} {v : Value} {ss : List (List UInt8)} (h : w.ownsRow B 9 1 v ss.length (ss.map encStr)) (hn : ∀ g, B ≤ g → ¬ own g) : Sl w own v ss := by
  rcases h.2 with ⟨rfl, h0⟩ | ⟨g, cap, cur, rfl, hg, _⟩
  · exact ⟨none, 0, by rw [h0], fun h => by omega⟩
  · refine ⟨_, cap, rfl, fun _ => ⟨g, 0, rfl, fun k hk => ?_, hn g hg⟩⟩
    rw [Nat.zero_add]
    exact (World.ownsRow.cellAt h k (by omega)).trans (by rw [List.getElem?_map, List.getElem?_eq_getElem hk]; rfl)

def namesT (L : List Fl) (w : World) (e : Ending) (w' : World) : Prop := ∃ v, e = .returned v ∧ w'.ownsRow w.heap.size 9 1 v (L.map (·.n)).length ((L.map (·.n)).map encStr) ∧ Below w.heap.size w w'
set_option maxHeartbeats 2000000 in
theorem names_c (p bm : Nat) (L : List Fl) (m ex : Nat) (own : Nat → Prop) (w : World) (h : DrvAt w p bm L m ex own) (hL : L.length ≤ 1000000) :
    Calls Tryz.prog 39 #[.pointer (some ⟨p, 0, none⟩)] w (namesT L w) := by
  have c0 := h.cell0
  have hlt := h.hd.lt
  have hown := h.mp
  have hmax : Maps.size (Dof L) ≤ maxLen := by rw [Dof_size]; unfold maxLen; omega
  have hbytes : Maps.size (Dof L) * 16 ≤ 140737488355328 := by rw [Dof_size]; omega
  have HS := Lib.hid h.so
  have HM := Lib.hid (Tryz.slices_Sorted_keys_64_65 bm L.length (Dof L) ptrElem w hown hmax hbytes)
  clear h hown hmax hbytes hL
  refine (callsIn_wide (n := 6)).1 ?_
  have hfK : Fence.wide.fn 65 := trivial
  have hfS : Fence.wide.fn 64 := trivial
  refine callsIn_of_wp Tryz.func39 rfl trivial ?_ rfl
  simp only [Tryz.ntmps39, List.size_toArray, List.length_cons, List.length_nil, Nat.reduceAdd, Nat.reduceSub, Array.replicate_succ, Array.replicate_zero, List.push_toArray, List.append_toArray, List.nil_append, List.cons_append]
  gi_wp2_with (first
    | (gi_at_call 65; refine (Tryz.maps_Keys_65 _ _).mono ?_; rintro e w' ⟨rfl, rfl⟩)
    | (gi_at_call 64; refine HM.out.mono ?_; rintro e w' ⟨v, ss, rfl, hS, hrow, hnil, hb⟩))
  go_ret
  rw [Dof_keys] at hS
  refine ⟨v, rfl, ?_, ((Below.refl _ w).alloc (Nat.le_refl _) _).trans (hb.mono (by simp))⟩
  have e2 := names_sorted HS.out hS
  have e3 : ss.length = (L.map (·.n)).length := hS.length_eq
  have hr2 := own_mono hrow (base' := w.heap.size) (by simp)
  rw [e3] at hr2
  rw [← e2]
  rw [e2] at hr2 ⊢
  exact hr2
end Go.Proofs.YtjmkphnppegegaaGreatDoor
/-
  Sync of a drive, by contract.
-/
namespace Go.Proofs.YtjmkphnppegegaaGreatDoor
open Go.RowKit Go.Lib
set_option maxRecDepth 100000
def syncP (P : List Pf) (s : List UInt8) : List Pf :=
  match lookP s P with
  | some (a, _) => updP s (a, a.length) P
  | none => P
def syncs (ss : List (List UInt8)) (P : List Pf) : List Pf := ss.foldl syncP P
theorem lookP_upd (s t : List UInt8) (g : List Int × Nat) : ∀ P : List Pf, (lookP t (updP s g P)).isSome = (lookP t P).isSome
  | [] => rfl
  | y :: r => by
    have ih := lookP_upd s t g r
    unfold updP at ih ⊢
    rw [List.map_cons, lookP, lookP]
    by_cases h : (y.1 == s) = true
    · rw [if_pos h]
      dsimp only
      split
      · rfl
      · exact ih
    · rw [if_neg h]
      split
      · rfl
      · exact ih
theorem lookP_sync (s t : List UInt8) (P : List Pf) : (lookP t (syncP P s)).isSome = (lookP t P).isSome := by
  unfold syncP
  split
  · exact lookP_upd ..
  · rfl
theorem lookP_syncs (t : List UInt8) : ∀ (ss : List (List UInt8)) (P : List Pf), (lookP t (syncs ss P)).isSome = (lookP t P).isSome
  | [], _ => rfl
  | s :: r, P => by
    show (lookP t (syncs r (syncP P s))).isSome = _
    rw [lookP_syncs t r, lookP_sync]
theorem syncs_snoc (ss : List (List UInt8)) (s : List UInt8) (P : List Pf) : syncs (ss ++ [s]) P = syncP (syncs ss P) s := by simp [syncs]
theorem encStr_val (l : List UInt8) : encStr l = .string ⟨l.toArray⟩ := rfl
theorem encStr_list (l : List UInt8) : (⟨l.toArray⟩ : ByteArray).data.toList = l := by simp
theorem encStr_size (l : List UInt8) : (⟨l.toArray⟩ : ByteArray).size = l.length := by simp [ByteArray.size]

set_option maxHeartbeats 4000000 in
theorem syncNo_c (p bm : Nat) (L : List Fl) (m ex : Nat) (own : Nat → Prop) (w : World) (h : DrvAt w p bm L m ex own) (ss : List (List UInt8)) (v : Value) (hv : Sl w own v ss) (hl : ss.length ≤ 1000000) (hz : ∀ s ∈ ss, s.length ≤ maxLen) (j : Nat) (hj : j < ss.length) (hno : lookP ss[j] (L.map pl) = none) :
    Calls Tryz.prog 38 #[.pointer (some ⟨p, 0, none⟩), v] w fun e w' => e = .returned (.int .i64 13) ∧ w = w' := by
  obtain ⟨ad, cap, rfl, hs⟩ := hv
  obtain ⟨b, o, rfl, hs, hn⟩ := hs (by omega)
  have c0 := h.cell0
  have hlt := h.hd.lt
  have HD := Lib.hid h
  have HS := Lib.hid hs
  have HZ := Lib.hid hz
  have HJ := Lib.hid hno
  clear h hs hz hno
  go_enter Tryz.func38, Tryz.ntmps38
  go_wp2
  go_loopw [16] (fun v16 wr => ∃ k : Nat, k ≤ j ∧ v16 = .int .i64 (k : Int) ∧ wr = w) (fun v16 _ => ss.length - (RowKit.intOf v16).toNat)
  case atStart => exact ⟨0, by omega, rfl, rfl⟩
  case round =>
    obtain ⟨k, hk, rfl, rfl⟩ := hrel
    have hkl : k < ss.length := by omega
    have ck := HS.out k hkl
    rw [encStr_val] at ck
    have hsz : (⟨ss[k].toArray⟩ : ByteArray).size ≤ maxLen := by rw [encStr_size]; exact HZ.out _ (List.getElem_mem hkl)
    cases hlk : lookP ss[k] (L.map pl) with
    | none =>
      have hf := DrvAt.miss HD.out.mp (s := ⟨ss[k].toArray⟩) (by rw [encStr_list]; exact look_none hlk) hsz
      clear hlk hsz
      generalize ss[k].toArray = S at *
      go_wp2
      go_ret
      exact ⟨rfl, rfl⟩
    | some q =>
      have hkj : k < j := by
        rcases Nat.lt_or_ge k j with h | h
        · exact h
        · obtain rfl : k = j := by omega
          have := HJ.out
          rw [hlk] at this
          cases this
      obtain ⟨a, f⟩ := q
      obtain ⟨pre, x, post, hLx, hz, _, _⟩ := look_some hlk
      have hf := DrvAt.find (pre := pre) (x := x) (post := post) (by rw [← hLx]; exact HD.out.mp) (by rw [← hLx]; exact HD.out.so) (s := ⟨ss[k].toArray⟩) (by rw [encStr_list]; exact hz.symm) hsz
      clear hlk hsz hLx hz
      generalize ss[k].toArray = S at *
      go_wp2
      go_roundw
      case rel => exact ⟨k + 1, hkj, by go_num, by trivial⟩
      case measure => simp [RowKit.intOf]; omega

set_option maxHeartbeats 8000000 in
theorem sync_c (p bm : Nat) (L : List Fl) (m ex : Nat) (own : Nat → Prop) (w : World) (h : DrvAt w p bm L m ex own) (ss : List (List UInt8)) (v : Value) (hv : Sl w own v ss) (hl : ss.length ≤ 1000000) (hz : ∀ s ∈ ss, s.length ≤ maxLen) (hyes : ∀ s ∈ ss, (lookP s (L.map pl)).isSome = true) :
    Calls Tryz.prog 38 #[.pointer (some ⟨p, 0, none⟩), v] w fun e w' => e = .returned (.int .i64 0) ∧ ∃ L', DrvAt w' p bm L' m ex own ∧ L'.map pl = syncs ss (L.map pl) ∧ L'.length = L.length ∧ Turn own w w' := by
  obtain ⟨ad, cap, rfl, hs⟩ := id hv
  have HV := Lib.hid hv
  have c0 := h.cell0
  have hlt := h.hd.lt
  have HD := Lib.hid h
  have HS := Lib.hid hs
  have HZ := Lib.hid hz
  have HY := Lib.hid hyes
  clear h hs hz hyes hv
  go_enter Tryz.func38, Tryz.ntmps38
  go_wp2
  go_loopw [16] (fun v16 wr => ∃ k : Nat, k ≤ ss.length ∧ v16 = .int .i64 (k : Int) ∧ wr = w) (fun v16 _ => ss.length - (RowKit.intOf v16).toNat)
  case atStart => exact ⟨0, by omega, rfl, rfl⟩
  case round =>
    obtain ⟨k, hk, rfl, rfl⟩ := hrel
    by_cases hkl : k < ss.length
    · obtain ⟨b, o, rfl, hs, hn⟩ := HS.out (by omega)
      have ck := hs k hkl
      rw [encStr_val] at ck
      have hsz : (⟨ss[k].toArray⟩ : ByteArray).size ≤ maxLen := by rw [encStr_size]; exact HZ.out _ (List.getElem_mem hkl)
      have hsome := HY.out _ (List.getElem_mem hkl)
      obtain ⟨⟨a, f⟩, hlk⟩ := Option.isSome_iff_exists.1 hsome
      obtain ⟨pre, x, post, hLx, hz, _, _⟩ := look_some hlk
      have hf := DrvAt.find (pre := pre) (x := x) (post := post) (by rw [← hLx]; exact HD.out.mp) (by rw [← hLx]; exact HD.out.so) (s := ⟨ss[k].toArray⟩) (by rw [encStr_list]; exact hz.symm) hsz
      clear hlk hsz hLx hz hsome hs hn
      generalize ss[k].toArray = S at *
      go_wp2
      go_roundw
      case rel => exact ⟨k + 1, hkl, by go_num, by trivial⟩
      case measure => simp [RowKit.intOf]; omega
    · obtain ⟨w0, rfl⟩ : ∃ w0, w0 = wr := ⟨_, rfl⟩
      go_wp2
      clear c0 hlt HS
      go_loopw [34] (fun v34 w2 => ∃ (k : Nat) (L' : List Fl), k ≤ ss.length ∧ v34 = .int .i64 (k : Int) ∧ Hid (DrvAt w2 p bm L' m ex own) ∧ Hid (L'.map pl = syncs (ss.take k) (L.map pl)) ∧ Hid (L'.length = L.length) ∧ Hid (Turn own w0 w2)) (fun v34 _ => ss.length - (RowKit.intOf v34).toNat)
      case atStart => exact ⟨0, L, by omega, rfl, HD, Lib.hid rfl, Lib.hid rfl, Lib.hid (Turn.refl _ _)⟩
      case round =>
        obtain ⟨j, L', hj, rfl, HD', HP', HL', HT'⟩ := hrel
        by_cases hjl : j < ss.length
        · have hv2 := HV.out.turn HT'.out
          obtain ⟨ad2, cap2, e2, hs2⟩ := hv2
          simp only [Value.slice.injEq] at e2
          obtain ⟨rfl, _, rfl⟩ := e2
          obtain ⟨b, o, rfl, hs, hn⟩ := hs2 (by omega)
          have ck := hs j hjl
          rw [encStr_val] at ck
          have hsz : (⟨ss[j].toArray⟩ : ByteArray).size ≤ maxLen := by rw [encStr_size]; exact HZ.out _ (List.getElem_mem hjl)
          have hsome : (lookP ss[j] (L'.map pl)).isSome = true := by rw [HP'.out, lookP_syncs]; exact HY.out _ (List.getElem_mem hjl)
          obtain ⟨⟨a, f⟩, hlk⟩ := Option.isSome_iff_exists.1 hsome
          obtain ⟨pre, x, post, rfl, hz, hxa, hxf⟩ := look_some hlk
          have hf := DrvAt.find1 HD'.out.mp HD'.out.so (s := ⟨ss[j].toArray⟩) (by rw [encStr_list]; exact hz.symm) hsz
          have c0 := HD'.out.cell0
          have hlt := HD'.out.hd.lt
          have hx := HD'.out.fl x (by simp)
          obtain ⟨A0, C0, hxv, _⟩ := hx.form
          have d0 := hx.cell0
          rw [hxv] at d0
          have hltx := hx.lt
          have HC := Lib.hid (settle_c p bm pre post x m ex own wr HD'.out x.a.length (Nat.le_refl _))
          have HN : Hid (∀ V, (pre ++ { x with v := V, a := x.a.take x.a.length, f := x.a.length } :: post).map pl = syncs (ss.take (j + 1)) (L.map pl)) := Lib.hid (fun V => by
            rw [List.take_succ_eq_append_getElem hjl, syncs_snoc, ← HP'.out]
            unfold syncP
            rw [hlk]
            have := updP_pl (x' := { x with v := V, a := x.a.take x.a.length, f := x.a.length }) HD'.out.so rfl
            rw [← this, ← hz, ← hxa]
            simp)
          have HO : Hid (own x.b ∧ own p) := Lib.hid ⟨hx.ob, HD'.out.op⟩
          have HLL : Hid (∀ V, (pre ++ { x with v := V, a := x.a.take x.a.length, f := x.a.length } :: post).length = L.length) := Lib.hid (fun V => by have := HL'.out; simpa using this)
          clear hlk hsz hz hsome hs hn hx hxv HD' HP' HL' hs2 hxa hxf
          generalize ss[j].toArray = S at *
          go_wp2_with fail
          refine HC.out.mono ?_
          rintro e w1 ⟨rfl, V, hD1, hT1⟩
          have HD1 := Lib.hid hD1
          have HT1 : Hid (Turn own w0 w1) := Lib.hid (HT'.out.trans (hT1.wide (fun i _ hi => hi.elim (fun e => e ▸ HO.out.2) (fun e => e ▸ HO.out.1))))
          clear hD1 hT1 HC
          go_wp2
          go_roundw
          case rel => exact ⟨j + 1, _, hjl, by go_num, HD1, Lib.hid (HN.out V), Lib.hid (HLL.out V), HT1⟩
          case measure => simp [RowKit.intOf]; omega
        · have hP := HP'.out
          rw [List.take_of_length_le (by omega)] at hP
          have HP2 := Lib.hid hP
          clear hP HP'
          go_wp2
          go_ret
          exact ⟨rfl, L', HD'.out, HP2.out, HL'.out, HT'.out⟩
end Go.Proofs.YtjmkphnppegegaaGreatDoor
/-
  Crash of a drive, by contract.
-/
namespace Go.Proofs.YtjmkphnppegegaaGreatDoor
open Go.RowKit Go.Lib
set_option maxRecDepth 100000
theorem crash_step (k : Nat) (y : Pf) (r : List Pf) : crashP k (y :: r) = (y.1, y.2.1.take (y.2.2 + min k (y.2.1.length - y.2.2)), y.2.2 + min k (y.2.1.length - y.2.2)) :: crashP (k - min k (y.2.1.length - y.2.2)) r := rfl
def maxZ (s : Int) : Nat := s.toNat
theorem plP (x : Fl) : (pl x).1 = x.n ∧ (pl x).2.1 = x.a ∧ (pl x).2.2 = x.f := ⟨rfl, rfl, rfl⟩

set_option maxHeartbeats 8000000 in
theorem crash_c (p bm : Nat) (L : List Fl) (m ex : Nat) (own : Nat → Prop) (w : World) (h : DrvAt w p bm L m ex own) (stay : Int) (hst : stay ≤ 9223372036854775807) (hL : L.length ≤ 1000000) (hz : ∀ x ∈ L, x.n.length ≤ maxLen) :
    Calls Tryz.prog 24 #[.pointer (some ⟨p, 0, none⟩), .int .i64 stay] w fun e w' => e = .returned (.tuple #[]) ∧ ∃ L', DrvAt w' p bm L' m ex own ∧ L'.map pl = crashP stay.toNat (L.map pl) ∧ Turn own w w' := by
  have HNM := Lib.hid (names_c p bm L m ex own w h hL)
  obtain ⟨K, hK, hKm⟩ : ∃ K : Nat, stay.toNat = K ∧ max stay 0 = (K : Int) := ⟨stay.toNat, rfl, by omega⟩
  have hK' : K ≤ 9223372036854775807 := by omega
  rw [hK]
  have HD := Lib.hid h
  have HZ := Lib.hid hz
  have hup := Lib.hid h.up
  clear h hz hst hK
  go_enter Tryz.func24, Tryz.ntmps24
  go_wp2_with fail
  refine HNM.out.mono ?_
  rintro e w1 ⟨v, rfl, hrow, hb⟩
  have hsl : Sl w1 own v (L.map (·.n)) := Sl.ofRow hrow (fun g hg hn => by have := hup.out g hn; omega)
  rw [List.length_map] at hrow
  have HSL := Lib.hid hsl
  obtain ⟨ad, cap, rfl, hclr⟩ := hsl
  rw [List.length_map] at HSL ⊢
  have HD1 := Lib.hid (HD.out.below hb)
  have HT1 : Hid (Turn own w w1) := Lib.hid (Turn.ofBelow hb)
  clear hrow hb HNM HD hup hclr
  go_wp2
  clear hKm
  go_loopw [1, 15] (fun v1 v15 wr => ∃ (j k : Nat) (D : List Fl), j ≤ L.length ∧ v15 = .int .i64 (j : Int) ∧ v1 = .int .i64 (k : Int) ∧ k ≤ 9223372036854775807 ∧ Hid (DrvAt wr p bm (D ++ L.drop j) m ex own) ∧ Hid (D.map pl ++ crashP k ((L.drop j).map pl) = crashP K (L.map pl)) ∧ Hid (Turn own w1 wr)) (fun _ v15 _ => L.length - (RowKit.intOf v15).toNat)
  case atStart => exact ⟨0, K, [], by omega, rfl, rfl, hK', HD1, Lib.hid rfl, Lib.hid (Turn.refl _ _)⟩
  case round =>
    obtain ⟨j, k, D, hj, rfl, rfl, hk, HD2, HP, HT2⟩ := hrel
    by_cases hjl : j < L.length
    · have hd := HD2.out
      have hp := HP.out
      rw [List.drop_eq_getElem_cons hjl] at hd hp
      obtain ⟨ad2, cap2, e2, hs2⟩ := HSL.out.turn HT2.out
      rw [List.length_map] at hs2
      simp only [List.length_map, Value.slice.injEq] at e2
      obtain ⟨rfl, _, rfl⟩ := e2
      obtain ⟨b, o, rfl, hs, hn⟩ := hs2 (by omega)
      have ck := hs j (by rw [List.length_map]; exact hjl)
      rw [List.getElem_map, encStr_val] at ck
      have hsz : (⟨L[j].n.toArray⟩ : ByteArray).size ≤ maxLen := by rw [encStr_size]; exact HZ.out _ (List.getElem_mem hjl)
      have HJ := Lib.hid hjl
      generalize L[j] = x at hd hp ck hsz
      have hf := DrvAt.find1 hd.mp hd.so (s := ⟨x.n.toArray⟩) (by rw [encStr_list]) hsz
      have c0 := hd.cell0
      have hlt := hd.hd.lt
      have hx := hd.fl x (by simp)
      have HLO := Lib.hid (loose_c x wr own hx (hd.most (by simp)))
      have hle := hx.le
      have hmost := hd.most (x := x) (by simp)
      generalize hN : x.a.length - x.f = N at HLO
      obtain ⟨q, hq, hqm⟩ : ∃ q : Nat, min k N = q ∧ min (k : Int) (N : Int) = (q : Int) := ⟨min k N, rfl, by omega⟩
      have hqk : q ≤ k := by omega
      have hqN : x.f + q ≤ x.a.length := by omega
      have HST : Hid (∀ W, DrvAt W p bm (D ++ x :: L.drop (j + 1)) m ex own → Calls Tryz.prog 43 #[.pointer (some ⟨p, 0, none⟩), .pointer (some ⟨x.b, 0, none⟩), .int .i64 ((x.f : Int) + (q : Int))] W fun e w' => e = .returned (.tuple #[]) ∧ ∃ v', DrvAt w' p bm (D ++ { x with v := v', a := x.a.take (x.f + q), f := x.f + q } :: L.drop (j + 1)) m ex own ∧ Turn (fun i => i = p ∨ i = x.b) W w') := Lib.hid (fun W hW => by
        have hh := settle_c p bm D (L.drop (j + 1)) x m ex own W hW (x.f + q) hqN
        rw [Int.natCast_add] at hh
        exact hh)
      have HO : Hid (own x.b ∧ own p) := Lib.hid ⟨hx.ob, hd.op⟩
      have HP2 : Hid (∀ V, (D ++ [{ x with v := V, a := x.a.take (x.f + q), f := x.f + q }]).map pl ++ crashP (k - q) ((L.drop (j + 1)).map pl) = crashP K (L.map pl)) := Lib.hid (fun V => by
        rw [← hp, List.map_cons, crash_step, List.map_append, List.append_assoc]
        simp only [pl, hN, hq]
        rfl)
      have HD3 := Lib.hid hd
      have hwq : k - q ≤ 9223372036854775807 := by omega
      have hxf : x.f ≤ 1048576 := by omega
      have hqb : q ≤ 1048576 := by omega
      clear hd hp hs hn hsz hx HD2 HP hs2 hjl hmost hq hqN hN hle
      generalize x.n.toArray = S at *
      go_wp2_with fail
      refine HLO.out.mono ?_
      rintro e w2 ⟨rfl, b2⟩
      have HD4 := Lib.hid (HD3.out.below b2)
      have d1 := (HD4.out.fl x (by simp)).cell1
      have hltx := (HD4.out.fl x (by simp)).lt
      have HT4 : Hid (Turn own w1 w2) := Lib.hid (HT2.out.trans (Turn.ofBelow b2))
      clear b2 HD3 HT2
      go_wp2_with fail
      refine (HST.out w2 HD4.out).mono ?_
      rintro e w3 ⟨rfl, V, hD5, hT5⟩
      have HD5 : Hid (DrvAt w3 p bm ((D ++ [{ x with v := V, a := x.a.take (x.f + q), f := x.f + q }]) ++ L.drop (j + 1)) m ex own) := Lib.hid (by rw [List.append_assoc]; exact hD5)
      have HT5 : Hid (Turn own w1 w3) := Lib.hid (HT4.out.trans (hT5.wide (fun i _ hi => hi.elim (fun e => e ▸ HO.out.2) (fun e => e ▸ HO.out.1))))
      have HP3 := Lib.hid (HP2.out V)
      clear hD5 hT5 HP2 HD4 HT4 HST HLO d1 hltx hqm
      go_wp2
      go_roundw
      case rel => exact ⟨j + 1, k - q, _, HJ.out, by go_num, by rw [Int.ofNat_sub hqk], hwq, HD5, HP3, HT5⟩
      case measure => have := HJ.out; simp [RowKit.intOf]; omega
    · have hd := HD2.out
      have hp := HP.out
      rw [List.drop_eq_nil_of_le (by omega)] at hd hp
      rw [List.append_nil] at hd
      rw [List.map_nil, crashP, List.append_nil] at hp
      have HD3 := Lib.hid hd
      have HP3 := Lib.hid hp
      clear hd hp HD2 HP
      go_wp2
      go_end0
      exact ⟨rfl, D, HD3.out, HP3.out, HT1.out.trans HT2.out⟩
end Go.Proofs.YtjmkphnppegegaaGreatDoor
/-
  A drive as its callers see it: files, and what else is remembered beside it; each call, by contract.
-/
namespace Go.Proofs.YtjmkphnppegegaaGreatDoor
open Go.RowKit Go.Lib
set_option maxRecDepth 100000
/-- Bytes that are not of the drive. -/
def Gst (w : World) (own : Nat → Prop) (v : Value) (l : List Int) : Prop := Bc w v l ∧ (0 < l.length → ∀ g, v.ownBlock = some g → ¬ own g)
theorem Gst.step {w w' : World} {own own' : Nat → Prop} {v : Value} {l : List Int} (h : Gst w own v l) (hs : Step w own w' own') : Gst w' own' v l := by
  obtain ⟨⟨h1, h2⟩, h3⟩ := h
  refine ⟨⟨?_, h2⟩, fun h0 g hg ho => ?_⟩
  · rcases h1 with h1 | ⟨ad, cap, e, hb⟩
    · exact .inl h1
    · refine .inr ⟨ad, cap, e, fun h0 => ?_⟩
      obtain ⟨b, o, rfl, hc⟩ := hb h0
      subst e
      exact ⟨b, o, rfl, fun k hk => (World.cell?_of_block (hs.turn.block b (World.block_lt_of_cell? w _ (hc k hk)) (h3 h0 b rfl))).trans (hc k hk)⟩
  · rcases h1 with ⟨_, rfl⟩ | ⟨ad, cap, rfl, hb⟩
    · simp at h0
    · obtain ⟨b, o, rfl, hc⟩ := hb h0
      cases hg
      have hlt := World.block_lt_of_cell? w _ (hc 0 h0)
      rcases hs.new _ ho with k | k
      · exact h3 h0 _ rfl k
      · have : b < w.heap.size := hlt
        have : w.heap.size ≤ b := k
        omega
theorem Sl.step {w w' : World} {own own' : Nat → Prop} {v : Value} {ss : List (List UInt8)} (h : Sl w own v ss) (hs : Step w own w' own') : Sl w' own' v ss := by
  obtain ⟨ad, cap, h1, h2⟩ := h
  refine ⟨ad, cap, h1, fun h0 => ?_⟩
  obtain ⟨b, o, e, hc, hn⟩ := h2 h0
  have hlt := World.block_lt_of_cell? w _ (hc 0 h0)
  refine ⟨b, o, e, fun k hk => (World.cell?_of_block (hs.turn.block b hlt hn)).trans (hc k hk), fun ho => ?_⟩
  rcases hs.new _ ho with k | k
  · exact hn k
  · have : b < w.heap.size := hlt
    omega
theorem Step.ofTurn {w w' : World} {own : Nat → Prop} (h : Turn own w w') : Step w own w' own := ⟨h, fun _ k => k, fun _ k => .inl k⟩
theorem Step.ofBelow {w w' : World} {own : Nat → Prop} (h : Below w.heap.size w w') : Step w own w' own := .ofTurn (.ofBelow h)

/-- Since w0 there is a drive, with these files; beside it these bytes, and these texts. -/
def Ses (w0 w : World) (p : Nat) (P : List Pf) (m : Nat) (G : List (Value × List Int)) (T : List (Value × List (List UInt8))) : Prop :=
  ∃ bm L own, DrvAt w p bm L m 0 own ∧ L.map pl = P ∧ (∀ i, own i → w0.heap.size ≤ i) ∧ Below w0.heap.size w0 w ∧ (∀ x ∈ G, Gst w own x.1 x.2) ∧ (∀ x ∈ T, Sl w own x.1 x.2)
theorem Ses.bl {w0 w : World} {p : Nat} {P : List Pf} {m : Nat} {G : List (Value × List Int)} {T : List (Value × List (List UInt8))} (h : Ses w0 w p P m G T) : Below w0.heap.size w0 w := by
  obtain ⟨_, _, _, _, _, _, hb, _⟩ := h
  exact hb
theorem Ses.g {w0 w : World} {p : Nat} {P : List Pf} {m : Nat} {G : List (Value × List Int)} {T : List (Value × List (List UInt8))} (h : Ses w0 w p P m G T) {v : Value} {l : List Int} (hm : (v, l) ∈ G) : Bc w v l := by
  obtain ⟨_, _, _, _, _, _, _, hg, _⟩ := h
  exact (hg _ hm).1
theorem Ses.t {w0 w : World} {p : Nat} {P : List Pf} {m : Nat} {G : List (Value × List Int)} {T : List (Value × List (List UInt8))} (h : Ses w0 w p P m G T) {v : Value} {ss : List (List UInt8)} (hm : (v, ss) ∈ T) : ∃ own, Sl w own v ss := by
  obtain ⟨_, _, own, _, _, _, _, _, ht⟩ := h
  exact ⟨own, ht _ hm⟩
theorem Ses.us {w0 w : World} {p : Nat} {P : List Pf} {m : Nat} {G : List (Value × List Int)} {T : List (Value × List (List UInt8))} (h : Ses w0 w p P m G T) : usedP P ≤ m ∧ m ≤ 1048576 := by
  obtain ⟨_, L, _, hd, rfl, _⟩ := h
  exact ⟨by have := hd.us; unfold used at this; omega, hd.mx⟩
theorem Ses.le {w0 w : World} {p : Nat} {P : List Pf} {m : Nat} {G : List (Value × List Int)} {T : List (Value × List (List UInt8))} (h : Ses w0 w p P m G T) {s : List UInt8} {a : List Int} {f : Nat} (hs : lookP s P = some (a, f)) : f ≤ a.length ∧ a.length ≤ 1048576 := by
  obtain ⟨_, L, _, hd, rfl, _⟩ := h
  obtain ⟨pre, x, post, rfl, _, rfl, rfl⟩ := look_some hs
  exact ⟨(hd.fl x (by simp)).le, hd.most (by simp)⟩
/-- A call that leaves the drive. -/
theorem Ses.below {w0 w w' : World} {p : Nat} {P : List Pf} {m : Nat} {G : List (Value × List Int)} {T : List (Value × List (List UInt8))} (h : Ses w0 w p P m G T) (hb : Below w.heap.size w w') : Ses w0 w' p P m G T := by
  obtain ⟨bm, L, own, hd, hp, hl, hbl, hg, ht⟩ := h
  exact ⟨bm, L, own, hd.below hb, hp, hl, bn hbl hb, fun x hx => (hg x hx).step (.ofBelow hb), fun x hx => (ht x hx).step (.ofBelow hb)⟩
/-- .. and makes bytes. -/
theorem Ses.plus {w0 w w' : World} {p : Nat} {P : List Pf} {m : Nat} {G : List (Value × List Int)} {T : List (Value × List (List UInt8))} (h : Ses w0 w p P m G T) (hb : Below w.heap.size w w') {v : Value} {l : List Int} (hv : BRow w' w.heap.size v l) : Ses w0 w' p P m ((v, l) :: G) T := by
  obtain ⟨bm, L, own, hd, hp, hl, hbl, hg, ht⟩ := h
  refine ⟨bm, L, own, hd.below hb, hp, hl, bn hbl hb, fun x hx => ?_, fun x hx => (ht x hx).step (.ofBelow hb)⟩
  rcases List.mem_cons.1 hx with rfl | hx
  · refine ⟨hv.bc, fun _ g hgv ho => ?_⟩
    have := (World.ownsRow.lt hv g hgv).1
    have := hd.up g ho
    omega
  · exact (hg x hx).step (.ofBelow hb)
theorem Ses.drewN {w0 w : World} {p : Nat} {P : List Pf} {m : Nat} {G : List (Value × List Int)} {T : List (Value × List (List UInt8))} (h : Ses w0 w p P m G T) (n : Nat) : Ses w0 (w.drewN n) p P m G T := h.below (below_drewN (Below.refl _ _) n)
theorem Ses.alloc {w0 w : World} {p : Nat} {P : List Pf} {m : Nat} {G : List (Value × List Int)} {T : List (Value × List (List UInt8))} (h : Ses w0 w p P m G T) (o : Obj) : Ses w0 (w.alloc o) p P m G T := h.below (alloc_below w o)
/-- A text just laid, as a list of one. -/
theorem Ses.text {w0 w : World} {p : Nat} {P : List Pf} {m : Nat} {G : List (Value × List Int)} {T : List (Value × List (List UInt8))} (h : Ses w0 w p P m G T) (s : ByteArray) (Ty : TypeId) : Ses w0 (w.alloc (.cells #[.string s] Ty)) p P m G ((.slice (some ⟨w.heap.size, 0, none⟩) 1 1, [s.data.toList]) :: T) := by
  have hb := alloc_below w (.cells #[.string s] Ty)
  obtain ⟨bm, L, own, hd, hp, hl, hbl, hg, ht⟩ := h
  refine ⟨bm, L, own, hd.below hb, hp, hl, bn hbl hb, fun x hx => (hg x hx).step (.ofBelow hb), fun x hx => ?_⟩
  rcases List.mem_cons.1 hx with rfl | hx
  · refine ⟨_, 1, rfl, fun _ => ⟨w.heap.size, 0, rfl, fun k hk => ?_, fun ho => ?_⟩⟩
    · match k, hk with
      | 0, _ =>
        have := (Bx.new Ty w #[.string s]).cell 0
        rw [Nat.zero_add]
        refine this.trans ?_
        simp [encStr]
    · have := hd.up _ ho
      omega
  · exact (ht x hx).step (.ofBelow hb)
theorem Ses.step {w0 w w' : World} {p : Nat} {m bm : Nat} {G : List (Value × List Int)} {T : List (Value × List (List UInt8))} {own own' : Nat → Prop} {L' : List Fl} {P' : List Pf}
    (hl : ∀ i, own i → w0.heap.size ≤ i) (hbl : Below w0.heap.size w0 w) (hg : ∀ x ∈ G, Gst w own x.1 x.2) (ht : ∀ x ∈ T, Sl w own x.1 x.2) (hd : DrvAt w' p bm L' m 0 own') (hp : L'.map pl = P') (hs : Step w own w' own') : Ses w0 w' p P' m G T :=
  ⟨bm, L', own', hd, hp, fun i hi => by
    rcases hs.new i hi with k | k
    · exact hl i k
    · exact Nat.le_trans hbl.size k, hbl.trans (hs.turn.below hbl.size hl), fun x hx => (hg x hx).step hs, fun x hx => (ht x hx).step hs⟩

def appP (s : List UInt8) (l : List Int) (P : List Pf) : List Pf :=
  match lookP s P with
  | none => insP (s, l, 0) P
  | some (a, f) => updP s (a ++ l, f) P
section
variable {w0 w : World} {p : Nat} {P : List Pf} {m : Nat} {G : List (Value × List Int)} {T : List (Value × List (List UInt8))}

theorem sNew (w0 w : World) (m : Nat) (hm : m ≤ 1048576) (hb : Below w0.heap.size w0 w) : Calls Tryz.prog 11 #[.int .i64 (m : Int)] w fun e w' => ∃ p, e = .returned (.pointer (some ⟨p, 0, none⟩)) ∧ Ses w0 w' p [] m [] [] := by
  refine (new_c m w hm).mono ?_
  rintro e w' ⟨p, bm, own, rfl, hd, hl, hbl⟩
  exact ⟨p, rfl, bm, [], own, hd, rfl, fun i hi => Nat.le_trans hb.size (hl i hi), bn hb hbl, fun x hx => (by cases hx), fun x hx => (by cases hx)⟩

theorem sAppend (h : Ses w0 w p P m G T) (s : ByteArray) (hl : s.size ≤ maxLen) (hn : nameB s.data.toList = true) (v : Value) (l : List Int) (hv : Bl w v l) (hf : usedP P + l.length ≤ m) (hL : P.length < maxLen) :
    Calls Tryz.prog 60 #[.pointer (some ⟨p, 0, none⟩), .string s, v] w fun e w' => e = .returned (.int .i64 0) ∧ Ses w0 w' p (appP s.data.toList l P) m G T := by
  obtain ⟨bm, L, own, hd, rfl, hlo, hbl, hg, ht⟩ := h
  unfold appP
  cases hlk : lookP s.data.toList (L.map pl) with
  | none =>
    refine (appNew_c p bm L m 0 own w hd s (look_none hlk) hl hn v l hv (by unfold used; omega) (by simpa using hL)).mono ?_
    rintro e w' ⟨rfl, b, V, own', hd', hs⟩
    exact ⟨rfl, Ses.step hlo hbl hg ht hd' (by rw [ins_pl]; rfl) hs⟩
  | some q =>
    obtain ⟨a, f⟩ := q
    obtain ⟨pre, x, post, rfl, hz, rfl, rfl⟩ := look_some hlk
    refine (appOld_c p bm pre post x m 0 own w hd s hz.symm hl hn v l hv (by unfold used; omega)).mono ?_
    rintro e w' ⟨rfl, V, own', hd', hs⟩
    refine ⟨rfl, Ses.step hlo hbl hg ht hd' ?_ hs⟩
    rw [← hz]
    exact (updP_pl (x' := { x with v := V, a := x.a ++ l }) hd.so rfl).symm

theorem sFull (h : Ses w0 w p P m G T) (s : ByteArray) (hl : s.size ≤ maxLen) (hn : nameB s.data.toList = true) (v : Value) (l : List Int) (hv : Bl w v l) (hf : m < usedP P + l.length) :
    Calls Tryz.prog 60 #[.pointer (some ⟨p, 0, none⟩), .string s, v] w fun e w' => e = .returned (.int .i64 8) ∧ Ses w0 w' p P m G T := by
  have h' := h
  obtain ⟨bm, L, own, hd, rfl, _⟩ := h'
  refine (appFull_c p bm L m 0 own w hd s hl hn v l hv (by unfold used; omega)).mono ?_
  rintro e w' ⟨rfl, hb⟩
  exact ⟨rfl, h.below hb⟩

theorem sSync (h : Ses w0 w p P m G T) (ss : List (List UInt8)) (v : Value) (hv : (v, ss) ∈ T) (hl : ss.length ≤ 1000000) (hz : ∀ s ∈ ss, s.length ≤ maxLen) (hy : ∀ s ∈ ss, (lookP s P).isSome = true) :
    Calls Tryz.prog 38 #[.pointer (some ⟨p, 0, none⟩), v] w fun e w' => e = .returned (.int .i64 0) ∧ Ses w0 w' p (syncs ss P) m G T := by
  obtain ⟨bm, L, own, hd, rfl, hlo, hbl, hg, ht⟩ := h
  refine (sync_c p bm L m 0 own w hd ss v (ht _ hv) hl hz hy).mono ?_
  rintro e w' ⟨rfl, L', hd', hp', _, hs⟩
  exact ⟨rfl, Ses.step hlo hbl hg ht hd' hp' (.ofTurn hs)⟩

theorem sLoose (h : Ses w0 w p P m G T) (s : ByteArray) (hl : s.size ≤ maxLen) (a : List Int) (f : Nat) (hs : lookP s.data.toList P = some (a, f)) :
    Calls Tryz.prog 40 #[.pointer (some ⟨p, 0, none⟩), .string s] w fun e w' => e = .returned (.int .i64 ((a.length - f : Nat) : Int)) ∧ Ses w0 w' p P m G T := by
  have h' := h
  obtain ⟨bm, L, own, hd, rfl, _⟩ := h'
  obtain ⟨pre, x, post, rfl, hz, rfl, rfl⟩ := look_some hs
  refine (looseAt_c p bm pre post x m 0 own w hd s hz.symm hl).mono ?_
  rintro e w' ⟨rfl, hb⟩
  exact ⟨rfl, h.below hb⟩

theorem sRead (h : Ses w0 w p P m G T) (s : ByteArray) (hl : s.size ≤ maxLen) (a : List Int) (f : Nat) (hs : lookP s.data.toList P = some (a, f)) :
    Calls Tryz.prog 47 #[.pointer (some ⟨p, 0, none⟩), .string s] w fun e w' => ∃ A C, e = .returned (.tuple #[.slice A a.length C, .int .i64 0]) ∧ Ses w0 w' p P m ((.slice A a.length C, a) :: G) T := by
  have h' := h
  obtain ⟨bm, L, own, hd, rfl, _⟩ := h'
  obtain ⟨pre, x, post, rfl, hz, rfl, rfl⟩ := look_some hs
  refine (readAt_c p bm pre post x m 0 own w hd s hz.symm hl).mono ?_
  rintro e w' ⟨A, C, rfl, hr, hb⟩
  exact ⟨A, C, rfl, h.plus hb hr⟩

theorem sReadNo (h : Ses w0 w p P m G T) (s : ByteArray) (hl : s.size ≤ maxLen) (hs : lookP s.data.toList P = none) :
    Calls Tryz.prog 47 #[.pointer (some ⟨p, 0, none⟩), .string s] w fun e w' => e = .returned (.tuple #[.slice none 0 0, .int .i64 13]) ∧ w = w' := by
  obtain ⟨bm, L, own, hd, rfl, _⟩ := h
  exact readNo_c p bm L m 0 own w hd s (look_none hs) hl

theorem sUsed (h : Ses w0 w p P m G T) : Calls Tryz.prog 26 #[.pointer (some ⟨p, 0, none⟩)] w fun e w' => e = .returned (.int .i64 ((usedP P : Nat) : Int)) ∧ w = w' := by
  obtain ⟨bm, L, own, hd, rfl, _⟩ := h
  exact used_c p bm L m 0 own w hd

theorem sCrash (h : Ses w0 w p P m G T) (stay : Int) (hst : stay ≤ 9223372036854775807) (hL : P.length ≤ 1000000) :
    Calls Tryz.prog 24 #[.pointer (some ⟨p, 0, none⟩), .int .i64 stay] w fun e w' => e = .returned (.tuple #[]) ∧ Ses w0 w' p (crashP stay.toNat P) m G T := by
  obtain ⟨bm, L, own, hd, rfl, hlo, hbl, hg, ht⟩ := h
  have hz : ∀ x ∈ L, x.n.length ≤ maxLen := fun x hx => strKeys_le hd.mp Tryz.underlying9 x.n (by rw [Dof_keys]; exact List.mem_map.2 ⟨x, hx, rfl⟩)
  refine (crash_c p bm L m 0 own w hd stay hst (by simpa using hL) hz).mono ?_
  rintro e w' ⟨rfl, L', hd', hp', hs⟩
  exact ⟨rfl, Ses.step hlo hbl hg ht hd' hp' (.ofTurn hs)⟩

theorem sCut (h : Ses w0 w p P m G T) (s : ByteArray) (hl : s.size ≤ maxLen) (a : List Int) (f : Nat) (hs : lookP s.data.toList P = some (a, f)) (k : Nat) (hk : k ≤ a.length) :
    Calls Tryz.prog 49 #[.pointer (some ⟨p, 0, none⟩), .string s, .int .i64 (k : Int)] w fun e w' => e = .returned (.int .i64 0) ∧ Ses w0 w' p (updP s.data.toList (a.take k, k) P) m G T := by
  obtain ⟨bm, L, own, hd, rfl, hlo, hbl, hg, ht⟩ := h
  obtain ⟨pre, x, post, rfl, hz, rfl, rfl⟩ := look_some hs
  refine (cutAt_c p bm pre post x m 0 own w hd s hz.symm hl k hk).mono ?_
  rintro e w' ⟨rfl, V, hd', hs'⟩
  refine ⟨rfl, Ses.step hlo hbl hg ht hd' ?_ (.ofTurn (hs'.wide (fun i _ hi => hi.elim (fun e => e ▸ hd.op) (fun e => e ▸ (hd.fl x (by simp)).ob))))⟩
  rw [← hz]
  exact (updP_pl (x' := { x with v := V, a := x.a.take k, f := k }) hd.so rfl).symm

theorem sCutNo (h : Ses w0 w p P m G T) (s : ByteArray) (hl : s.size ≤ maxLen) (hs : lookP s.data.toList P = none) (k : Int) :
    Calls Tryz.prog 49 #[.pointer (some ⟨p, 0, none⟩), .string s, .int .i64 k] w fun e w' => e = .returned (.int .i64 13) ∧ w = w' := by
  obtain ⟨bm, L, own, hd, rfl, _⟩ := h
  exact cutNo_c p bm L m 0 own w hd s (look_none hs) hl k

theorem sRemove (h : Ses w0 w p P m G T) (s : ByteArray) (hl : s.size ≤ maxLen) (a : List Int) (f : Nat) (hs : lookP s.data.toList P = some (a, f)) :
    Calls Tryz.prog 45 #[.pointer (some ⟨p, 0, none⟩), .string s] w fun e w' => e = .returned (.int .i64 0) ∧ Ses w0 w' p (delP s.data.toList P) m G T := by
  obtain ⟨bm, L, own, hd, rfl, hlo, hbl, hg, ht⟩ := h
  obtain ⟨pre, x, post, rfl, hz, rfl, rfl⟩ := look_some hs
  refine (removeAt_c p bm pre post x m 0 own w hd s hz.symm hl).mono ?_
  rintro e w' ⟨rfl, hd', hs'⟩
  refine ⟨rfl, Ses.step hlo hbl hg ht hd' ?_ (.ofTurn (hs'.wide (fun i _ hi => hi.elim (fun e => e ▸ hd.op) (fun e => e ▸ hd.om))))⟩
  rw [← hz]
  exact (delP_pl hd.so).symm

theorem sNames (h : Ses w0 w p P m G T) (hL : P.length ≤ 1000000) :
    Calls Tryz.prog 39 #[.pointer (some ⟨p, 0, none⟩)] w fun e w' => ∃ v, e = .returned v ∧ Ses w0 w' p P m G ((v, P.map (·.1)) :: T) := by
  have h' := h
  obtain ⟨bm, L, own, hd, rfl, hlo, hbl, hg, ht⟩ := h'
  refine (names_c p bm L m 0 own w hd (by simpa using hL)).mono ?_
  rintro e w' ⟨v, rfl, hr, hb⟩
  refine ⟨v, rfl, bm, L, own, hd.below hb, rfl, hlo, bn hbl hb, fun x hx => (hg x hx).step (.ofBelow hb), fun x hx => ?_⟩
  rcases List.mem_cons.1 hx with rfl | hx
  · have e : (L.map pl).map (·.1) = L.map (·.n) := by rw [List.map_map]; rfl
    show Sl w' own v ((L.map pl).map (·.1))
    rw [e]
    exact Sl.ofRow hr (fun g hg ho => by have := hd.up g ho; omega)
  · exact (ht x hx).step (.ofBelow hb)
end
end Go.Proofs.YtjmkphnppegegaaGreatDoor
