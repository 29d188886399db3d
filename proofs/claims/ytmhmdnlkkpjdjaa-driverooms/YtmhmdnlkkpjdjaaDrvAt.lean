/-
  A drive in memory: its box, its map, its files' boxes and rows; what stays of it.
-/
import Derived.Test.YtmhmdnlkkpjdjaaDrvMod
namespace Go.Proofs.Ytmhmdnlkkpjdjaa
open Go.RowKit Go.Lib

/-- What has turned lies in S, or is new. -/
structure Turn (S : Nat → Prop) (w w' : World) : Prop where
  os : w'.os = w.os
  tape : w'.tape = w.tape
  output : w'.output = w.output
  size : w.heap.size ≤ w'.heap.size
  block : ∀ i, i < w.heap.size → ¬ S i → w'.heap[i]? = w.heap[i]?
theorem Turn.refl (S : Nat → Prop) (w : World) : Turn S w w := ⟨rfl, rfl, rfl, Nat.le_refl _, fun _ _ _ => rfl⟩
theorem Turn.trans {S : Nat → Prop} {a b c : World} (h : Turn S a b) (k : Turn S b c) : Turn S a c :=
  ⟨k.os.trans h.os, k.tape.trans h.tape, k.output.trans h.output, Nat.le_trans h.size k.size, fun i hi hn => (k.block i (Nat.lt_of_lt_of_le hi h.size) hn).trans (h.block i hi hn)⟩
theorem Turn.wide {S T : Nat → Prop} {a b : World} (h : Turn S a b) (k : ∀ i, i < a.heap.size → S i → T i) : Turn T a b := ⟨h.os, h.tape, h.output, h.size, fun i hi hn => h.block i hi (fun hs => hn (k i hi hs))⟩
theorem Turn.ofBelow {S : Nat → Prop} {a b : World} (h : Below a.heap.size a b) : Turn S a b := ⟨h.os, h.tape, h.output, h.size, fun i hi _ => h.block i hi⟩
theorem Turn.ofGrown {S : Nat → Prop} {a b : World} {r : Option Nat} (h : a.grownBy b r) (k : ∀ g, r = some g → S g) : Turn S a b := ⟨h.os, h.tape, h.output, h.size, fun i hi hn => h.block i hi (fun e => hn (k i e.symm))⟩
theorem Turn.set {S : Nat → Prop} {a w : World} (h : Turn S a w) {p : Addr} (hp : S p.block) (u : Value) : Turn S a (w.setCell p u) :=
  ⟨h.os, h.tape, h.output, by simpa [World.setCell] using h.size, fun i hi hne => (Below.heap_setCell w p u i (by rintro rfl; exact hne hp)).trans (h.block i hi hne)⟩
theorem Turn.alloc {S : Nat → Prop} {a w : World} (h : Turn S a w) (o : Obj) : Turn S a (w.alloc o) := h.trans (.ofBelow (alloc_below w o))
theorem Turn.drewN {S : Nat → Prop} {a w : World} (h : Turn S a w) (n : Nat) : Turn S a (w.drewN n) := ⟨h.os, h.tape, h.output, h.size, h.block⟩
theorem Turn.below {S : Nat → Prop} {a b : World} {B : Nat} (h : Turn S a b) (hB : B ≤ a.heap.size) (hS : ∀ i, S i → B ≤ i) : Below B a b := ⟨h.os, h.tape, h.output, h.size, fun i hi => h.block i (by omega) (fun hs => by have := hS i hs; omega)⟩

/-- A file in memory. -/
structure FlAt (w : World) (own : Nat → Prop) (x : Fl) : Prop where
  ob : own x.b
  bx : Bx 56 w x.b #[x.v, .int .i64 (x.f : Int)]
  row : BRow w 0 x.v x.a
  ov : ∀ g, x.v.ownBlock = some g → own g
  le : x.f ≤ x.a.length
theorem ownsRow_of_block {w w' : World} {B : Nat} {e : TypeId} {k : Nat} {v : Value} {n : Nat} {xs : List Value} (h : w.ownsRow B e k v n xs) (hb : ∀ g, v.ownBlock = some g → w'.heap[g]? = w.heap[g]?) : w'.ownsRow B e k v n xs := by
  refine ⟨h.1, ?_⟩
  rcases h.2 with h2 | ⟨g, cap, cur, rfl, h3, h4, h5⟩
  · exact .inl h2
  · exact .inr ⟨g, cap, cur, rfl, h3, (hb g rfl).trans h4, h5⟩
theorem FlAt.keep {w w' : World} {own own' : Nat → Prop} {x : Fl} (h : FlAt w own x) (ho : ∀ i, own i → own' i) (h1 : w'.heap[x.b]? = w.heap[x.b]?) (h2 : ∀ g, x.v.ownBlock = some g → w'.heap[g]? = w.heap[g]?) : FlAt w' own' x :=
  ⟨ho _ h.ob, h1.trans h.bx, ownsRow_of_block h.row h2, fun g hg => ho g (h.ov g hg), h.le⟩
theorem BRow.tag {w : World} {B : Nat} {v : Value} {l : List Int} {g : Nat} (h : BRow w B v l) (hg : v.ownBlock = some g) : ∃ cur, w.heap[g]? = some (.cells cur 5 (0, 0)) := by
  rcases h.2 with ⟨rfl, _⟩ | ⟨g', cap, cur, rfl, _, h4, _⟩
  · cases hg
  · cases hg
    exact ⟨cur, h4⟩
theorem tag_ne {w : World} {a b : Nat} {x y : Array Value} {s t : TypeId} {m n : Nat × Nat} (hx : w.heap[a]? = some (.cells x s m)) (hy : w.heap[b]? = some (.cells y t n)) (h : s ≠ t) : a ≠ b := by
  rintro rfl
  rw [hx] at hy
  simp only [Option.some.injEq, Obj.cells.injEq] at hy
  exact h hy.2.1

/-- Two files share no block. -/
def Apart (x y : Fl) : Prop := x.b ≠ y.b ∧ ∀ g, x.v.ownBlock = some g → y.v.ownBlock ≠ some g

/-- A drive in memory, of whose bytes ex more are counted than its files have. -/
structure DrvAt (w : World) (p bm : Nat) (L : List Fl) (m ex : Nat) (own : Nat → Prop) : Prop where
  up : ∀ i, own i → i < w.heap.size
  op : own p
  om : own bm
  hd : Bx 51 w p #[.map (some bm), .int .i64 (m : Int), .int .i64 ((used L + ex : Nat) : Int)]
  mp : w.ownsMap Try.prog 9 ptrElem bm L.length (Dof L)
  fl : ∀ x ∈ L, FlAt w own x
  ap : L.Pairwise Apart
  so : Up L
  us : used L + ex ≤ m
  mx : m ≤ 1048576
theorem ownsMap_of_block {w w' : World} {P : Program} {k : TypeId} {R : Value → Option (DataW Unit × List MemPlace)} {b n : Nat} {D : DataW Unit} (h : w.ownsMap P k R b n D) (hb : w'.heap[b]? = w.heap[b]?) : w'.ownsMap P k R b n D := by
  obtain ⟨es, clock, h1, h2⟩ := h
  exact ⟨es, clock, hb.trans h1, h2⟩
theorem ownsMap_tight {w : World} {P : Program} {k : TypeId} {R : Value → Option (DataW Unit × List MemPlace)} {b n : Nat} {D : DataW Unit} (h : w.ownsMap P k R b n D) {n' : Nat} (hn : Maps.size D = n') : w.ownsMap P k R b n' D := by
  obtain ⟨es, clock, h1, h2, h3, h4⟩ := h
  refine ⟨es, clock, h1, h2, ?_, h4⟩
  subst hn h4
  simp [Maps.size, length_sorted]
theorem DrvAt.keep {w w' : World} {p bm : Nat} {L : List Fl} {m ex : Nat} {own : Nat → Prop} (h : DrvAt w p bm L m ex own) (hs : w.heap.size ≤ w'.heap.size) (hb : ∀ i, own i → w'.heap[i]? = w.heap[i]?) : DrvAt w' p bm L m ex own :=
  ⟨fun i hi => Nat.lt_of_lt_of_le (h.up i hi) hs, h.op, h.om, (hb _ h.op).trans h.hd, ownsMap_of_block h.mp (hb _ h.om), fun x hx => (h.fl x hx).keep (fun _ k => k) (hb _ (h.fl x hx).ob) (fun g hg => hb _ ((h.fl x hx).ov g hg)), h.ap, h.so, h.us, h.mx⟩
theorem DrvAt.below {w w' : World} {p bm : Nat} {L : List Fl} {m ex : Nat} {own : Nat → Prop} (h : DrvAt w p bm L m ex own) (hb : Below w.heap.size w w') : DrvAt w' p bm L m ex own :=
  h.keep hb.size (fun i hi => hb.block i (h.up i hi))
theorem map_ne {w : World} {P : Program} {k : TypeId} {R : Value → Option (DataW Unit × List MemPlace)} {b n : Nat} {D : DataW Unit} (h : w.ownsMap P k R b n D) {i : Nat} {x : Array Value} {s : TypeId} {m : Nat × Nat} (hx : w.heap[i]? = some (.cells x s m)) : i ≠ b := by
  rintro rfl
  obtain ⟨es, clock, h1, _⟩ := h
  rw [hx] at h1
  cases h1
theorem DrvAt.pm {w : World} {p bm : Nat} {L : List Fl} {m ex : Nat} {own : Nat → Prop} (h : DrvAt w p bm L m ex own) : p ≠ bm := map_ne h.mp h.hd
theorem FlAt.bp {w : World} {p : Nat} {own : Nat → Prop} {x : Fl} {cs : Array Value} (h : FlAt w own x) (hd : Bx 51 w p cs) : x.b ≠ p := tag_ne h.bx hd (by decide)
theorem FlAt.rp {w : World} {p : Nat} {own : Nat → Prop} {x : Fl} {cs : Array Value} (h : FlAt w own x) (hd : Bx 51 w p cs) {g : Nat} (hg : x.v.ownBlock = some g) : g ≠ p := by
  obtain ⟨cur, hc⟩ := h.row.tag hg
  exact tag_ne hc hd (by decide)
theorem FlAt.rb {w : World} {own : Nat → Prop} {x y : Fl} (h : FlAt w own x) (k : FlAt w own y) {g : Nat} (hg : x.v.ownBlock = some g) : g ≠ y.b := by
  obtain ⟨cur, hc⟩ := h.row.tag hg
  exact tag_ne hc k.bx (by decide)
theorem FlAt.lt {w : World} {own : Nat → Prop} {x : Fl} (h : FlAt w own x) : x.b < w.heap.size := h.bx.lt
theorem FlAt.rlt {w : World} {own : Nat → Prop} {x : Fl} (h : FlAt w own x) {g : Nat} (hg : x.v.ownBlock = some g) : g < w.heap.size := (World.ownsRow.lt h.row g hg).2
theorem apart_mid {pre post : List Fl} {x : Fl} (h : (pre ++ x :: post).Pairwise Apart) : ∀ y ∈ pre ++ post, Apart y x := by
  obtain ⟨_, h2, h3⟩ := List.pairwise_append.1 h
  obtain ⟨h4, _⟩ := List.pairwise_cons.1 h2
  intro y hy
  rcases List.mem_append.1 hy with hy | hy
  · exact h3 y hy x (List.mem_cons_self ..)
  · have := h4 y hy
    exact ⟨fun e => this.1 e.symm, fun g hg e => this.2 g e hg⟩
theorem apart_sub {pre post : List Fl} {x : Fl} (h : (pre ++ x :: post).Pairwise Apart) : (pre ++ post).Pairwise Apart := by
  refine h.sublist ?_
  exact List.Sublist.append (List.Sublist.refl _) (List.sublist_cons_self ..)
theorem up_sub {pre post : List Fl} {x : Fl} (h : Up (pre ++ x :: post)) : Up (pre ++ post) := by
  refine List.Pairwise.sublist ?_ h
  exact List.Sublist.append (List.Sublist.refl _) (List.sublist_cons_self ..)
theorem pairwise_mid {α : Type} {R : α → α → Prop} (hs : ∀ a b, R a b → R b a) {pre post : List α} {x : α} (h : (pre ++ post).Pairwise R) (hx : ∀ y ∈ pre ++ post, R y x) : (pre ++ x :: post).Pairwise R := by
  obtain ⟨h1, h2, h3⟩ := List.pairwise_append.1 h
  refine List.pairwise_append.2 ⟨h1, List.pairwise_cons.2 ⟨fun y hy => hs _ _ (hx y (by simp [hy])), h2⟩, fun a ha b hb => ?_⟩
  rcases List.mem_cons.1 hb with rfl | hb
  · exact hx a (by simp [ha])
  · exact h3 a ha b hb
theorem apart_symm (a b : Fl) (h : Apart a b) : Apart b a := ⟨fun e => h.1 e.symm, fun g hg e => h.2 g e hg⟩
theorem Up.turn {pre post : List Fl} {x x' : Fl} (h : Up (pre ++ x :: post)) (hn : x'.n = x.n) : Up (pre ++ x' :: post) := by
  obtain ⟨h1, h2, h3⟩ := List.pairwise_append.1 h
  obtain ⟨h4, h5⟩ := List.pairwise_cons.1 h2
  refine List.pairwise_append.2 ⟨h1, List.pairwise_cons.2 ⟨fun y hy => by rw [hn]; exact h4 y hy, h5⟩, fun a ha b hb => ?_⟩
  rcases List.mem_cons.1 hb with rfl | hb
  · rw [hn]; exact h3 a ha x (List.mem_cons_self ..)
  · exact h3 a ha b (List.mem_cons_of_mem _ hb)
theorem Dof_turn {pre post : List Fl} {x x' : Fl} (hn : x'.n = x.n) (hb : x'.b = x.b) : Dof (pre ++ x' :: post) = Dof (pre ++ x :: post) := by
  simp [Dof, ent, hn, hb]

/-- One file has turned, and what is counted. -/
theorem DrvAt.turn {w w' : World} {p bm : Nat} {pre post : List Fl} {x x' : Fl} {m ex ex' : Nat} {own own' : Nat → Prop} (h : DrvAt w p bm (pre ++ x :: post) m ex own)
    (hn : x'.n = x.n) (hb : x'.b = x.b) (ho : ∀ i, own i → own' i) (hu : ∀ i, own' i → i < w'.heap.size)
    (hd : Bx 51 w' p #[.map (some bm), .int .i64 (m : Int), .int .i64 ((used (pre ++ x' :: post) + ex' : Nat) : Int)]) (hx : FlAt w' own' x')
    (hk : ∀ i, own i → i ≠ p → i ≠ x.b → x.v.ownBlock ≠ some i → w'.heap[i]? = w.heap[i]?)
    (hr : ∀ g, x'.v.ownBlock = some g → x.v.ownBlock = some g ∨ w.heap.size ≤ g) (us : used (pre ++ x' :: post) + ex' ≤ m) : DrvAt w' p bm (pre ++ x' :: post) m ex' own' := by
  have hxm := h.fl x (by simp)
  have hpm := h.pm
  have hxb : x.b ≠ bm := map_ne h.mp hxm.bx
  have am := apart_mid h.ap
  refine ⟨hu, ho _ h.op, ho _ h.om, hd, ?_, ?_, ?_, h.so.turn hn, us, h.mx⟩
  · have e1 : (pre ++ x' :: post).length = (pre ++ x :: post).length := by simp
    rw [e1, Dof_turn hn hb]
    refine ownsMap_of_block h.mp (hk bm h.om (fun e => hpm e.symm) (fun e => hxb e.symm) (fun e => ?_))
    obtain ⟨cur, hc⟩ := hxm.row.tag e
    exact map_ne h.mp hc rfl
  · intro y hy
    by_cases hyx : y ∈ pre ++ post
    · have hyf := h.fl y (by rcases List.mem_append.1 hyx with k | k <;> simp [k])
      have ay := am y hyx
      refine hyf.keep ho (hk y.b hyf.ob (hyf.bp h.hd) ay.1 (fun e => hxm.rb hyf e rfl)) (fun g hg => hk g (hyf.ov g hg) (hyf.rp h.hd hg) (hyf.rb hxm hg) (fun e => ay.2 g hg e))
    · have : y = x' := by
        rcases List.mem_append.1 hy with k | k
        · exact absurd (List.mem_append.2 (.inl k)) hyx
        · rcases List.mem_cons.1 k with k | k
          · exact k
          · exact absurd (List.mem_append.2 (.inr k)) hyx
      rw [this]; exact hx
  · refine pairwise_mid apart_symm (apart_sub h.ap) fun y hy => ?_
    have ay := am y hy
    have hyf := h.fl y (by rcases List.mem_append.1 hy with k | k <;> simp [k])
    refine ⟨by rw [hb]; exact ay.1, fun g hg e => ?_⟩
    rcases hr g e with k | k
    · exact ay.2 g hg k
    · have := hyf.rlt hg
      omega

/-- One more file. -/
theorem DrvAt.add {w w' : World} {p bm : Nat} {L : List Fl} {x : Fl} {m ex ex' : Nat} {own own' : Nat → Prop} (h : DrvAt w p bm L m ex own) (hno : ∀ y ∈ L, y.n ≠ x.n)
    (ho : ∀ i, own i → own' i) (hu : ∀ i, own' i → i < w'.heap.size)
    (hm : w'.ownsMap Try.prog 9 ptrElem bm (L.length + 1) (Dof (ins x L))) (hx : FlAt w' own' x) (hk : ∀ i, own i → i ≠ bm → w'.heap[i]? = w.heap[i]?) (ha : ∀ y ∈ L, Apart y x) (he : x.a.length + ex' = ex) : DrvAt w' p bm (ins x L) m ex' own' := by
  have e1 : used (ins x L) + ex' = used L + ex := by rw [used_ins]; omega
  refine ⟨hu, ho _ h.op, ho _ h.om, ?_, by rw [ins_len]; exact hm, ?_, ?_, ins_up h.so hno, by rw [e1]; exact h.us, h.mx⟩
  · rw [e1]
    exact (hk p h.op h.pm).trans h.hd
  · intro y hy
    rcases ins_mem.1 hy with rfl | hy
    · exact hx
    · have hyf := h.fl y hy
      refine hyf.keep ho (hk y.b hyf.ob (map_ne h.mp hyf.bx)) (fun g hg => hk g (hyf.ov g hg) ?_)
      obtain ⟨cur, hc⟩ := hyf.row.tag hg
      exact map_ne h.mp hc
  · obtain ⟨pre, post, e, e2⟩ := ins_parts x L
    rw [e]
    rw [e2] at ha
    exact pairwise_mid apart_symm (by rw [← e2]; exact h.ap) ha

/-- One file fewer. -/
theorem DrvAt.cut {w w' : World} {p bm : Nat} {pre post : List Fl} {x : Fl} {m ex ex' : Nat} {own : Nat → Prop} (h : DrvAt w p bm (pre ++ x :: post) m ex own) (hs : w.heap.size ≤ w'.heap.size)
    (hd : Bx 51 w' p #[.map (some bm), .int .i64 (m : Int), .int .i64 ((used (pre ++ post) + ex' : Nat) : Int)])
    (hm : w'.ownsMap Try.prog 9 ptrElem bm (pre ++ post).length (Dof (pre ++ post))) (hk : ∀ i, own i → i ≠ p → i ≠ bm → w'.heap[i]? = w.heap[i]?) (us : used (pre ++ post) + ex' ≤ m) : DrvAt w' p bm (pre ++ post) m ex' own := by
  refine ⟨fun i hi => Nat.lt_of_lt_of_le (h.up i hi) hs, h.op, h.om, hd, hm, ?_, apart_sub h.ap, up_sub h.so, us, h.mx⟩
  intro y hy
  have hyf := h.fl y (by rcases List.mem_append.1 hy with k | k <;> simp [k])
  refine hyf.keep (fun _ k => k) (hk y.b hyf.ob (hyf.bp h.hd) (map_ne h.mp hyf.bx)) (fun g hg => hk g (hyf.ov g hg) (hyf.rp h.hd hg) ?_)
  obtain ⟨cur, hc⟩ := hyf.row.tag hg
  exact map_ne h.mp hc

theorem nameKeyed : Maps.Keyed Try.prog 9 := Maps.string_keyed Try.underlying9
theorem DrvAt.find {w : World} {bm n : Nat} {pre post : List Fl} {x : Fl} (h : w.ownsMap Try.prog 9 ptrElem bm n (Dof (pre ++ x :: post))) (so : Up (pre ++ x :: post)) {s : ByteArray} (hs : s.data.toList = x.n) (hl : s.size ≤ maxLen) :
    (Instr.lookup 49 (.map (some bm)) (.string s) true).run Try.prog w = .ok (.tuple #[.pointer (some ⟨x.b, 0, none⟩), .bool true]) w := by
  obtain ⟨v, ps, h1, h2⟩ := h.look_ok nameKeyed Try.underlying49 (z := .pointer none) (by simp [Try.zeroValue53]) (zd := .nil) (zp := []) rfl (Go.WideMaps.keyOf_string_mk Try.underlying9 hl)
  rw [hs, Dof_hasYes] at h1
  rw [hs, Dof_at so.ne.1] at h2
  rw [h1, ptrElem_at h2]
theorem DrvAt.find1 {w : World} {bm n : Nat} {pre post : List Fl} {x : Fl} (h : w.ownsMap Try.prog 9 ptrElem bm n (Dof (pre ++ x :: post))) (so : Up (pre ++ x :: post)) {s : ByteArray} (hs : s.data.toList = x.n) (hl : s.size ≤ maxLen) :
    (Instr.lookup 49 (.map (some bm)) (.string s) false).run Try.prog w = .ok (.pointer (some ⟨x.b, 0, none⟩)) w := by
  obtain ⟨v, ps, h1, h2⟩ := h.lookup nameKeyed Try.underlying49 (z := .pointer none) (by simp [Try.zeroValue53]) (zd := .nil) (zp := []) rfl (Go.WideMaps.keyOf_string_mk Try.underlying9 hl)
  rw [hs, Dof_at so.ne.1] at h2
  rw [h1, ptrElem_at h2]
theorem DrvAt.miss {w : World} {bm n : Nat} {L : List Fl} (h : w.ownsMap Try.prog 9 ptrElem bm n (Dof L)) {s : ByteArray} (hs : ∀ y ∈ L, y.n ≠ s.data.toList) (hl : s.size ≤ maxLen) :
    (Instr.lookup 49 (.map (some bm)) (.string s) true).run Try.prog w = .ok (.tuple #[.pointer none, .bool false]) w := by
  obtain ⟨v, ps, h1, h2⟩ := h.look_ok nameKeyed Try.underlying49 (z := .pointer none) (by simp [Try.zeroValue53]) (zd := .nil) (zp := []) rfl (Go.WideMaps.keyOf_string_mk Try.underlying9 hl)
  have hno := Dof_hasNo hs
  rw [hno] at h1
  rw [Maps.atKey_of_not_has hno] at h2
  rw [h1, ptrElem_nil h2]
theorem DrvAt.drops {w : World} {bm n : Nat} {pre post : List Fl} {x : Fl} (h : w.ownsMap Try.prog 9 ptrElem bm n (Dof (pre ++ x :: post))) (so : Up (pre ++ x :: post)) {s : ByteArray} (hs : s.data.toList = x.n) (hl : s.size ≤ maxLen) (ty : TypeId) :
    ∃ w', (Builtin.delete_ #[49, 9] ty #[.map (some bm), .string s]).run Try.prog w = .ok (.tuple #[]) w' ∧ w'.ownsMap Try.prog 9 ptrElem bm (pre ++ post).length (Dof (pre ++ post)) ∧ w.mapTurned w' bm := by
  obtain ⟨w', h1, h2, h3⟩ := h.drop nameKeyed Try.underlying49 (Go.WideMaps.keyOf_string_mk Try.underlying9 hl) ty
  have e : (pre ++ x :: post).filter (fun y => !(y.n == x.n)) = pre ++ post := by
    rw [List.filter_append, List.filter_cons]
    simp only [BEq.rfl, Bool.not_true, Bool.false_eq_true, if_false]
    rw [filter_none so.ne.1, filter_none so.ne.2]
  rw [hs, Dof_del, e] at h2
  exact ⟨w', h1, ownsMap_tight h2 (Dof_size _), h3⟩
theorem DrvAt.puts {w : World} {bm n : Nat} {L : List Fl} {x : Fl} (h : w.ownsMap Try.prog 9 ptrElem bm n (Dof L)) (hno : ∀ y ∈ L, y.n ≠ x.n) {s : ByteArray} (hs : s.data.toList = x.n) (hl : s.size ≤ maxLen) (hn : n < maxLen) :
    ∃ w', (Instr.mapUpdate 49 (.map (some bm)) (.string s) (.pointer (some ⟨x.b, 0, none⟩))).run Try.prog w = .ok () w' ∧ w'.ownsMap Try.prog 9 ptrElem bm (L.length + 1) (Dof (ins x L)) ∧ w.mapTurned w' bm := by
  obtain ⟨w', h1, h2, h3⟩ := h.store nameKeyed Try.underlying49 hn (Go.WideMaps.keyOf_string_mk Try.underlying9 hl) (val := .pointer (some ⟨x.b, 0, none⟩)) (d := .lit (.int .i64 (x.b : Int))) (ps := []) rfl
  rw [hs, Dof_put hno] at h2
  exact ⟨w', h1, ownsMap_tight h2 (by rw [Dof_size, ins_len]), h3⟩
end Go.Proofs.Ytmhmdnlkkpjdjaa
