/-
  Rows of entries in memory, of one's own; read; what stays of them.
-/
import Derived.Test.YtcnpckdchjjeoaaDoorSegUnpack
namespace Go.Proofs.YtcnpckdchjjeoaaDoor
open Go.RowKit Go.Lib
set_option maxRecDepth 100000

/-- An entry with the values of its two lists. -/
structure Ev where
  e : En
  a : Value
  b : Value
def cs8 : List Ev → List Value
  | [] => []
  | x :: t => .int .i64 x.e.k :: x.a :: x.b :: .int .i64 x.e.r.o :: .int .i64 x.e.r.s :: .int .i64 x.e.r.w :: .int .i64 x.e.r.c :: .string x.e.r.t :: cs8 t
theorem cs8_len : ∀ l : List Ev, (cs8 l).length = l.length * 8
  | [] => rfl
  | p :: t => by simp [cs8, cs8_len t]; omega
theorem cs8_app : ∀ (l l' : List Ev), cs8 (l ++ l') = cs8 l ++ cs8 l'
  | [], _ => rfl
  | p :: t, l' => by simp [cs8, cs8_app t l']
theorem cs8_at : ∀ (l : List Ev) (k : Nat) (hk : k < l.length), (cs8 l)[k * 8]? = some (.int .i64 l[k].e.k) ∧ (cs8 l)[k * 8 + 1]? = some l[k].a ∧ (cs8 l)[k * 8 + 2]? = some l[k].b ∧ (cs8 l)[k * 8 + 3]? = some (.int .i64 l[k].e.r.o) ∧ (cs8 l)[k * 8 + 4]? = some (.int .i64 l[k].e.r.s) ∧ (cs8 l)[k * 8 + 5]? = some (.int .i64 l[k].e.r.w) ∧ (cs8 l)[k * 8 + 6]? = some (.int .i64 l[k].e.r.c) ∧ (cs8 l)[k * 8 + 7]? = some (.string l[k].e.r.t)
  | [], _, hk => by simp at hk
  | p :: t, 0, _ => by simp [cs8]
  | p :: t, k + 1, hk => by
    have h := cs8_at t k (by simpa using hk)
    rw [show (k + 1) * 8 = k * 8 + 1 + 1 + 1 + 1 + 1 + 1 + 1 + 1 from by omega]
    simp only [cs8, List.getElem?_cons_succ, List.getElem_cons_succ]
    exact h
/-- The row v, of one's own from block B on, holds the entries l. -/
def ERow (w : World) (B : Nat) (v : Value) (l : List Ev) : Prop := w.ownsRow B 30 8 v l.length (cs8 l)
def flat : List Ev → List Value
  | [] => []
  | x :: t => x.a :: x.b :: flat t
theorem flat_app : ∀ (l m : List Ev), flat (l ++ m) = flat l ++ flat m
  | [], _ => rfl
  | x :: t, m => by simp [flat, flat_app t m]
theorem mem_flat {v : Value} : ∀ {l : List Ev}, v ∈ flat l → ∃ x ∈ l, v = x.a ∨ v = x.b
  | [], h => by cases h
  | x :: t, h => by
    simp only [flat, List.mem_cons] at h
    rcases h with rfl | rfl | h
    · exact ⟨x, List.mem_cons_self .., .inl rfl⟩
    · exact ⟨x, List.mem_cons_self .., .inr rfl⟩
    · obtain ⟨y, hy, e⟩ := mem_flat h
      exact ⟨y, List.mem_cons_of_mem _ hy, e⟩
/-- .. with their lists, each one's own too. -/
structure EOwn (w : World) (B : Nat) (v : Value) (l : List Ev) : Prop where
  row : ERow w B v l
  rows : ∀ x ∈ l, Row w B x.a x.e.v ∧ Row w B x.b x.e.w
  pw : (flat l).Pairwise apart
theorem EOwn.nil (w : World) (B : Nat) : EOwn w B (.slice none 0 0) [] := ⟨World.ownsRow_nil _ _ _ _, (fun _ h => by cases h), List.Pairwise.nil⟩
theorem EOwn.below {w w' : World} {B : Nat} {v : Value} {l : List Ev} (h : EOwn w B v l) (hb : Below w.heap.size w w') : EOwn w' B v l :=
  ⟨own_below h.row hb, fun x hx => ⟨(h.rows x hx).1.below hb, (h.rows x hx).2.below hb⟩, h.pw⟩
theorem EOwn.mono {w : World} {B B' : Nat} {v : Value} {l : List Ev} (h : EOwn w B v l) (hb : B' ≤ B) : EOwn w B' v l :=
  ⟨own_mono h.row hb, fun x hx => ⟨(h.rows x hx).1.mono hb, (h.rows x hx).2.mono hb⟩, h.pw⟩
theorem tags_apart {w : World} {B B' : Nat} {v a : Value} {n : Nat} {xs : List Value} {l : List Int} (hv : w.ownsRow B 30 8 v n xs) (ha : Row w B' a l) : apart v a := fun g hg hg' => by
  rcases hv.2 with ⟨rfl, _⟩ | ⟨g1, cap, cur, rfl, _, h1, _⟩
  · cases hg
  · rcases ha.2 with ⟨rfl, _⟩ | ⟨g2, cap', cur', rfl, _, h2, _⟩
    · cases hg'
    · simp only [Value.ownBlock, Option.some.injEq] at hg hg'
      subst hg
      subst hg'
      rw [h1] at h2
      simp only [Option.some.injEq, Obj.cells.injEq] at h2
      exact absurd h2.2.1 (by decide)
theorem entryInfo : (Tryd.prog.info? 30).map (fun i => (i.zero, i.size, i.bytes)) = some (some (.agg #[.int .i64 0, .slice none 0 0, .slice none 0 0, .int .i64 0, .int .i64 0, .int .i64 0, .int .i64 0, .string ⟨#[]⟩]), 8, 104) := by kernel_rfl
theorem cell_eight_new (w : World) (a b c d e f i j : Value) (t : TypeId) : ∀ k u, [a, b, c, d, e, f, i, j][k]? = some u → (w.alloc (.cells #[a, b, c, d, e, f, i, j] t)).cell? ((⟨w.heap.size, 0, none⟩ : Addr).add k) = some u := by
  intro k u hk
  match k, hk with
  | 0, hj => simp at hj; subst hj; simp [Addr.add]
  | 1, hj => simp at hj; subst hj; simp [Addr.add]
  | 2, hj => simp at hj; subst hj; simp [Addr.add]
  | 3, hj => simp at hj; subst hj; simp [Addr.add]
  | 4, hj => simp at hj; subst hj; simp [Addr.add]
  | 5, hj => simp at hj; subst hj; simp [Addr.add]
  | 6, hj => simp at hj; subst hj; simp [Addr.add]
  | 7, hj => simp at hj; subst hj; simp [Addr.add]
  | k + 8, hj => simp at hj
/-- One entry more. -/
theorem EOwn.push {w w1 w' : World} {B : Nat} {v v' : Value} {l : List Ev} (h : EOwn w B v l) (x : Ev) (hb : Below w.heap.size w w1) (hB : B ≤ w.heap.size) (ha : Row w1 w.heap.size x.a x.e.v) (hc : Row w1 w.heap.size x.b x.e.w) (hp : apart x.a x.b)
    (hr : w'.ownsRow B 30 8 v' (l.length + 1) (cs8 l ++ cs8 [x])) (hg : w1.grownBy w' v.ownBlock) : EOwn w' B v' (l ++ [x]) := by
  have h1 := h.below hb
  have far : ∀ {a : Value} {m : List Int} {B' : Nat}, Row w1 B' a m → Row w' B' a m := fun {a m B'} hr => hr.far hg (by
    rintro g hg' g' hg'' rfl
    exact tags_apart h1.row hr g hg' hg'')
  refine ⟨?_, ?_, ?_⟩
  · unfold ERow
    rw [cs8_app, List.length_append]
    exact hr
  · intro y hy
    rcases List.mem_append.1 hy with hy | hy
    · exact ⟨far (h1.rows y hy).1, far (h1.rows y hy).2⟩
    · rw [List.mem_singleton] at hy
      subst hy
      exact ⟨(far ha).mono hB, (far hc).mono hB⟩
  · rw [flat_app, List.pairwise_append]
    refine ⟨h.pw, ?_, ?_⟩
    · simp only [flat, List.pairwise_cons, List.not_mem_nil, false_imp_iff, implies_true, List.Pairwise.nil, and_true, List.mem_singleton, forall_eq]
      exact hp
    · intro u hu y hy g hg1 hg2
      obtain ⟨z, hz, hu⟩ := mem_flat hu
      have hlt : g < w.heap.size := by
        rcases hu with rfl | rfl
        · exact (World.ownsRow.lt (h.rows z hz).1 g hg1).2
        · exact (World.ownsRow.lt (h.rows z hz).2 g hg1).2
      simp only [flat, List.mem_cons, List.not_mem_nil, or_false] at hy
      rcases hy with rfl | rfl
      · have := (World.ownsRow.lt ha g hg2).1
        omega
      · have := (World.ownsRow.lt hc g hg2).1
        omega

/-- The entry x stands at place p of block b, and can be read. -/
def EvAt (w : World) (b p : Nat) (x : Ev) : Prop :=
  (w.cell? ⟨b, p, none⟩ = some (.int .i64 x.e.k) ∧ w.cell? ⟨b, p + 1, none⟩ = some x.a ∧ w.cell? ⟨b, p + 2, none⟩ = some x.b ∧ w.cell? ⟨b, p + 3, none⟩ = some (.int .i64 x.e.r.o) ∧ w.cell? ⟨b, p + 4, none⟩ = some (.int .i64 x.e.r.s) ∧ w.cell? ⟨b, p + 5, none⟩ = some (.int .i64 x.e.r.w) ∧ w.cell? ⟨b, p + 6, none⟩ = some (.int .i64 x.e.r.c) ∧ w.cell? ⟨b, p + 7, none⟩ = some (.string x.e.r.t)) ∧ Nl w x.a x.e.v ∧ Nl w x.b x.e.w
theorem EvAt.below {w w' : World} {b p : Nat} {x : Ev} (h : EvAt w b p x) (hb : Below w.heap.size w w') : EvAt w' b p x := by
  have kk : ∀ {a : Addr} {v : Value}, w.cell? a = some v → w'.cell? a = some v := fun {a v} hc => (hb.cell (World.block_lt_of_cell? w a hc)).trans hc
  obtain ⟨⟨c0, c1, c2, c3, c4, c5, c6, c7⟩, ha, hb'⟩ := h
  exact ⟨⟨kk c0, kk c1, kk c2, kk c3, kk c4, kk c5, kk c6, kk c7⟩, ha.below hb, hb'.below hb⟩
/-- The slice v holds the entries l. -/
def Er (w : World) (v : Value) (l : List Ev) : Prop :=
  ∃ ad cap, v = .slice ad l.length cap ∧ l.length ≤ cap ∧ (0 < l.length → ∃ b o, ad = some ⟨b, o, none⟩ ∧ ∀ k (hk : k < l.length), EvAt w b (o + k * 8) l[k])
theorem Er.below {w w' : World} {v : Value} {l : List Ev} (h : Er w v l) (hb : Below w.heap.size w w') : Er w' v l := by
  obtain ⟨ad, cap, h1, h2, h3⟩ := h
  exact ⟨ad, cap, h1, h2, fun h0 => by obtain ⟨b, o, e, hs⟩ := h3 h0; exact ⟨b, o, e, fun k hk => (hs k hk).below hb⟩⟩
theorem EOwn.er {w : World} {B : Nat} {v : Value} {l : List Ev} (h : EOwn w B v l) : Er w v l := by
  have hr := h.row
  rcases h.row.2 with ⟨rfl, h0⟩ | ⟨g, cap, cur, rfl, _, _, hn, _⟩
  · exact ⟨none, 0, by rw [h0], by omega, fun h => by omega⟩
  · refine ⟨_, cap, rfl, hn, fun _ => ⟨g, 0, rfl, fun k hk => ?_⟩⟩
    obtain ⟨c0, c1, c2, c3, c4, c5, c6, c7⟩ := cs8_at l k hk
    have f : ∀ j, j < l.length * 8 → w.cell? ⟨g, j, none⟩ = (cs8 l)[j]? := fun j hj => World.ownsRow.cellAt hr j hj
    rw [Nat.zero_add]
    have hm := h.rows l[k] (List.getElem_mem hk)
    exact ⟨⟨(f _ (by omega)).trans c0, (f _ (by omega)).trans c1, (f _ (by omega)).trans c2, (f _ (by omega)).trans c3, (f _ (by omega)).trans c4, (f _ (by omega)).trans c5, (f _ (by omega)).trans c6, (f _ (by omega)).trans c7⟩, hm.1.nl, hm.2.nl⟩
end Go.Proofs.YtcnpckdchjjeoaaDoor
