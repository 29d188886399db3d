/-
  Rows of records of one's own; append; pieces.
-/
import Derived.Test.YtdjlgiinekighaaGreatDoorPkIr
import Derived.Test.YtdjlgiinekighaaGreatDoorPkIp
import Derived.Deep.OwnRows
import Derived.Maps.AppendAt
import Derived.Deep.SlicePairs
import Derived.Test.YtdjlgiinekighaaGreatDoorPkIc
namespace Go.Proofs.YtdjlgiinekighaaGreatDoor.R
open Go.RowKit Go.Lib
open Go.Proofs.YtdjlgiinekighaaGreatDoor.P (own_below own_mono)
set_option maxRecDepth 100000

def cs5 : List Rc → List Value
  | [] => []
  | r :: t => .int .i64 r.o :: .int .i64 r.s :: .int .i64 r.w :: .int .i64 r.c :: .string r.t :: cs5 t
theorem cs5_len : ∀ l : List Rc, (cs5 l).length = l.length * 5
  | [] => rfl
  | r :: t => by simp [cs5, cs5_len t]; omega
theorem cs5_one : ∀ (l : List Rc), ∀ u ∈ cs5 l, u.oneCell' = true
  | [], u, h => by simp [cs5] at h
  | r :: t, u, h => by
    simp only [cs5, List.mem_cons] at h
    rcases h with rfl | rfl | rfl | rfl | rfl | h
    · rfl
    · rfl
    · rfl
    · rfl
    · rfl
    · exact cs5_one t u h
theorem cs5_at : ∀ (l : List Rc) (k : Nat) (hk : k < l.length), (cs5 l)[k * 5]? = some (.int .i64 l[k].o) ∧ (cs5 l)[k * 5 + 1]? = some (.int .i64 l[k].s) ∧ (cs5 l)[k * 5 + 2]? = some (.int .i64 l[k].w) ∧ (cs5 l)[k * 5 + 3]? = some (.int .i64 l[k].c) ∧ (cs5 l)[k * 5 + 4]? = some (.string l[k].t)
  | [], k, hk => by simp at hk
  | r :: t, 0, _ => by simp [cs5]
  | r :: t, k + 1, hk => by
    have h := cs5_at t k (by simpa using hk)
    rw [show (k + 1) * 5 = k * 5 + 1 + 1 + 1 + 1 + 1 from by omega]
    simp only [cs5, List.getElem_cons_succ]
    refine ⟨?_, ?_, ?_, ?_, ?_⟩
    · simp only [List.getElem?_cons_succ]; exact h.1
    · rw [show k * 5 + 1 + 1 + 1 + 1 + 1 + 1 = (k * 5 + 1) + 1 + 1 + 1 + 1 + 1 from by omega]; simp only [List.getElem?_cons_succ]; exact h.2.1
    · rw [show k * 5 + 1 + 1 + 1 + 1 + 1 + 2 = (k * 5 + 2) + 1 + 1 + 1 + 1 + 1 from by omega]; simp only [List.getElem?_cons_succ]; exact h.2.2.1
    · rw [show k * 5 + 1 + 1 + 1 + 1 + 1 + 3 = (k * 5 + 3) + 1 + 1 + 1 + 1 + 1 from by omega]; simp only [List.getElem?_cons_succ]; exact h.2.2.2.1
    · rw [show k * 5 + 1 + 1 + 1 + 1 + 1 + 4 = (k * 5 + 4) + 1 + 1 + 1 + 1 + 1 from by omega]; simp only [List.getElem?_cons_succ]; exact h.2.2.2.2
theorem Recs.news {w : World} {b o : Nat} {l : List Rc} (h : Recs w b o l) : ∀ j u, (cs5 l)[j]? = some u → w.cell? ((⟨b, o, none⟩ : Addr).add j) = some u := by
  intro j u hu
  have hj : j < l.length * 5 := by have := (List.getElem?_eq_some_iff.1 hu).1; rwa [cs5_len] at this
  have hk : j / 5 < l.length := by omega
  rw [Go.WideShapes.add_plain]
  have h1 := h (j / 5) hk
  have h2 := cs5_at l (j / 5) hk
  have hd : j = j / 5 * 5 + j % 5 := by omega
  have hm : j % 5 < 5 := Nat.mod_lt _ (by decide)
  generalize j / 5 = q at *
  generalize j % 5 = r at *
  subst hd
  match r, hm with
  | 0, _ => rw [show o + (q * 5 + 0) = o + q * 5 from by omega, h1.1, ← hu]; exact h2.1.symm
  | 1, _ => rw [show o + (q * 5 + 1) = o + q * 5 + 1 from by omega, h1.2.1, ← hu]; exact h2.2.1.symm
  | 2, _ => rw [show o + (q * 5 + 2) = o + q * 5 + 2 from by omega, h1.2.2.1, ← hu]; exact h2.2.2.1.symm
  | 3, _ => rw [show o + (q * 5 + 3) = o + q * 5 + 3 from by omega, h1.2.2.2.1, ← hu]; exact h2.2.2.2.1.symm
  | 4, _ => rw [show o + (q * 5 + 4) = o + q * 5 + 4 from by omega, h1.2.2.2.2, ← hu]; exact h2.2.2.2.2.symm
theorem recInfo : (Tryz.prog.info? 35).map (fun i => (i.zero, i.size, i.bytes)) = some (some (.agg #[.int .i64 0, .int .i64 0, .int .i64 0, .int .i64 0, .string ⟨#[]⟩]), 5, 48) := by kernel_rfl

theorem cs5_app : ∀ a b : List Rc, cs5 (a ++ b) = cs5 a ++ cs5 b
  | [], _ => rfl
  | r :: t, b => by simp [cs5, cs5_app t b]
/-- The row v, of one's own from block B on, holds the records l. -/
def ORow (w : World) (B : Nat) (v : Value) (l : List Rc) : Prop := w.ownsRow B 35 5 v l.length (cs5 l)
theorem ORow.nil (w : World) (B : Nat) : ORow w B (.slice none 0 0) [] := World.ownsRow_nil _ _ _ _
theorem ORow.below {w w' : World} {B : Nat} {v : Value} {l : List Rc} (h : ORow w B v l) (hb : Below w.heap.size w w') : ORow w' B v l := own_below h hb
theorem ORow.mono {w : World} {B B' : Nat} {v : Value} {l : List Rc} (h : ORow w B v l) (hb : B' ≤ B) : ORow w B' v l := own_mono h hb
theorem ORow.rl {w : World} {B : Nat} {v : Value} {l : List Rc} (h : ORow w B v l) : Rl w v l := by
  rcases h.2 with ⟨rfl, h0⟩ | ⟨g, cap, cur, rfl, _, _, hn, _⟩
  · exact .inl ⟨rfl, List.eq_nil_of_length_eq_zero h0⟩
  · refine .inr ⟨⟨g, 0, none⟩, cap, rfl, hn, fun _ => ⟨g, 0, rfl, fun k hk => ?_⟩⟩
    have h1 := cs5_at l k hk
    have f : ∀ j, j < l.length * 5 → w.cell? ⟨g, j, none⟩ = (cs5 l)[j]? := fun j hj => World.ownsRow.cellAt h j hj
    rw [Nat.zero_add]
    exact ⟨(f _ (by omega)).trans h1.1, (f _ (by omega)).trans h1.2.1, (f _ (by omega)).trans h1.2.2.1, (f _ (by omega)).trans h1.2.2.2.1, (f _ (by omega)).trans h1.2.2.2.2⟩
theorem rapp_run (m l : List Rc) (v u : Value) (B : Nat) (w : World) (ty : TypeId) (hv : ORow w B v m) (h : Rl w u l) (hn : m.length + l.length ≤ 1000000) (hB : B ≤ w.heap.size) :
    ∃ v' w1, (Builtin.append_ #[27, 27] ty #[v, u]).run Tryz.prog w = .ok v' w1 ∧ ORow w1 B v' (m ++ l) ∧ w.grownBy w1 v.ownBlock := by
  obtain ⟨i0, hi, hz0, hz1, hz2⟩ := info_parts recInfo
  rcases h with ⟨rfl, rfl⟩ | ⟨ad, cap, rfl, _, h⟩
  · refine ⟨v, w, ?_, by rw [List.append_nil]; exact hv, grown_refl _ _⟩
    rcases hv.2 with ⟨rfl, h0⟩ | ⟨g, cap, cur, rfl, _, _, hn, _⟩
    · simp [Builtin.append_, go_sem, run_underlying Tryz.underlying27]
    · simp [Builtin.append_, go_sem, run_underlying Tryz.underlying27]
      intro hh
      omega
  · obtain ⟨v', w', h1, h2, h3, _, _⟩ := run_append_own_at (P := Tryz.prog) w B 27 ty 35 i0 _ 5 48 Tryz.underlying27 hi hz0 hz1 hz2 rfl (by decide) v m.length (cs5 m) hv ad l.length cap (cs5 l) (cs5_len l) (fun j u hu => by
      have hj : j < l.length * 5 := by have := (List.getElem?_eq_some_iff.1 hu).1; rwa [cs5_len] at this
      obtain ⟨b, o, rfl, hR⟩ := h (by omega)
      exact hR.news j u hu) (cs5_one l) (by unfold maxLen; omega) (by omega) hB
    refine ⟨v', w', h1, ?_, h3⟩
    unfold ORow
    rw [List.length_append, cs5_app]
    exact h2
theorem step_rapp {w : World} {ops : Array Oper} {o : Oper} {a : Act} {K : Act → World → Prop} {Q : Exit → Act → World → Prop} {E : Prop} (hgd : o.guard = none) (s x : Operand)
    (ho : o.op = .call { callee := .builtin .append, args := #[s, x], argTypes := #[27, 27] })
    (B : Nat) (v u : Value) (m l : List Rc) (hs : a.eval s = v) (hx : a.eval x = u) (hv : ORow w B v m) (hu : Rl w u l) (hn : m.length + l.length ≤ 1000000) (hB : B ≤ w.heap.size)
    (h : ∀ v' w', ORow w' B v' (m ++ l) → w.grownBy w' v.ownBlock → K (a.put o.dst v') w') :
    if Region.wanted o (yielded ops a.tmps) = true then Oper.wp Tryz.prog o a w K Q else E := by
  have hw : Region.wanted o (yielded ops a.tmps) = true := by simp [Region.wanted, hgd]
  rw [if_pos hw]
  obtain ⟨v', w', hr, h2, h3⟩ := rapp_run m l v u B w o.type hv hu hn hB
  unfold Oper.wp execOp
  simp only [ho, resolve, invoke, builtin, Sem.run_bind, Sem.run_pure, Result.andThen_ok, List.map_toArray, List.map_cons, List.map_nil, hs, hx, hr]
  exact h v' w' h2 h3
/-- One record that has just been laid. -/
theorem rl_one (w : World) (B : Nat) (r : Rc) (h : Bx 35 w B #[.int .i64 r.o, .int .i64 r.s, .int .i64 r.w, .int .i64 r.c, .string r.t]) : Rl w (.slice (some ⟨B, 0, none⟩) 1 1) [r] := by
  obtain ⟨c0, c1, c2, c3, c4⟩ := h.five
  refine .inr ⟨_, 1, rfl, Nat.le_refl _, fun _ => ⟨B, 0, rfl, fun k hk => ?_⟩⟩
  have hk2 : k < 1 := hk
  match k, hk2 with
  | 0, _ => exact ⟨c0, c1, c2, c3, c4⟩
theorem Recs.take {w : World} {b o : Nat} {l : List Rc} (h : Recs w b o l) (k : Nat) : Recs w b o (l.take k) := fun j hj => by
  rw [List.length_take] at hj
  rw [List.getElem_take]
  exact h j (by omega)
theorem Recs.drop {w : World} {b o : Nat} {l : List Rc} (h : Recs w b o l) (k : Nat) : Recs w b (o + k * 5) (l.drop k) := fun j hj => by
  rw [List.length_drop] at hj
  rw [List.getElem_drop]
  have h1 := h (k + j) (by omega)
  rw [show o + k * 5 + j * 5 = o + (k + j) * 5 from by omega]
  exact h1

/-- A piece of a list of records holds the piece of them. -/
theorem rl_sliced {w : World} {ad : Option Addr} {cap : Nat} {l : List Rc} (h : Rl w (.slice ad l.length cap) l) (lo hi : Nat) (hlh : lo ≤ hi) (hhi : hi ≤ l.length) : Rl w (sliced ad lo hi cap 5) ((l.drop lo).take (hi - lo)) := by
  have hlen : (List.take (hi - lo) (List.drop lo l)).length = hi - lo := by simp; omega
  rcases h with ⟨e, rfl⟩ | ⟨a, c, e, hcap, h2⟩
  · simp only [Value.slice.injEq] at e
    obtain ⟨rfl, _, rfl⟩ := e
    simp at hhi
    subst hhi
    obtain rfl : lo = 0 := by omega
    exact .inl ⟨rfl, rfl⟩
  · simp only [Value.slice.injEq] at e
    obtain ⟨rfl, _, rfl⟩ := e
    refine .inr ⟨if cap = lo then a else a.add (lo * 5), cap - lo, ?_, by omega, fun h0 => ?_⟩
    · rw [hlen]
      unfold sliced
      split <;> rfl
    · rw [hlen] at h0
      obtain ⟨b, o, rfl, hs⟩ := h2 (by omega)
      by_cases hc : cap = lo
      · omega
      · rw [if_neg hc]
        exact ⟨b, o + lo * 5, Go.WideShapes.add_plain .., (hs.drop lo).take (hi - lo)⟩
theorem rslice_run (ad : Option Addr) (n cap : Nat) (lo hi : Option Value) (l h : Nat) (W : World) (hb : (Instr.sliceBounds true n cap lo hi none).run Tryz.prog W = .ok (l, h, cap) W) : (Instr.sliceAt 27 (.slice ad n cap) lo hi none).run Tryz.prog W = .ok (sliced ad l h cap 5) W := by
  have hs : (sizeOf 35).run Tryz.prog W = .ok 5 W := by
    simp [sizeOf]
    rfl
  rw [run_sliceAt_slice W _ _ _ _ _ Tryz.underlying27, run_slice_any W _ _ _ _ Tryz.underlying27, hb]
  simp only [Result.andThen]
  rw [show Tryz.prog.elem 27 = 35 by kernel_rfl, hs]
end Go.Proofs.YtdjlgiinekighaaGreatDoor.R
/-
  Acts: handed in, opened; are there more than are gone through.
-/
namespace Go.Proofs.YtdjlgiinekighaaGreatDoor
open Go.RowKit Go.Lib Go.ChangeShapes Go.WideShapes Go.ChangeAt Go.Deep Go.Joins
set_option maxRecDepth 100000

/-- An act: whether it drops, and its record. -/
structure Ac where
  d : Bool
  r : R.Rc
/-- An act as it lies. -/
def AAt (w : World) (b o : Nat) (x : Ac) : Prop := w.cell? ⟨b, o, none⟩ = some (.bool x.d) ∧ w.cell? ⟨b, o + 1, none⟩ = some (.int .i64 x.r.o) ∧ w.cell? ⟨b, o + 2, none⟩ = some (.int .i64 x.r.s) ∧ w.cell? ⟨b, o + 3, none⟩ = some (.int .i64 x.r.w) ∧ w.cell? ⟨b, o + 4, none⟩ = some (.int .i64 x.r.c) ∧ w.cell? ⟨b, o + 5, none⟩ = some (.string x.r.t)
theorem AAt.below {w w' : World} {b o : Nat} {x : Ac} (h : AAt w b o x) (hb : Below w.heap.size w w') : AAt w' b o x := by
  obtain ⟨h0, h1, h2, h3, h4, h5⟩ := h
  have f : ∀ {a : Addr} {v : Value}, w.cell? a = some v → w'.cell? a = some v := fun {a v} hc => (hb.cell (World.block_lt_of_cell? w a hc)).trans hc
  exact ⟨f h0, f h1, f h2, f h3, f h4, f h5⟩
/-- A list of acts as it can be read. -/
def Al (w : World) (v : Value) (l : List Ac) : Prop :=
  ∃ ad cap, v = .slice ad l.length cap ∧ l.length ≤ cap ∧ (0 < l.length → ∃ b o, ad = some ⟨b, o, none⟩ ∧ ∀ k (hk : k < l.length), AAt w b (o + k * 6) l[k])
theorem Al.below {w w' : World} {v : Value} {l : List Ac} (h : Al w v l) (hb : Below w.heap.size w w') : Al w' v l := by
  obtain ⟨ad, cap, h1, h2, h3⟩ := h
  exact ⟨ad, cap, h1, h2, fun h0 => by obtain ⟨b, o, e, hs⟩ := h3 h0; exact ⟨b, o, e, fun k hk => (hs k hk).below hb⟩⟩
deriving instance Inhabited for Ac
/-- A record, off its cells: its Key's numbers are such that an int holds. -/
theorem rec_in {H : Type} {enc : TypeId × Value → H} {W : World} {base : Nat} {spare : Nat → Bool} {held : Bool} {fuel : Nat} {cs : List Value} {x : DataW H × List MemPlace}
    (h : DataW.trod enc Tryz.prog W base spare held fuel 35 cs = some x) : ∃ r : R.Rc, cs = [.int .i64 r.o, .int .i64 r.s, .int .i64 r.w, .int .i64 r.c, .string r.t] ∧ r.t.size ≤ maxLen ∧ P.okKy (r.o, r.s) := by
  obtain ⟨y0, y1, y2, n, _, hl, h0, h1, h2⟩ := trod_struct3 Tryz.underlying35 h
  have c5 : Tryz.prog.cellsOf 35 = 5 := by kernel_rfl
  have ck : Tryz.prog.cellsOf 31 = 2 := by kernel_rfl
  have cs2 : Tryz.prog.cellsOf 33 = 2 := by kernel_rfl
  have c9 : Tryz.prog.cellsOf 9 = 1 := by kernel_rfl
  have c3 : Tryz.prog.cellsOf 3 = 1 := by kernel_rfl
  rw [c5] at hl
  match cs, hl with
  | [u0, u1, u2, u3, u4], _ =>
    obtain ⟨c, d, e1⟩ := R.pair_cells Tryz.underlying33 rfl rfl rfl rfl cs2 h1
    obtain ⟨s, e2, _, hs⟩ := DataW.trod_string Tryz.underlying9 h2
    obtain ⟨z0, z1, m, _, hl2, k0, k1⟩ := trod_struct2 Tryz.underlying31 h0
    simp [cs2, c9] at e1 e2
    simp only [ck, c3, List.drop_zero, List.drop_succ_cons, List.take_succ_cons, List.take_zero] at k0 k1
    obtain ⟨a, f0, _, w0⟩ := DataW.trod_int (t := 3) Tryz.underlying3 k0
    obtain ⟨b, f1, _, w1⟩ := DataW.trod_int (t := 3) Tryz.underlying3 k1
    simp at f0 f1
    refine ⟨⟨a, b, c, d, s⟩, ?_, hs, R.wf_i64 w0, R.wf_i64 w1⟩
    rw [f0, f1, e1.1, e1.2, e2]
/-- An act, off its cells. -/
theorem act_cells {H : Type} {enc : TypeId × Value → H} {W : World} {base : Nat} {spare : Nat → Bool} {held : Bool} {fuel : Nat} {cs : List Value} {x : DataW H × List MemPlace}
    (h : DataW.trod enc Tryz.prog W base spare held fuel 37 cs = some x) : ∃ a : Ac, cs = [.bool a.d, .int .i64 a.r.o, .int .i64 a.r.s, .int .i64 a.r.w, .int .i64 a.r.c, .string a.r.t] ∧ a.r.t.size ≤ maxLen ∧ P.okKy (a.r.o, a.r.s) := by
  obtain ⟨y0, y1, n, _, hl, h0, h1⟩ := trod_struct2 Tryz.underlying37 h
  have c6 : Tryz.prog.cellsOf 37 = 6 := by kernel_rfl
  have c5 : Tryz.prog.cellsOf 35 = 5 := by kernel_rfl
  have c4 : Tryz.prog.cellsOf 4 = 1 := by kernel_rfl
  rw [c6] at hl
  match cs, hl with
  | [u0, u1, u2, u3, u4, u5], _ =>
    simp only [c4, c5, List.drop_zero, List.take_succ_cons, List.take_zero] at h0 h1
    obtain ⟨a, e0, _⟩ := DataW.trod_bool Tryz.underlying4 h0
    obtain ⟨r, e1, hs⟩ := rec_in h1
    simp at e0 e1
    exact ⟨⟨a, r⟩, by simp [e0, e1], hs⟩
theorem open_acts {H : Type} {enc : TypeId × Value → H} {W : World} {r : Reach} {b0 base : Nat} {spare : Nat → Bool} {held : Bool} {v : Value} {d : DataW H} {p : List MemPlace}
    (hv : Value.okWide Tryz.prog W r b0 22 v) (h : DataW.Trod enc Tryz.prog W base spare held 22 v d p) : ∃ l : List Ac, Al W v l ∧ (∀ x ∈ l, x.r.t.size ≤ 9223372036854775807 ∧ P.okKy (x.r.o, x.r.s)) ∧ l.length ≤ maxLen := by
  obtain ⟨ad, len, cap, rfl⟩ := okWide_slice Tryz.underlying22 hv
  obtain ⟨fuel, hf⟩ := h
  simp only [Value.cells] at hf
  have c6 : Tryz.prog.cellsOf 37 = 6 := by kernel_rfl
  rcases open_slice Tryz.underlying22 hf with ⟨e, _⟩ | ⟨a, len', cap', m, n, D, Pl, e, hb, hl, hm, hmm, _, hi⟩
  · simp only [List.cons.injEq, and_true] at e
    rw [e]
    exact ⟨[], ⟨none, 0, rfl, Nat.le_refl _, fun h => by simp at h⟩, fun x hx => by simp at hx, Nat.zero_le _⟩
  · simp only [List.cons.injEq, and_true, Value.slice.injEq] at e
    obtain ⟨rfl, rfl, rfl⟩ := e
    have hlm : len ≤ m := by rw [hmm]; split <;> omega
    have each : ∀ i, i < len → ∃ q : Ac, (∀ j, j < 6 → W.cell? ((a.add (i * 6)).add j) = [.bool q.d, .int .i64 q.r.o, .int .i64 q.r.s, .int .i64 q.r.w, .int .i64 q.r.c, .string q.r.t][j]?) ∧ q.r.t.size ≤ maxLen ∧ P.okKy (q.r.o, q.r.s) := by
      intro i hi'
      obtain ⟨cs', h1, h2⟩ := hi i (by omega)
      rw [c6] at h1
      obtain ⟨_, _, h3⟩ := World.cells?_some h1
      obtain ⟨q, e, hq⟩ := act_cells h2
      exact ⟨q, fun j hj => by rw [h3 j hj, e], hq⟩
    obtain ⟨q, hq⟩ := choose_lt each
    refine ⟨(List.range len).map q, ⟨some a, cap, by simp, by simpa using hl, fun h0 => ?_⟩, fun x hx => ?_, by simp; omega⟩
    · have h0' : 0 < len := by simpa using h0
      have hsp : a.spot = none := by
        have h1 := (hq 0 h0').1 0 (by decide)
        obtain ⟨b, o, s⟩ := a
        cases s with
        | none => rfl
        | some s => simp [World.cell?, Addr.add] at h1; split at h1 <;> simp at h1
      refine ⟨a.block, a.off, by obtain ⟨b, o, s⟩ := a; simp only at hsp; subst hsp; rfl, fun k hk => ?_⟩
      have hk' : k < len := by simpa using hk
      have h1 := (hq k hk').1
      rw [R.add_off a _ hsp] at h1
      have h2 : ∀ j, j < 6 → W.cell? ⟨a.block, a.off + k * 6 + j, none⟩ = [.bool (q k).d, .int .i64 (q k).r.o, .int .i64 (q k).r.s, .int .i64 (q k).r.w, .int .i64 (q k).r.c, .string (q k).r.t][j]? := fun j hj => by
        rw [← h1 j hj, add_plain]
      simp only [List.getElem_map, List.getElem_range]
      exact ⟨h2 0 (by decide), h2 1 (by decide), h2 2 (by decide), h2 3 (by decide), h2 4 (by decide), h2 5 (by decide)⟩
    · obtain ⟨i, hi2, rfl⟩ := List.mem_map.1 hx
      have := (hq i (by simpa using hi2)).2
      unfold maxLen at this
      exact ⟨by omega, this.2⟩
end Go.Proofs.YtdjlgiinekighaaGreatDoor
/-
  What an act makes of records: the statements' own great and follow, by contract.
-/
namespace Go.Proofs.YtdjlgiinekighaaGreatDoor
open Go.RowKit Go.Lib Go.Sort Go.Shelf Go.Maps Go.Proofs.YtdjlgiinekighaaGreatDoor.P Go.Proofs
set_option maxRecDepth 100000
set_option linter.unusedSimpArgs false

def longA : List Ac → Bool
  | [] => false
  | r :: t => decide (300 < (r.r.t.size : Int)) || longA t
def greatA (l : List Ac) (m : Nat) : Bool := decide (m < l.length) || longA l
theorem longA_mem : ∀ {l : List Ac}, longA l = false → ∀ r ∈ l, r.r.t.size ≤ 300
  | [], _, _, h => by simp at h
  | x :: t, h, r, hr => by
    rw [longA] at h
    simp only [Bool.or_eq_false_iff, decide_eq_false_iff_not] at h
    rcases List.mem_cons.1 hr with rfl | hr
    · omega
    · exact longA_mem h.2 r hr
theorem greatA_no {l : List Ac} {m : Nat} (h : greatA l m = false) : l.length ≤ m ∧ ∀ r ∈ l, r.r.t.size ≤ 300 := by
  unfold greatA at h
  simp only [Bool.or_eq_false_iff, decide_eq_false_iff_not] at h
  exact ⟨by omega, longA_mem h.2⟩
set_option maxHeartbeats 4000000 in
theorem greatA_c (l : List Ac) (v : Value) (m : Nat) (w : World) (h : Al w v l) (hm : m ≤ 1000) (hl : l.length ≤ maxLen) :
    Calls Tryz.prog 8 #[v, .int .i64 (m : Int)] w fun e w' => e = .returned (.bool (greatA l m)) ∧ Below w.heap.size w w' := by
  obtain ⟨ad, cap, rfl, hc, hb⟩ := h
  have HB := Lib.hid hb
  unfold maxLen at hl
  clear hb
  unfold greatA
  by_cases h0 : m < l.length
  · have e1 : decide (l.length ≤ m) = false := by simp; omega
    have e2 : decide (m < l.length) = true := by simp; omega
    rw [decide_eq_true h0, Bool.true_or]
    go_enter Tryz.func8, Tryz.ntmps8
    go_wp2
    go_loopw [5] (fun v5 wr => v5 = .int .i64 0 ∧ wr = w) (fun _ _ => 0)
    case atStart => exact ⟨rfl, rfl⟩
    case round =>
      obtain ⟨rfl, rfl⟩ := hrel
      have e0 : decide ((0 : Int) < (l.length : Int)) = true := by simp; omega
      go_wp2
      go_ret
      exact ⟨rfl, Below.refl _ _⟩
  · have e1 : decide (l.length ≤ m) = true := by simp; omega
    have e2 : decide (m < l.length) = false := by simp; omega
    rw [decide_eq_false h0, Bool.false_or]
    have hlm : l.length ≤ 1000 := by omega
    clear h0
    go_enter Tryz.func8, Tryz.ntmps8
    go_wp2
    go_loopw [5] (fun v5 wr => ∃ k : Nat, k ≤ l.length ∧ v5 = .int .i64 (k : Int) ∧ Hid (longA (l.drop k) = longA l) ∧ wr = w) (fun v5 _ => l.length - (RowKit.intOf v5).toNat)
    case atStart => exact ⟨0, by omega, rfl, Lib.hid rfl, rfl⟩
    case round =>
      obtain ⟨k, hk, rfl, hs, rfl⟩ := hrel
      by_cases hp : k < l.length
      · have e0 : decide ((k : Int) < (l.length : Int)) = true := by simp; omega
        obtain ⟨b, o, rfl, hR⟩ := HB.out (by omega)
        obtain ⟨_, _, _, _, _, c4⟩ := hR k hp
        have hbl : b < wr.heap.size := World.block_lt_of_cell? wr _ c4
        have hs' := hs.out
        rw [List.drop_eq_getElem_cons hp, longA] at hs'
        clear hs hR
        generalize l[k].r.t = T at c4 hs'
        by_cases hx : 300 < (T.size : Int)
        · have e3 : decide (300 < (T.size : Int)) = true := by simpa using hx
          rw [e3, Bool.true_or] at hs'
          have HS := Lib.hid hs'
          clear hs'
          go_wp2
          go_ret
          exact ⟨by rw [← HS.out]; rfl, Below.refl _ _⟩
        · have e3 : decide (300 < (T.size : Int)) = false := by simpa using hx
          rw [e3, Bool.false_or] at hs'
          have HS := Lib.hid hs'
          clear hs'
          go_wp2
          go_roundw
          case rel => exact ⟨k + 1, hp, by go_num, HS, trivial⟩
          case measure => simp [RowKit.intOf]; omega
      · have e0 : decide ((k : Int) < (l.length : Int)) = false := by simp; omega
        have hs' := hs.out
        rw [List.drop_eq_nil_of_le (by omega), longA] at hs'
        have HS := Lib.hid hs'
        clear hs' hs
        go_wp2
        go_ret
        exact ⟨by rw [← HS.out]; rfl, Below.refl _ _⟩

def kyR (r : R.Rc) : Ky := (r.o, r.s)
/-- The records behind an act; its answer. -/
def folL (l : List R.Rc) (x : Ac) : List R.Rc :=
  if x.d = true then l.filter (fun y => decide (kyR y ≠ kyR x.r)) else if R.mayR x.r = true ∧ kyR x.r ∉ l.map kyR then l ++ [x.r] else l
def folN (l : List R.Rc) (x : Ac) : Int :=
  if x.d = true then (if kyR x.r ∈ l.map kyR then 1 else 0) else if R.mayR x.r = true then (if kyR x.r ∈ l.map kyR then 6 else 0) else 2
theorem where_key (l : List R.Rc) (h : (l.map kyR).Nodup) (k : Ky) :
    ∃ a, (∀ i (hi : i < l.length), (l[i].o == k.1 && l[i].s == k.2) = decide (i = a)) ∧
      ((a < l.length ∧ k ∈ l.map kyR ∧ l.filter (fun y => decide (kyR y ≠ k)) = l.take a ++ l.drop (a + 1)) ∨ (a = l.length ∧ k ∉ l.map kyR ∧ l.filter (fun y => decide (kyR y ≠ k)) = l)) := by
  have eqb : ∀ x : R.Rc, (x.o == k.1 && x.s == k.2) = decide (kyR x = k) := fun x => by
    obtain ⟨k1, k2⟩ := k
    by_cases h1 : x.o = k1 <;> by_cases h2 : x.s = k2 <;> simp [kyR, h1, h2]
  by_cases hk : k ∈ l.map kyR
  · obtain ⟨a, ha, hka⟩ := List.mem_iff_getElem.1 hk
    have ha2 : a < l.length := by simpa using ha
    have hka2 : kyR l[a] = k := by simpa using hka
    have ne : ∀ i (hi : i < l.length), i ≠ a → kyR l[i] ≠ k := fun i hi hia e => hia ((List.getElem_inj (i := i) (j := a) (h₀ := by simpa using hi) (h₁ := ha) h).1 (by simp [e, hka2]))
    refine ⟨a, fun i hi => ?_, .inl ⟨ha2, hk, ?_⟩⟩
    · rw [eqb]
      by_cases hia : i = a
      · subst hia
        simp [hka2]
      · simp [hia, ne i hi hia]
    · conv => lhs; rw [← List.take_append_drop a l, List.drop_eq_getElem_cons ha2]
      rw [List.filter_append, List.filter_cons_of_neg (by simp [hka2])]
      congr 1
      · refine List.filter_eq_self.2 fun y hy => ?_
        obtain ⟨i, hi, rfl⟩ := List.mem_take_iff_getElem.1 hy
        simpa using ne i (by omega) (by omega)
      · refine List.filter_eq_self.2 fun y hy => ?_
        obtain ⟨i, hi, rfl⟩ := List.mem_iff_getElem.1 hy
        rw [List.length_drop] at hi
        rw [List.getElem_drop]
        simpa using ne (a + 1 + i) (by omega) (by omega)
  · have ne : ∀ y ∈ l, kyR y ≠ k := fun y hy e => hk (e ▸ List.mem_map_of_mem hy)
    refine ⟨l.length, fun i hi => ?_, .inr ⟨rfl, hk, List.filter_eq_self.2 fun y hy => by simpa using ne y hy⟩⟩
    rw [eqb]
    have : ¬ i = l.length := by omega
    simp [this, ne _ (List.getElem_mem hi)]
set_option maxHeartbeats 16000000 in
theorem follow_c (l : List R.Rc) (v : Value) (d : Bool) (r : R.Rc) (w : World) (h : R.Rl w v l) (hn : l.length ≤ 1000) (hnd : (l.map kyR).Nodup) (hs : r.t.size ≤ 9223372036854775807) (hR : R.Tabs w) :
    Calls Tryz.prog 11 #[v, .agg #[.bool d, .int .i64 r.o, .int .i64 r.s, .int .i64 r.w, .int .i64 r.c, .string r.t]] w fun e w' => ∃ v', e = .returned (.tuple #[v', .int .i64 (folN l ⟨d, r⟩)]) ∧ (v' = v ∧ folL l ⟨d, r⟩ = l ∨ R.ORow w' w.heap.size v' (folL l ⟨d, r⟩)) ∧ Below w.heap.size w w' := by
  have mixed : Tryz.prog.follows .mixedOrders = true := by kernel_rfl
  obtain ⟨a, hea, hfa⟩ := where_key l hnd (kyR r)
  have HFA := Lib.hid hfa
  have HEA := Lib.hid hea
  have hal : a ≤ l.length := by rcases hfa with ⟨h1, _⟩ | ⟨h1, _⟩ <;> omega
  obtain ⟨ad, cap, rfl, hcap, hcs⟩ := id h.form
  have HRL := Lib.hid h
  have HSZ := Lib.hid hs
  have HR := Lib.hid hR
  obtain ⟨wb, hwb⟩ : ∃ wb, wb = w.alloc (.cells #[.bool d, .int .i64 r.o, .int .i64 r.s, .int .i64 r.w, .int .i64 r.c, .string r.t] 37) := ⟨_, rfl⟩
  have hb1 : Below w.heap.size w wb := by rw [hwb]; exact alloc_below _ _
  have HBX : Hid (Bx 37 wb w.heap.size #[.bool d, .int .i64 r.o, .int .i64 r.s, .int .i64 r.w, .int .i64 r.c, .string r.t]) := Lib.hid (by rw [hwb]; exact Bx.new _ w _)
  have HB1 := Lib.hid hb1
  have HRL1 := Lib.hid (HRL.out.below hb1)
  obtain ⟨bx, hbx⟩ : ∃ bx, bx = w.heap.size := ⟨_, rfl⟩
  rw [← hbx] at HBX
  clear hfa hea h hs hR hb1 hnd hcs
  go_enter Tryz.func11, Tryz.ntmps11
  go_wp2_with fail
  rw [← hwb, ← hbx]
  clear hwb hbx
  go_loopw [6, 7] (fun v6 v7 wr => ∃ (i : Nat), i ≤ l.length ∧ v6 = .int .i64 (if a < i then (a : Int) else -1) ∧ v7 = .int .i64 (i : Int) ∧ Hid (Below wb.heap.size wb wr)) (fun _ v7 _ => l.length - (RowKit.intOf v7).toNat)
  case atStart => exact ⟨0, by omega, by simp, rfl, Lib.hid (Below.refl _ _)⟩
  case round =>
    obtain ⟨i, hi, rfl, rfl, HB⟩ := hrel
    have XB := Lib.hid (HBX.out.below HB.out)
    have b0 := XB.out.cell 0
    have b1 := XB.out.cell 1
    have b2 := XB.out.cell 2
    have b3 := XB.out.cell 3
    have b4 := XB.out.cell 4
    have b5 := XB.out.cell 5
    simp only [List.getElem?_toArray, List.getElem?_cons_succ, List.getElem?_cons_zero] at b0 b1 b2 b3 b4 b5
    have hbl := XB.out.lt
    obtain ⟨ad2, cap2, e, _, hc⟩ := (HRL1.out.below HB.out).form
    simp only [Value.slice.injEq, true_and] at e
    obtain ⟨rfl, rfl⟩ := e
    by_cases hp : i < l.length
    · obtain ⟨b, o, rfl, hrc⟩ := hc (by omega)
      obtain ⟨x0, x1, _, _, _⟩ := hrc i hp
      have hgl := World.block_lt_of_cell? _ _ x0
      have q9 := HEA.out i hp
      have HP := Lib.hid hp
      generalize l[i].o = yo at x0 q9
      generalize l[i].s = ys at x1 q9
      clear hc hrc
      by_cases hia : i = a
      · subst hia
        have qq : ∀ W, (Op.equalIn 10000 31 (.agg #[.int .i64 yo, .int .i64 ys]) (.agg #[.int .i64 r.o, .int .i64 r.s])).run Tryz.prog W = .ok true W := fun W => by rw [eq_key]; simpa [kyR] using q9
        clear q9
        go_wp2_with fail
        go_quiet (fail)
        go_wp2_with fail
        go_roundw
        case rel => exact ⟨i + 1, HP.out, by rw [if_pos (Nat.lt_succ_self i)], by go_num, Lib.hid (bn HB.out (Go.Proofs.YtdjlgiinekighaaGreatDoor.P.below_drewN (Below.refl _ _) _))⟩
        case measure => have := HP.out; simp [RowKit.intOf]; omega
      · have qq : ∀ W, (Op.equalIn 10000 31 (.agg #[.int .i64 yo, .int .i64 ys]) (.agg #[.int .i64 r.o, .int .i64 r.s])).run Tryz.prog W = .ok false W := fun W => by rw [eq_key]; simpa [kyR, hia] using q9
        have HIF : Hid ((if a < i then (a : Int) else -1) = (if a < i + 1 then (a : Int) else -1)) := Lib.hid (by
          by_cases h1 : a < i
          · rw [if_pos h1, if_pos (by omega)]
          · rw [if_neg h1, if_neg (by omega)])
        clear q9 hia
        generalize (if a < i then (a : Int) else -1) = vt at *
        go_wp2_with fail
        go_quiet (fail)
        go_wp2_with fail
        go_roundw
        case rel => exact ⟨i + 1, HP.out, by rw [HIF.out], by go_num, Lib.hid (bn HB.out (Go.Proofs.YtdjlgiinekighaaGreatDoor.P.below_drewN (Below.refl _ _) _))⟩
        case measure => have := HP.out; simp [RowKit.intOf]; omega
    · have hil : i = l.length := by omega
      subst hil
      have HB2 := Lib.hid (bn HB1.out HB.out)
      have HRL2 := Lib.hid (HRL1.out.below HB.out)
      have hr : (⟨r.o, r.s, r.w, r.c, r.t⟩ : R.Rc) = r := rfl
      clear hc HEA
      cases d with
      | true =>
        rcases HFA.out with ⟨h1, h2, h3⟩ | ⟨h1, h2, h3⟩
        · have HFL : Hid (folL l ⟨true, r⟩ = l.take a ++ l.drop (a + 1)) := Lib.hid (by unfold folL; rw [if_pos rfl]; exact h3)
          have HFN : Hid (folN l ⟨true, r⟩ = 1) := Lib.hid (by unfold folN; rw [if_pos rfl, if_pos h2])
          rw [if_pos h1]
          obtain ⟨W0, hW0⟩ : ∃ W0, W0 = wr := ⟨_, rfl⟩
          have ha0 : ¬ (a : Int) < 0 := by omega
          have ha1 : (0 : Int) ≤ (a : Int) := by omega
          obtain ⟨z, hz⟩ : ∃ z, z = a + 1 := ⟨_, rfl⟩
          have hwp : IntKind.i64.wrap ((a : Int) + 1) = (z : Int) := by rw [IntKind.wrap_i64]; omega
          have hzl : z ≤ l.length := by omega
          rw [← hz] at HFL
          obtain ⟨A1, N1, C1, hV1⟩ : ∃ A1 N1 C1, sliced ad 0 a cap 5 = .slice A1 N1 C1 := ⟨_, _, _, rfl⟩
          obtain ⟨A3, N3, C3, hV3⟩ : ∃ A3 N3 C3, sliced ad z l.length cap 5 = .slice A3 N3 C3 := ⟨_, _, _, rfl⟩
          have r1 : ∀ W, (Instr.sliceAt 27 (.slice ad l.length cap) none (some (.int .i64 (a : Int))) none).run Tryz.prog W = .ok (.slice A1 N1 C1) W := fun W => by
            rw [← hV1]
            exact R.rslice_run ad _ cap _ _ _ _ W (by simp [Instr.sliceBounds, run_sliceBound_if, show a ≤ cap by omega])
          have r3 : ∀ W, (Instr.sliceAt 27 (.slice ad l.length cap) (some (.int .i64 (z : Int))) none none).run Tryz.prog W = .ok (.slice A3 N3 C3) W := fun W => by
            rw [← hV3]
            exact R.rslice_run ad _ cap _ _ _ _ W (by simp [Instr.sliceBounds, run_sliceBound_if, hzl])
          have HV1 : Hid (∀ W, Below W0.heap.size W0 W → R.Rl W (.slice A1 N1 C1) (l.take a)) := Lib.hid (fun W hb => by
            have h := (R.rl_sliced HRL2.out 0 a (by omega) (by omega)).below (hW0 ▸ hb)
            rwa [hV1, List.drop_zero, Nat.sub_zero] at h)
          have HV3 : Hid (∀ W, Below W0.heap.size W0 W → R.Rl W (.slice A3 N3 C3) (l.drop z)) := Lib.hid (fun W hb => by
            have h := (R.rl_sliced HRL2.out z l.length hzl (Nat.le_refl _)).below (hW0 ▸ hb)
            rwa [hV3, List.take_of_length_le (by simp)] at h)
          have hlk : (l.take a).length ≤ 1000 := by rw [List.length_take]; omega
          have hlk2 : (l.drop z).length ≤ 1000 := by rw [List.length_drop]; omega
          have hB0 : Hid (Below w.heap.size w W0) := Lib.hid (hW0 ▸ HB2.out)
          clear hV1 hV3 HRL HRL1 HRL2 HFA h3 hz
          go_wp2_with fail
          rw [← hW0]
          clear hW0
          go_region_held3 (fun _ => True) (exact True.intro)
            (first
            | (refine R.step_rapp rfl _ _ rfl W0.heap.size va (.slice A3 N3 C3) (l.take a) (l.drop z) rfl rfl (by exact hra) (HV3.out _ (by exact ba)) (by omega) (by exact ba.size) ?_; intro vc wc hrc hgc; have bc : Below W0.heap.size W0 wc := ba.trans (R.below_of_grown hgc ba.size (fun g hg => (World.ownsRow.lt hra g hg).1)))
            | (refine R.step_rapp rfl _ _ rfl W0.heap.size (.slice none 0 0) (.slice A1 N1 C1) [] (l.take a) rfl rfl (R.ORow.nil _ _) (HV1.out _ (by first | assumption | exact Below.refl _ _ | exact (Below.refl _ _).drew | exact alloc_below _ _ | exact (alloc_below _ _).drew)) (by simp; omega) (by first | exact Nat.le_refl _ | (simp; done)) ?_; intro va wa hra hga; have ba : Below W0.heap.size W0 wa := bn (by first | assumption | exact Below.refl _ _ | exact (Below.refl _ _).drew | exact alloc_below _ _ | exact (alloc_below _ _).drew) (R.below_of_grown hga (Nat.le_refl _) (by intro g hg; cases hg)))
            | fail)
          go_wp2
          go_ret2
          exact ⟨vc, by rw [HFN.out]; rfl, by rw [HFL.out]; exact .inr (Go.Proofs.YtdjlgiinekighaaGreatDoor.P.own_mono hrc hB0.out.size), bn hB0.out bc⟩
        · have HFL : Hid (folL l ⟨true, r⟩ = l) := Lib.hid (by unfold folL; rw [if_pos rfl]; exact h3)
          have HFN : Hid (folN l ⟨true, r⟩ = 0) := Lib.hid (by unfold folN; rw [if_pos rfl, if_neg h2])
          rw [if_neg (by omega)]
          clear HFA h3
          go_wp2_with fail
          go_ret2
          exact ⟨_, by rw [HFN.out]; rfl, .inl ⟨rfl, HFL.out⟩, HB2.out⟩
      | false =>
        have CM := Lib.hid (fun W (hW : Below wr.heap.size wr W) => R.refmay_c r W HSZ.out ((HR.out.below HB2.out).below hW))
        cases hm : R.mayR r with
        | false =>
          have HFL : Hid (folL l ⟨false, r⟩ = l) := Lib.hid (by unfold folL; rw [if_neg (by simp), if_neg (fun hc => by rw [hm] at hc; exact absurd hc.1 (by decide))])
          have HFN : Hid (folN l ⟨false, r⟩ = 2) := Lib.hid (by unfold folN; rw [if_neg (by simp), if_neg (by rw [hm]; decide)])
          rw [hm] at CM
          generalize (if a < l.length then (a : Int) else -1) = vt at *
          clear HFA
          go_wp2_with fail
          refine (CM.out _ (Below.refl _ _)).mono ?_
          rintro e w5 ⟨rfl, b5⟩
          go_wp2_with fail
          go_ret2
          exact ⟨_, by rw [HFN.out]; rfl, .inl ⟨rfl, HFL.out⟩, bn HB2.out b5⟩
        | true =>
          rw [hm] at CM
          rcases HFA.out with ⟨h1, h2, h3⟩ | ⟨h1, h2, h3⟩
          · have HFL : Hid (folL l ⟨false, r⟩ = l) := Lib.hid (by unfold folL; rw [if_neg (by simp), if_neg (fun hc => hc.2 h2)])
            have HFN : Hid (folN l ⟨false, r⟩ = 6) := Lib.hid (by unfold folN; rw [if_neg (by simp), if_pos hm, if_pos h2])
            rw [if_pos h1]
            have ha1 : (0 : Int) ≤ (a : Int) := by omega
            clear HFA h3
            go_wp2_with fail
            refine (CM.out _ (Below.refl _ _)).mono ?_
            rintro e w5 ⟨rfl, b5⟩
            go_wp2_with fail
            go_ret2
            exact ⟨_, by rw [HFN.out]; rfl, .inl ⟨rfl, HFL.out⟩, bn HB2.out b5⟩
          · have HFL : Hid (folL l ⟨false, r⟩ = l ++ [r]) := Lib.hid (by unfold folL; rw [if_neg (by simp), if_pos ⟨hm, h2⟩])
            have HFN : Hid (folN l ⟨false, r⟩ = 0) := Lib.hid (by unfold folN; rw [if_neg (by simp), if_pos hm, if_neg h2])
            rw [if_neg (by omega)]
            clear HFA h3
            go_wp2_with fail
            refine (CM.out _ (Below.refl _ _)).mono ?_
            rintro e w5 ⟨rfl, b5⟩
            obtain ⟨W0, hW0⟩ : ∃ W0, W0 = w5 := ⟨_, rfl⟩
            rw [← hW0] at b5
            have HV1 : Hid (∀ W, Below W0.heap.size W0 W → R.Rl W (.slice ad l.length cap) l) := Lib.hid (fun W hb => (HRL2.out.below b5).below hb)
            have HC8 : Hid (∀ W, Below W0.heap.size W0 W → W.cell? ⟨bx, 1, none⟩ = some (.int .i64 r.o) ∧ W.cell? ⟨bx, 2, none⟩ = some (.int .i64 r.s) ∧ W.cell? ⟨bx, 3, none⟩ = some (.int .i64 r.w) ∧ W.cell? ⟨bx, 4, none⟩ = some (.int .i64 r.c) ∧ W.cell? ⟨bx, 5, none⟩ = some (.string r.t)) := Lib.hid (fun W hb => by
              have X := (XB.out.below b5).below hb
              exact ⟨X.cell 1, X.cell 2, X.cell 3, X.cell 4, X.cell 5⟩)
            have hB0 : Hid (Below w.heap.size w W0) := Lib.hid (bn HB2.out b5)
            clear b0 b1 b2 b3 b4 b5 hbl HRL HRL1 HRL2 CM XB HBX
            go_wp2_with fail
            rw [← hW0]
            clear hW0
            go_region_held3 (fun W => W.cell? ⟨bx, 1, none⟩ = some (.int .i64 r.o) ∧ W.cell? ⟨bx, 2, none⟩ = some (.int .i64 r.s) ∧ W.cell? ⟨bx, 3, none⟩ = some (.int .i64 r.w) ∧ W.cell? ⟨bx, 4, none⟩ = some (.int .i64 r.c) ∧ W.cell? ⟨bx, 5, none⟩ = some (.string r.t)) (exact HC8.out _ (by first | assumption | exact Below.refl _ _ | exact (Below.refl _ _).drew | exact alloc_below _ _ | exact (alloc_below _ _).drew | exact ba.alloc ba.size _ | exact (ba.alloc ba.size _).drew))
              (first
              | (refine R.step_rapp rfl _ _ rfl W0.heap.size va (.slice (some ⟨W0.heap.size, 0, none⟩) 1 1) l [r] rfl rfl (by exact hra) (by exact R.rl_one _ _ r ((hga.block W0.heap.size (by simp) (by intro h; cases h)).trans (R.Bx.new 35 W0 _))) (by simp; omega) (by exact ba.size) ?_; intro vb wb hrb hgb; have bb : Below W0.heap.size W0 wb := ba.trans (R.below_of_grown hgb ba.size (fun g hg => (World.ownsRow.lt hra g hg).1)))
              | (refine R.step_rapp rfl _ _ rfl W0.heap.size va (.slice (some ⟨wa.heap.size, 0, none⟩) 1 1) l [r] rfl rfl (by first | exact hra.below (alloc_below _ _) | exact hra.below (alloc_below _ _).drew) (by exact R.rl_one _ _ r (R.Bx.new 35 wa _)) (by simp; omega) (by first | exact (ba.alloc ba.size _).size | exact (ba.alloc ba.size _).drew.size) ?_; intro vb wb hrb hgb; have bb : Below W0.heap.size W0 wb := (ba.alloc ba.size _).trans (R.below_of_grown hgb (ba.alloc ba.size _).size (fun g hg => (World.ownsRow.lt hra g hg).1)))
              | (refine R.step_rapp rfl _ _ rfl W0.heap.size (.slice none 0 0) (.slice ad l.length cap) [] l rfl rfl (R.ORow.nil _ _) (HV1.out _ (by first | assumption | exact Below.refl _ _ | exact (Below.refl _ _).drew | exact alloc_below _ _ | exact (alloc_below _ _).drew)) (by simp; omega) (by first | exact Nat.le_refl _ | (simp; done)) ?_; intro va wa hra hga; have ba : Below W0.heap.size W0 wa := bn (by first | assumption | exact Below.refl _ _ | exact (Below.refl _ _).drew | exact alloc_below _ _ | exact (alloc_below _ _).drew) (R.below_of_grown hga (Nat.le_refl _) (by intro g hg; cases hg)))
              | fail)
            all_goals
              go_wp2
              go_ret2
              exact ⟨vb, by rw [HFN.out]; rfl, by rw [HFL.out]; exact .inr (Go.Proofs.YtdjlgiinekighaaGreatDoor.P.own_mono hrb hB0.out.size), bn hB0.out bb⟩
end Go.Proofs.YtdjlgiinekighaaGreatDoor
/-
  Acts over an index: plain facts.
-/
namespace Go.Proofs.YtdjlgiinekighaaGreatDoor
open Go.RowKit Go.Lib Go.Sort Go.Shelf Go.Maps Go.Proofs.YtdjlgiinekighaaGreatDoor.P Go.Proofs
set_option maxRecDepth 100000
set_option linter.unusedSimpArgs false

/-- What an index has of records. -/
noncomputable def sx (l : List R.Rc) : Sx := l.map fun r => (kyR r, wordsOf r.t)
theorem sx_keys (l : List R.Rc) : (sx l).map Prod.fst = l.map kyR := by simp [sx]
theorem sx_len (l : List R.Rc) : (sx l).length = l.length := by simp [sx]
theorem sx_app (l m : List R.Rc) : sx (l ++ m) = sx l ++ sx m := by simp [sx]
theorem sx_rev (l : List R.Rc) : sx l.reverse = (sx l).reverse := by simp [sx]
theorem sx_fol (l : List R.Rc) (x : Ac) : sx (folL l x) = if x.d = true then dropS (sx l) (kyR x.r) else putS (sx l) x.r := by
  unfold folL
  by_cases hd : x.d = true
  · rw [if_pos hd, if_pos hd]
    unfold sx dropS
    rw [List.filter_map]
    rfl
  · rw [if_neg hd, if_neg hd]
    unfold putS
    rw [sx_keys]
    by_cases hc : R.mayR x.r = true ∧ kyR x.r ∉ l.map kyR
    · rw [if_pos hc, if_pos (show R.mayR x.r = true ∧ (x.r.o, x.r.s) ∉ l.map kyR from hc), sx_app]
      rfl
    · rw [if_neg hc, if_neg (show ¬ (R.mayR x.r = true ∧ (x.r.o, x.r.s) ∉ l.map kyR) from hc)]
theorem fol_nd {l : List R.Rc} (x : Ac) (h : (l.map kyR).Nodup) : ((folL l x).map kyR).Nodup := by
  unfold folL
  split
  · exact h.sublist (List.filter_sublist.map _)
  · split
    · rename_i hc
      rw [List.map_append, List.nodup_append]
      refine ⟨h, by simp, fun a ha b hb e => ?_⟩
      simp only [List.map_cons, List.map_nil, List.mem_singleton] at hb
      subst hb
      exact hc.2 (e ▸ ha)
    · exact h
theorem fol_may {l : List R.Rc} (x : Ac) (h : ∀ r ∈ l, R.mayR r = true) : ∀ r ∈ folL l x, R.mayR r = true := by
  unfold folL
  split
  · exact fun r hr => h r (List.mem_filter.1 hr).1
  · split
    · rename_i hc
      intro r hr
      rcases List.mem_append.1 hr with hr | hr
      · exact h r hr
      · rw [List.mem_singleton.1 hr]; exact hc.1
    · exact h
theorem fol_len (l : List R.Rc) (x : Ac) : (folL l x).length ≤ l.length + 1 := by
  unfold folL
  split
  · have := List.length_filter_le (fun y => decide (kyR y ≠ kyR x.r)) l
    omega
  · split
    · simp
    · omega
theorem folN_put (l : List R.Rc) (x : Ac) (hd : x.d = false) : putC (sx l) x.r = folN l x := by
  unfold putC folN
  rw [if_neg (show ¬ x.d = true by rw [hd]; decide), sx_keys]
  by_cases hm : R.mayR x.r = true
  · rw [if_pos hm, if_pos hm]
    by_cases hk : kyR x.r ∈ l.map kyR
    · rw [if_pos hk, if_pos (show (x.r.o, x.r.s) ∈ l.map kyR from hk)]
    · rw [if_neg hk, if_neg (show ¬ (x.r.o, x.r.s) ∈ l.map kyR from hk)]
  · rw [if_neg hm, if_neg hm]
theorem folN_drop (l : List R.Rc) (x : Ac) (hd : x.d = true) (h : (l.map kyR).Nodup) : ((sx l).length : Int) - ((dropSs (sx l) [kyR x.r]).length : Int) = folN l x := by
  have e : dropSs (sx l) [kyR x.r] = sx (folL l x) := by rw [sx_fol, if_pos hd]; rfl
  rw [e, sx_len, sx_len]
  unfold folN folL
  rw [if_pos hd, if_pos hd]
  obtain ⟨a, _, h2⟩ := where_key l h (kyR x.r)
  rcases h2 with ⟨h1, h2, h3⟩ | ⟨h1, h2, h3⟩
  · rw [if_pos h2, h3, List.length_append, List.length_take, List.length_drop]
    omega
  · rw [if_neg h2, h3]
    omega
theorem good_sx {l : List R.Rc} (h : ∀ r ∈ l, R.mayR r = true) : Good (sx l) := by
  intro x hx
  obtain ⟨r, hr, rfl⟩ := List.mem_map.1 hx
  have hmm := h r hr
  simp only [R.mayR, Bool.and_eq_true] at hmm
  obtain ⟨rs, hok, hen, hz, hrl⟩ := may_text hmm.2.2
  refine ⟨?_, hmm.1⟩
  rw [show ((kyR r, wordsOf r.t) : Ky × List Bs).2 = wordsOf r.t from rfl, wordsOf_eq hok hen]
  exact (words_few hrl).1
theorem ok_key {r : R.Rc} (h : R.mayR r = true) : okKy (kyR r) := by
  simp only [R.mayR, R.keyB, Bool.and_eq_true, decide_eq_true_eq] at h
  unfold okKy inR kyR
  simp only
  omega
/-- Where words stand, told by which texts are there, in whatever order. -/
theorem posS_at {S : Sx} (h : (S.map Prod.fst).Nodup) {x : Ky × List Bs} (hx : x ∈ S) (t : Bs) : posS S x.1 t = posN 0 x.2 t := by
  induction S with
  | nil => cases hx
  | cons a r ih =>
    rw [List.map_cons, List.nodup_cons] at h
    unfold posS
    rcases List.mem_cons.1 hx with rfl | hx
    · rw [if_pos rfl]
    · rw [if_neg (fun (e : a.1 = x.1) => h.1 (e ▸ List.mem_map_of_mem hx)), ih h.2 hx]
theorem posS_same {S S' : Sx} (h : (S.map Prod.fst).Nodup) (h' : (S'.map Prod.fst).Nodup) (hm : ∀ x, x ∈ S ↔ x ∈ S') (k : Ky) (t : Bs) : posS S k t = posS S' k t := by
  by_cases hk : k ∈ S.map Prod.fst
  · obtain ⟨x, hx, rfl⟩ := List.mem_map.1 hk
    rw [posS_at h hx, posS_at h' ((hm x).1 hx)]
  · have hk' : k ∉ S'.map Prod.fst := fun hc => by
      obtain ⟨x, hx, rfl⟩ := List.mem_map.1 hc
      exact hk (List.mem_map_of_mem ((hm x).2 hx))
    rw [posS_no S k t hk, posS_no S' k t hk']
theorem words_uniq {S S' : Sx} (h : (S.map Prod.fst).Nodup) (h' : (S'.map Prod.fst).Nodup) (hm : ∀ x, x ∈ S ↔ x ∈ S') {ws ws' : List Bs} (hw : Words S ws) (hw' : Words S' ws') : ws = ws' := by
  refine List.Perm.eq_of_pairwise (le := fun a b => a < b) (fun x y _ _ h1 h2 => absurd h2 (List.lt_asymm h1)) hw.1 hw'.1 ((List.perm_ext_iff_of_nodup (words_nodup hw.1) (words_nodup hw'.1)).2 fun t => ?_)
  rw [hw.2 t, hw'.2 t]
  constructor
  · rintro ⟨k, hk⟩
    exact ⟨k, by rwa [← posS_same h h' hm]⟩
  · rintro ⟨k, hk⟩
    exact ⟨k, by rwa [posS_same h h' hm]⟩
theorem same_rev (S : Sx) : sameD S S.reverse = true := sameD_yes ⟨by simp, fun x hx => by simpa using hx⟩
theorem same_rev2 (S : Sx) : sameD S.reverse S = true := sameD_yes ⟨by simp, fun x hx => by simpa using hx⟩
theorem same_less (S S' : Sx) (h : S'.length ≠ S.length) : sameD S S' = false := sameD_no fun hs => h hs.1.symm
theorem drop_less {S : Sx} {k : Ky} (h : k ∈ S.map Prod.fst) : (dropS S k).length ≠ S.length := by
  obtain ⟨x, hx, rfl⟩ := List.mem_map.1 h
  intro e
  unfold dropS at e
  have h1 := List.length_filter_eq_length_iff.1 e x hx
  simp at h1
theorem drop_one (S : Sx) (k : Ky) : dropSs S [k] = dropS S k := rfl
/-- Put of one that is not there. -/
theorem put_one {l : List R.Rc} {r : R.Rc} (hm : R.mayR r = true) (hk : kyR r ∉ l.map kyR) : putS (sx l) r = sx (l ++ [r]) ∧ putC (sx l) r = 0 := by
  unfold putS putC
  rw [sx_keys]
  have hk2 : (r.o, r.s) ∉ l.map kyR := hk
  rw [if_pos ⟨hm, hk2⟩, if_pos hm, if_neg hk2, sx_app]
  exact ⟨rfl, rfl⟩
end Go.Proofs.YtdjlgiinekighaaGreatDoor
