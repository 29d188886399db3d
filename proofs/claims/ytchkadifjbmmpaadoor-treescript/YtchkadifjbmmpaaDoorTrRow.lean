/-
  Rows of records of one's own; append; pieces.
-/
import Derived.Test.YtchkadifjbmmpaaDoorWRecGreat
import Derived.Test.YtchkadifjbmmpaaDoorWDigBase
import Derived.Deep.OwnRows
import Derived.Maps.AppendAt
import Derived.Deep.SlicePairs
namespace Go.Proofs.YtchkadifjbmmpaaDoor.R
open Go.RowKit Go.Lib
open Go.Proofs.YtchkadifjbmmpaaDoor.D (own_below own_mono)
set_option maxRecDepth 100000

def cs5 : List Rc → List Value
  | [] => []
  | r :: t => .int .i64 r.o :: .int .i64 r.s :: .int .i64 r.w :: .int .i64 r.c :: .string r.t :: cs5 t
theorem cs5_len : ∀ l : List Rc, (cs5 l).length = l.length * 5
  | [] => rfl
  | r :: t => by simp [cs5, cs5_len t]; omega
theorem cs5_one : ∀ (l : List Rc), ∀ u ∈ cs5 l, u.oneCell' = true
  | [], u, h => by simp [cs5] at h
  | r :: t, u, h => by
    simp only [cs5, List.mem_cons] at h
    rcases h with rfl | rfl | rfl | rfl | rfl | h
    · rfl
    · rfl
    · rfl
    · rfl
    · rfl
    · exact cs5_one t u h
theorem cs5_at : ∀ (l : List Rc) (k : Nat) (hk : k < l.length), (cs5 l)[k * 5]? = some (.int .i64 l[k].o) ∧ (cs5 l)[k * 5 + 1]? = some (.int .i64 l[k].s) ∧ (cs5 l)[k * 5 + 2]? = some (.int .i64 l[k].w) ∧ (cs5 l)[k * 5 + 3]? = some (.int .i64 l[k].c) ∧ (cs5 l)[k * 5 + 4]? = some (.string l[k].t)
  | [], k, hk => by simp at hk
  | r :: t, 0, _ => by simp [cs5]
  | r :: t, k + 1, hk => by
    have h := cs5_at t k (by simpa using hk)
    rw [show (k + 1) * 5 = k * 5 + 1 + 1 + 1 + 1 + 1 from by omega]
    simp only [cs5, List.getElem_cons_succ]
    refine ⟨?_, ?_, ?_, ?_, ?_⟩
    · simp only [List.getElem?_cons_succ]; exact h.1
    · rw [show k * 5 + 1 + 1 + 1 + 1 + 1 + 1 = (k * 5 + 1) + 1 + 1 + 1 + 1 + 1 from by omega]; simp only [List.getElem?_cons_succ]; exact h.2.1
    · rw [show k * 5 + 1 + 1 + 1 + 1 + 1 + 2 = (k * 5 + 2) + 1 + 1 + 1 + 1 + 1 from by omega]; simp only [List.getElem?_cons_succ]; exact h.2.2.1
    · rw [show k * 5 + 1 + 1 + 1 + 1 + 1 + 3 = (k * 5 + 3) + 1 + 1 + 1 + 1 + 1 from by omega]; simp only [List.getElem?_cons_succ]; exact h.2.2.2.1
    · rw [show k * 5 + 1 + 1 + 1 + 1 + 1 + 4 = (k * 5 + 4) + 1 + 1 + 1 + 1 + 1 from by omega]; simp only [List.getElem?_cons_succ]; exact h.2.2.2.2
theorem Recs.news {w : World} {b o : Nat} {l : List Rc} (h : Recs w b o l) : ∀ j u, (cs5 l)[j]? = some u → w.cell? ((⟨b, o, none⟩ : Addr).add j) = some u := by
  intro j u hu
  have hj : j < l.length * 5 := by have := (List.getElem?_eq_some_iff.1 hu).1; rwa [cs5_len] at this
  have hk : j / 5 < l.length := by omega
  rw [Go.WideShapes.add_plain]
  have h1 := h (j / 5) hk
  have h2 := cs5_at l (j / 5) hk
  have hd : j = j / 5 * 5 + j % 5 := by omega
  have hm : j % 5 < 5 := Nat.mod_lt _ (by decide)
  generalize j / 5 = q at *
  generalize j % 5 = r at *
  subst hd
  match r, hm with
  | 0, _ => rw [show o + (q * 5 + 0) = o + q * 5 from by omega, h1.1, ← hu]; exact h2.1.symm
  | 1, _ => rw [show o + (q * 5 + 1) = o + q * 5 + 1 from by omega, h1.2.1, ← hu]; exact h2.2.1.symm
  | 2, _ => rw [show o + (q * 5 + 2) = o + q * 5 + 2 from by omega, h1.2.2.1, ← hu]; exact h2.2.2.1.symm
  | 3, _ => rw [show o + (q * 5 + 3) = o + q * 5 + 3 from by omega, h1.2.2.2.1, ← hu]; exact h2.2.2.2.1.symm
  | 4, _ => rw [show o + (q * 5 + 4) = o + q * 5 + 4 from by omega, h1.2.2.2.2, ← hu]; exact h2.2.2.2.2.symm
theorem recInfo : (Tryd.prog.info? 36).map (fun i => (i.zero, i.size, i.bytes)) = some (some (.agg #[.int .i64 0, .int .i64 0, .int .i64 0, .int .i64 0, .string ⟨#[]⟩]), 5, 48) := by kernel_rfl

theorem cs5_app : ∀ a b : List Rc, cs5 (a ++ b) = cs5 a ++ cs5 b
  | [], _ => rfl
  | r :: t, b => by simp [cs5, cs5_app t b]
/-- The row v, of one's own from block B on, holds the records l. -/
def ORow (w : World) (B : Nat) (v : Value) (l : List Rc) : Prop := w.ownsRow B 36 5 v l.length (cs5 l)
theorem ORow.nil (w : World) (B : Nat) : ORow w B (.slice none 0 0) [] := World.ownsRow_nil _ _ _ _
theorem ORow.below {w w' : World} {B : Nat} {v : Value} {l : List Rc} (h : ORow w B v l) (hb : Below w.heap.size w w') : ORow w' B v l := own_below h hb
theorem ORow.mono {w : World} {B B' : Nat} {v : Value} {l : List Rc} (h : ORow w B v l) (hb : B' ≤ B) : ORow w B' v l := own_mono h hb
theorem ORow.rl {w : World} {B : Nat} {v : Value} {l : List Rc} (h : ORow w B v l) : Rl w v l := by
  rcases h.2 with ⟨rfl, h0⟩ | ⟨g, cap, cur, rfl, _, _, hn, _⟩
  · exact .inl ⟨rfl, List.eq_nil_of_length_eq_zero h0⟩
  · refine .inr ⟨⟨g, 0, none⟩, cap, rfl, hn, fun _ => ⟨g, 0, rfl, fun k hk => ?_⟩⟩
    have h1 := cs5_at l k hk
    have f : ∀ j, j < l.length * 5 → w.cell? ⟨g, j, none⟩ = (cs5 l)[j]? := fun j hj => World.ownsRow.cellAt h j hj
    rw [Nat.zero_add]
    exact ⟨(f _ (by omega)).trans h1.1, (f _ (by omega)).trans h1.2.1, (f _ (by omega)).trans h1.2.2.1, (f _ (by omega)).trans h1.2.2.2.1, (f _ (by omega)).trans h1.2.2.2.2⟩
theorem rapp_run (m l : List Rc) (v u : Value) (B : Nat) (w : World) (ty : TypeId) (hv : ORow w B v m) (h : Rl w u l) (hn : m.length + l.length ≤ 1000000) (hB : B ≤ w.heap.size) :
    ∃ v' w1, (Builtin.append_ #[28, 28] ty #[v, u]).run Tryd.prog w = .ok v' w1 ∧ ORow w1 B v' (m ++ l) ∧ w.grownBy w1 v.ownBlock := by
  obtain ⟨i0, hi, hz0, hz1, hz2⟩ := info_parts recInfo
  rcases h with ⟨rfl, rfl⟩ | ⟨ad, cap, rfl, _, h⟩
  · refine ⟨v, w, ?_, by rw [List.append_nil]; exact hv, grown_refl _ _⟩
    rcases hv.2 with ⟨rfl, h0⟩ | ⟨g, cap, cur, rfl, _, _, hn, _⟩
    · simp [Builtin.append_, go_sem, run_underlying Tryd.underlying28]
    · simp [Builtin.append_, go_sem, run_underlying Tryd.underlying28]
      intro hh
      omega
  · obtain ⟨v', w', h1, h2, h3, _, _⟩ := run_append_own_at (P := Tryd.prog) w B 28 ty 36 i0 _ 5 48 Tryd.underlying28 hi hz0 hz1 hz2 rfl (by decide) v m.length (cs5 m) hv ad l.length cap (cs5 l) (cs5_len l) (fun j u hu => by
      have hj : j < l.length * 5 := by have := (List.getElem?_eq_some_iff.1 hu).1; rwa [cs5_len] at this
      obtain ⟨b, o, rfl, hR⟩ := h (by omega)
      exact hR.news j u hu) (cs5_one l) (by unfold maxLen; omega) (by omega) hB
    refine ⟨v', w', h1, ?_, h3⟩
    unfold ORow
    rw [List.length_append, cs5_app]
    exact h2
theorem step_rapp {w : World} {ops : Array Oper} {o : Oper} {a : Act} {K : Act → World → Prop} {Q : Exit → Act → World → Prop} {E : Prop} (hgd : o.guard = none) (s x : Operand)
    (ho : o.op = .call { callee := .builtin .append, args := #[s, x], argTypes := #[28, 28] })
    (B : Nat) (v u : Value) (m l : List Rc) (hs : a.eval s = v) (hx : a.eval x = u) (hv : ORow w B v m) (hu : Rl w u l) (hn : m.length + l.length ≤ 1000000) (hB : B ≤ w.heap.size)
    (h : ∀ v' w', ORow w' B v' (m ++ l) → w.grownBy w' v.ownBlock → K (a.put o.dst v') w') :
    if Region.wanted o (yielded ops a.tmps) = true then Oper.wp Tryd.prog o a w K Q else E := by
  have hw : Region.wanted o (yielded ops a.tmps) = true := by simp [Region.wanted, hgd]
  rw [if_pos hw]
  obtain ⟨v', w', hr, h2, h3⟩ := rapp_run m l v u B w o.type hv hu hn hB
  unfold Oper.wp execOp
  simp only [ho, resolve, invoke, builtin, Sem.run_bind, Sem.run_pure, Result.andThen_ok, List.map_toArray, List.map_cons, List.map_nil, hs, hx, hr]
  exact h v' w' h2 h3
/-- One record that has just been laid. -/
theorem rl_one (w : World) (B : Nat) (r : Rc) (h : Bx 36 w B #[.int .i64 r.o, .int .i64 r.s, .int .i64 r.w, .int .i64 r.c, .string r.t]) : Rl w (.slice (some ⟨B, 0, none⟩) 1 1) [r] := by
  obtain ⟨c0, c1, c2, c3, c4⟩ := h.five
  refine .inr ⟨_, 1, rfl, Nat.le_refl _, fun _ => ⟨B, 0, rfl, fun k hk => ?_⟩⟩
  have hk2 : k < 1 := hk
  match k, hk2 with
  | 0, _ => exact ⟨c0, c1, c2, c3, c4⟩
theorem Recs.take {w : World} {b o : Nat} {l : List Rc} (h : Recs w b o l) (k : Nat) : Recs w b o (l.take k) := fun j hj => by
  rw [List.length_take] at hj
  rw [List.getElem_take]
  exact h j (by omega)
theorem Recs.drop {w : World} {b o : Nat} {l : List Rc} (h : Recs w b o l) (k : Nat) : Recs w b (o + k * 5) (l.drop k) := fun j hj => by
  rw [List.length_drop] at hj
  rw [List.getElem_drop]
  have h1 := h (k + j) (by omega)
  rw [show o + k * 5 + j * 5 = o + (k + j) * 5 from by omega]
  exact h1

/-- A piece of a list of records holds the piece of them. -/
theorem rl_sliced {w : World} {ad : Option Addr} {cap : Nat} {l : List Rc} (h : Rl w (.slice ad l.length cap) l) (lo hi : Nat) (hlh : lo ≤ hi) (hhi : hi ≤ l.length) : Rl w (sliced ad lo hi cap 5) ((l.drop lo).take (hi - lo)) := by
  have hlen : (List.take (hi - lo) (List.drop lo l)).length = hi - lo := by simp; omega
  rcases h with ⟨e, rfl⟩ | ⟨a, c, e, hcap, h2⟩
  · simp only [Value.slice.injEq] at e
    obtain ⟨rfl, _, rfl⟩ := e
    simp at hhi
    subst hhi
    obtain rfl : lo = 0 := by omega
    exact .inl ⟨rfl, rfl⟩
  · simp only [Value.slice.injEq] at e
    obtain ⟨rfl, _, rfl⟩ := e
    refine .inr ⟨if cap = lo then a else a.add (lo * 5), cap - lo, ?_, by omega, fun h0 => ?_⟩
    · rw [hlen]
      unfold sliced
      split <;> rfl
    · rw [hlen] at h0
      obtain ⟨b, o, rfl, hs⟩ := h2 (by omega)
      by_cases hc : cap = lo
      · omega
      · rw [if_neg hc]
        exact ⟨b, o + lo * 5, Go.WideShapes.add_plain .., (hs.drop lo).take (hi - lo)⟩
theorem rslice_run (ad : Option Addr) (n cap : Nat) (lo hi : Option Value) (l h : Nat) (W : World) (hb : (Instr.sliceBounds true n cap lo hi none).run Tryd.prog W = .ok (l, h, cap) W) : (Instr.sliceAt 28 (.slice ad n cap) lo hi none).run Tryd.prog W = .ok (sliced ad l h cap 5) W := by
  have hs : (sizeOf 36).run Tryd.prog W = .ok 5 W := by
    simp [sizeOf]
    rfl
  rw [run_sliceAt_slice W _ _ _ _ _ Tryd.underlying28, run_slice_any W _ _ _ _ Tryd.underlying28, hb]
  simp only [Result.andThen]
  rw [show Tryd.prog.elem 28 = 36 by kernel_rfl, hs]
end Go.Proofs.YtchkadifjbmmpaaDoor.R
