/-
  Acts: handed in, opened; are there more than are gone through.
-/
import Derived.Test.YtchkadifjbmmpaaDoorTrRow
import Derived.Test.YtchkadifjbmmpaaDoorTrArgs
namespace Go.Proofs.YtchkadifjbmmpaaDoor
open Go.RowKit Go.Lib Go.ChangeShapes Go.WideShapes Go.ChangeAt Go.Deep Go.Joins
set_option maxRecDepth 100000

/-- An act: whether it drops, and its record. -/
structure Ac where
  d : Bool
  r : R.Rc
/-- An act as it lies. -/
def AAt (w : World) (b o : Nat) (x : Ac) : Prop := w.cell? ⟨b, o, none⟩ = some (.bool x.d) ∧ w.cell? ⟨b, o + 1, none⟩ = some (.int .i64 x.r.o) ∧ w.cell? ⟨b, o + 2, none⟩ = some (.int .i64 x.r.s) ∧ w.cell? ⟨b, o + 3, none⟩ = some (.int .i64 x.r.w) ∧ w.cell? ⟨b, o + 4, none⟩ = some (.int .i64 x.r.c) ∧ w.cell? ⟨b, o + 5, none⟩ = some (.string x.r.t)
theorem AAt.below {w w' : World} {b o : Nat} {x : Ac} (h : AAt w b o x) (hb : Below w.heap.size w w') : AAt w' b o x := by
  obtain ⟨h0, h1, h2, h3, h4, h5⟩ := h
  have f : ∀ {a : Addr} {v : Value}, w.cell? a = some v → w'.cell? a = some v := fun {a v} hc => (hb.cell (World.block_lt_of_cell? w a hc)).trans hc
  exact ⟨f h0, f h1, f h2, f h3, f h4, f h5⟩
/-- A list of acts as it can be read. -/
def Al (w : World) (v : Value) (l : List Ac) : Prop :=
  ∃ ad cap, v = .slice ad l.length cap ∧ l.length ≤ cap ∧ (0 < l.length → ∃ b o, ad = some ⟨b, o, none⟩ ∧ ∀ k (hk : k < l.length), AAt w b (o + k * 6) l[k])
theorem Al.below {w w' : World} {v : Value} {l : List Ac} (h : Al w v l) (hb : Below w.heap.size w w') : Al w' v l := by
  obtain ⟨ad, cap, h1, h2, h3⟩ := h
  exact ⟨ad, cap, h1, h2, fun h0 => by obtain ⟨b, o, e, hs⟩ := h3 h0; exact ⟨b, o, e, fun k hk => (hs k hk).below hb⟩⟩
deriving instance Inhabited for Ac
theorem act_cells {H : Type} {enc : TypeId × Value → H} {W : World} {base : Nat} {spare : Nat → Bool} {held : Bool} {fuel : Nat} {cs : List Value} {x : DataW H × List MemPlace}
    (h : DataW.trod enc Tryd.prog W base spare held fuel 38 cs = some x) : ∃ a : Ac, cs = [.bool a.d, .int .i64 a.r.o, .int .i64 a.r.s, .int .i64 a.r.w, .int .i64 a.r.c, .string a.r.t] ∧ a.r.t.size ≤ maxLen ∧ okKy (a.r.o, a.r.s) := by
  obtain ⟨y0, y1, n, _, hl, h0, h1⟩ := trod_struct2 Tryd.underlying38 h
  have c6 : Tryd.prog.cellsOf 38 = 6 := by kernel_rfl
  have c5 : Tryd.prog.cellsOf 36 = 5 := by kernel_rfl
  have c4 : Tryd.prog.cellsOf 4 = 1 := by kernel_rfl
  rw [c6] at hl
  match cs, hl with
  | [u0, u1, u2, u3, u4, u5], _ =>
    simp only [c4, c5, List.drop_zero, List.take_succ_cons, List.take_zero] at h0 h1
    obtain ⟨a, e0, _⟩ := DataW.trod_bool Tryd.underlying4 h0
    obtain ⟨r, e1, hs⟩ := rec_in h1
    simp at e0 e1
    exact ⟨⟨a, r⟩, by simp [e0, e1], hs⟩
theorem open_acts {H : Type} {enc : TypeId × Value → H} {W : World} {r : Reach} {b0 base : Nat} {spare : Nat → Bool} {held : Bool} {v : Value} {d : DataW H} {p : List MemPlace}
    (hv : Value.okWide Tryd.prog W r b0 22 v) (h : DataW.Trod enc Tryd.prog W base spare held 22 v d p) : ∃ l : List Ac, Al W v l ∧ (∀ x ∈ l, x.r.t.size ≤ 9223372036854775807 ∧ okKy (x.r.o, x.r.s)) ∧ l.length ≤ maxLen := by
  obtain ⟨ad, len, cap, rfl⟩ := okWide_slice Tryd.underlying22 hv
  obtain ⟨fuel, hf⟩ := h
  simp only [Value.cells] at hf
  have c6 : Tryd.prog.cellsOf 38 = 6 := by kernel_rfl
  rcases open_slice Tryd.underlying22 hf with ⟨e, _⟩ | ⟨a, len', cap', m, n, D, Pl, e, hb, hl, hm, hmm, _, hi⟩
  · simp only [List.cons.injEq, and_true] at e
    rw [e]
    exact ⟨[], ⟨none, 0, rfl, Nat.le_refl _, fun h => by simp at h⟩, fun x hx => by simp at hx, Nat.zero_le _⟩
  · simp only [List.cons.injEq, and_true, Value.slice.injEq] at e
    obtain ⟨rfl, rfl, rfl⟩ := e
    have hlm : len ≤ m := by rw [hmm]; split <;> omega
    have each : ∀ i, i < len → ∃ q : Ac, (∀ j, j < 6 → W.cell? ((a.add (i * 6)).add j) = [.bool q.d, .int .i64 q.r.o, .int .i64 q.r.s, .int .i64 q.r.w, .int .i64 q.r.c, .string q.r.t][j]?) ∧ q.r.t.size ≤ maxLen ∧ okKy (q.r.o, q.r.s) := by
      intro i hi'
      obtain ⟨cs', h1, h2⟩ := hi i (by omega)
      rw [c6] at h1
      obtain ⟨_, _, h3⟩ := World.cells?_some h1
      obtain ⟨q, e, hq⟩ := act_cells h2
      exact ⟨q, fun j hj => by rw [h3 j hj, e], hq⟩
    obtain ⟨q, hq⟩ := choose_lt each
    refine ⟨(List.range len).map q, ⟨some a, cap, by simp, by simpa using hl, fun h0 => ?_⟩, fun x hx => ?_, by simp; omega⟩
    · have h0' : 0 < len := by simpa using h0
      have hsp : a.spot = none := by
        have h1 := (hq 0 h0').1 0 (by decide)
        obtain ⟨b, o, s⟩ := a
        cases s with
        | none => rfl
        | some s => simp [World.cell?, Addr.add] at h1; split at h1 <;> simp at h1
      refine ⟨a.block, a.off, by obtain ⟨b, o, s⟩ := a; simp only at hsp; subst hsp; rfl, fun k hk => ?_⟩
      have hk' : k < len := by simpa using hk
      have h1 := (hq k hk').1
      rw [R.add_off a _ hsp] at h1
      have h2 : ∀ j, j < 6 → W.cell? ⟨a.block, a.off + k * 6 + j, none⟩ = [.bool (q k).d, .int .i64 (q k).r.o, .int .i64 (q k).r.s, .int .i64 (q k).r.w, .int .i64 (q k).r.c, .string (q k).r.t][j]? := fun j hj => by
        rw [← h1 j hj, add_plain]
      simp only [List.getElem_map, List.getElem_range]
      exact ⟨h2 0 (by decide), h2 1 (by decide), h2 2 (by decide), h2 3 (by decide), h2 4 (by decide), h2 5 (by decide)⟩
    · obtain ⟨i, hi2, rfl⟩ := List.mem_map.1 hx
      have := (hq i (by simpa using hi2)).2
      unfold maxLen at this
      exact ⟨by omega, this.2⟩
end Go.Proofs.YtchkadifjbmmpaaDoor
