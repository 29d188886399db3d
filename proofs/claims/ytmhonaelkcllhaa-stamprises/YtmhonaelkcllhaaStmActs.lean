/-
  A list of acts that is handed in, opened.
-/
import Derived.Test.YtmhonaelkcllhaaStmScriptLaw
import Derived.Test.YtmhonaelkcllhaaStmArgs
namespace Go.Proofs.Ytmhonaelkcllhaa
open Go.RowKit Go.ChangeShapes Go.WideShapes Go.ChangeAt Go.Deep Go.Joins

theorem cells23 : Try.prog.cellsOf 23 = 2 := by kernel_rfl
theorem cells39 : Try.prog.cellsOf 39 = 4 := by kernel_rfl
theorem cells3 : Try.prog.cellsOf 3 = 1 := by kernel_rfl
theorem cells4 : Try.prog.cellsOf 4 = 1 := by kernel_rfl

instance : Inhabited Ac := ⟨⟨false, 0, 0, 0⟩⟩

/-- The four cells of an act. -/
theorem act_cells {H : Type} {enc : TypeId × Value → H} {W : World} {base : Nat} {spare : Nat → Bool} {held : Bool} {fuel : Nat} {cs : List Value} {x : DataW H × List MemPlace}
    (h : DataW.trod enc Try.prog W base spare held fuel 39 cs = some x) : ∃ (sb : Bool) (s t n : Int), cs = [.bool sb, .int .i64 s, .int .i64 t, .int .i64 n] := by
  obtain ⟨xs, n, _, _, hl, hxl, hf⟩ := DataW.trod_struct Try.underlying39 h
  rw [cells39] at hl
  match cs, hl, xs, hxl with
  | [c0, c1, c2, c3], _, [y0, y1, y2], _ =>
    have g0 : DataW.trod enc Try.prog W base spare held n 4 (([c0, c1, c2, c3].drop 0).take (Try.prog.cellsOf 4)) = some y0 := hf 0 _ rfl
    have g1 : DataW.trod enc Try.prog W base spare held n 23 (([c0, c1, c2, c3].drop 1).take (Try.prog.cellsOf 23)) = some y1 := hf 1 _ rfl
    have g2 : DataW.trod enc Try.prog W base spare held n 3 (([c0, c1, c2, c3].drop 3).take (Try.prog.cellsOf 3)) = some y2 := hf 2 _ rfl
    rw [cells4] at g0
    rw [cells23] at g1
    rw [cells3] at g2
    obtain ⟨sb, e0, _⟩ := DataW.trod_bool Try.underlying4 g0
    obtain ⟨n', e2, _, _⟩ := DataW.trod_int Try.underlying3 g2
    obtain ⟨zs, m, _, _, _, hzl, hz⟩ := DataW.trod_struct Try.underlying23 g1
    match zs, hzl with
    | [z0, z1], _ =>
      have k0 : DataW.trod enc Try.prog W base spare held m 3 (([c1, c2].drop 0).take (Try.prog.cellsOf 3)) = some z0 := hz 0 _ rfl
      have k1 : DataW.trod enc Try.prog W base spare held m 3 (([c1, c2].drop 1).take (Try.prog.cellsOf 3)) = some z1 := hz 1 _ rfl
      rw [cells3] at k0 k1
      obtain ⟨s, e1, _, _⟩ := DataW.trod_int Try.underlying3 k0
      obtain ⟨t, e3, _, _⟩ := DataW.trod_int Try.underlying3 k1
      simp at e0 e1 e2 e3
      exact ⟨sb, s, t, n', by rw [e0, e1, e2, e3]⟩

theorem open_acts {H : Type} {enc : TypeId × Value → H} {W : World} {r : Reach} {b0 base : Nat} {spare : Nat → Bool} {held : Bool} {v : Value} {d : DataW H} {p : List MemPlace}
    (hv : Value.okWide Try.prog W r b0 33 v) (h : DataW.Trod enc Try.prog W base spare held 33 v d p) : ∃ l : List Ac, Al W v l := by
  obtain ⟨ad, len, cap, rfl⟩ := okWide_slice Try.underlying33 hv
  obtain ⟨fuel, hf⟩ := h
  simp only [Value.cells] at hf
  rcases open_slice Try.underlying33 hf with ⟨e, _⟩ | ⟨a, len', cap', m, n, D, Pl, e, hb, hl, hm, hmm, _, hi⟩
  · simp only [List.cons.injEq, and_true, Value.slice.injEq] at e
    obtain ⟨rfl, rfl, rfl⟩ := e
    exact ⟨[], none, 0, rfl, fun h => by simp at h⟩
  · simp only [List.cons.injEq, and_true, Value.slice.injEq] at e
    obtain ⟨rfl, rfl, rfl⟩ := e
    have hlm : len ≤ m := by rw [hmm]; split <;> omega
    have each : ∀ i, i < len → ∃ q : Ac, W.cell? (a.add (i * 4)) = some (.bool q.see) ∧ W.cell? (a.add (i * 4 + 1)) = some (.int .i64 q.s) ∧ W.cell? (a.add (i * 4 + 2)) = some (.int .i64 q.t) ∧ W.cell? (a.add (i * 4 + 3)) = some (.int .i64 q.n) := by
      intro i hi'
      obtain ⟨cs', h1, h2⟩ := hi i (by omega)
      rw [cells39] at h1
      obtain ⟨sb, s, t, n, rfl⟩ := act_cells h2
      obtain ⟨_, _, hat⟩ := World.cells?_some h1
      have g0 := hat 0 (by omega)
      have g1 := hat 1 (by omega)
      have g2 := hat 2 (by omega)
      have g3 := hat 3 (by omega)
      rw [add_add] at g0 g1 g2 g3
      exact ⟨⟨sb, s, t, n⟩, g0, g1, g2, g3⟩
    obtain ⟨q, hq⟩ := choose_lt each
    refine ⟨(List.range len).map q, some a, cap, by simp, fun h0 => ?_⟩
    have h0' : 0 < len := by simpa using h0
    have hsp : a.spot = none := by
      have := (hq 0 h0').1
      obtain ⟨b, o, s⟩ := a
      cases s with
      | none => rfl
      | some s => simp [World.cell?, Addr.add] at this; split at this <;> simp at this
    refine ⟨a.block, a.off, by obtain ⟨b, o, s⟩ := a; simp only at hsp; subst hsp; rfl, fun k hk => ?_⟩
    have hk' : k < len := by simpa using hk
    have h1 := hq k hk'
    rw [add_off a _ hsp, add_off a _ hsp, add_off a _ hsp, add_off a _ hsp] at h1
    simp only [List.getElem_map, List.getElem_range]
    exact h1

end Go.Proofs.Ytmhonaelkcllhaa
