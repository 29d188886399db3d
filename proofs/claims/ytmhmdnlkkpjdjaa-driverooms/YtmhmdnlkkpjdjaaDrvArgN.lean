/-
  What is handed in, opened: numbers.
-/
import Derived.Test.YtmhmdnlkkpjdjaaDrvArgs
import Derived.Test.YtmhmdnlkkpjdjaaDrvNums
namespace Go.Proofs.Ytmhmdnlkkpjdjaa
open Go.RowKit Go.ChangeShapes Go.WideShapes Go.ChangeAt Go.Deep Go.Joins

/-- A list of numbers, off its one cell. -/
theorem open_cellN {H : Type} {enc : TypeId × Value → H} {W : World} {base : Nat} {spare : Nat → Bool} {held : Bool} {v : Value} {fuel : Nat} {x : DataW H × List MemPlace}
    (hf : DataW.trod enc Try.prog W base spare held fuel 42 [v] = some x) : ∃ l : List Int, Nl W v l := by
  rcases open_slice1 Try.underlying42 (by kernel_rfl) hf with ⟨e, _⟩ | ⟨a, len', cap', m, n, V, D, Pl, e, hb, hl, hm, hmm, _, hi⟩
  · simp only [List.cons.injEq, and_true] at e
    exact ⟨[], .inl ⟨e, rfl⟩⟩
  · simp only [List.cons.injEq, and_true] at e
    subst e
    have hlm : len' ≤ m := by rw [hmm]; split <;> omega
    have each : ∀ i, i < len' → ∃ q : Int, W.cell? (a.add i) = some (.int .i64 q) := by
      intro i hi'
      obtain ⟨h1, h2⟩ := hi i (by omega)
      obtain ⟨x, e0, _, _⟩ := DataW.trod_int (t := 3) Try.underlying3 h2
      simp only [List.cons.injEq, and_true] at e0
      exact ⟨x, by rw [h1, e0]⟩
    obtain ⟨q, hq⟩ := choose_lt each
    refine ⟨(List.range len').map q, .inr ⟨a, cap', by simp, fun h0 => ?_⟩⟩
    have h0' : 0 < len' := by simpa using h0
    have hsp := spot_none (hq 0 h0')
    refine ⟨a.block, a.off, by obtain ⟨b, o, s⟩ := a; simp only at hsp; subst hsp; rfl, fun k hk => ?_⟩
    have hk' : k < len' := by simpa using hk
    have h1 := hq k hk'
    rw [add_off a _ hsp] at h1
    simp only [List.getElem_map, List.getElem_range]
    exact h1

theorem open_nums {H : Type} {enc : TypeId × Value → H} {W : World} {r : Reach} {b0 base : Nat} {spare : Nat → Bool} {held : Bool} {v : Value} {d : DataW H} {p : List MemPlace}
    (hv : Value.okWide Try.prog W r b0 42 v) (h : DataW.Trod enc Try.prog W base spare held 42 v d p) : ∃ l : List Int, Nl W v l := by
  obtain ⟨ad, len, cap, rfl⟩ := okWide_slice Try.underlying42 hv
  obtain ⟨fuel, hf⟩ := h
  simp only [Value.cells] at hf
  exact open_cellN hf

end Go.Proofs.Ytmhmdnlkkpjdjaa
