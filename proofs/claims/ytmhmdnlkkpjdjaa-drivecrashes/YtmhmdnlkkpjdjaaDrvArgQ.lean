/-
  What is handed in, opened: parts with their room.
-/
import Derived.Test.YtmhmdnlkkpjdjaaDrvArgs
import Derived.Test.YtmhmdnlkkpjdjaaDrvCrashesLaw
namespace Go.Proofs.Ytmhmdnlkkpjdjaa
open Go.RowKit Go.ChangeShapes Go.WideShapes Go.ChangeAt Go.Deep Go.Joins

theorem open_partsq {H : Type} {enc : TypeId × Value → H} {W : World} {r : Reach} {b0 base : Nat} {spare : Nat → Bool} {held : Bool} {v : Value} {d : DataW H} {p : List MemPlace}
    (hv : Value.okWide Try.prog W r b0 47 v) (h : DataW.Trod enc Try.prog W base spare held 47 v d p) : ∃ ls : List (List Int), Pq W v ls ∧ ∀ p ∈ ls, p.length ≤ maxLen := by
  obtain ⟨ad, len, cap, rfl⟩ := okWide_slice Try.underlying47 hv
  obtain ⟨fuel, hf⟩ := h
  simp only [Value.cells] at hf
  rcases open_slice1 Try.underlying47 (by kernel_rfl) hf with ⟨e, _⟩ | ⟨a, len', cap', m, n, V, D, Pls, e, hb, hl, hm, hmm, _, hi⟩
  · simp only [List.cons.injEq, and_true] at e
    rw [e]
    exact ⟨[], ⟨none, 0, rfl, fun h => by simp at h⟩, fun p hp => by simp at hp⟩
  · simp only [List.cons.injEq, and_true, Value.slice.injEq] at e
    obtain ⟨rfl, rfl, rfl⟩ := e
    have hlm : len ≤ m := by rw [hmm]; split <;> omega
    have each : ∀ i, i < len → ∃ q : List Int, W.cell? (a.add i) = some (V i) ∧ Bc W (V i) q ∧ q.length ≤ maxLen := by
      intro i hi'
      obtain ⟨h1, h2⟩ := hi i (by omega)
      obtain ⟨l, hl, ho, hm, hcap⟩ := open_cell h2
      obtain ⟨ad, cap, e, _⟩ := hl.form
      exact ⟨l, h1, ⟨hl, ad, cap, e, hcap ad _ cap e⟩, hm⟩
    obtain ⟨q, hq⟩ := choose_lt each
    refine ⟨(List.range len).map q, ⟨some a, cap, by simp, fun h0 => ?_⟩, fun p hp => ?_⟩
    case refine_2 =>
      obtain ⟨i, hi2, rfl⟩ := List.mem_map.1 hp
      exact (hq i (by simpa using hi2)).2.2
    have h0' : 0 < len := by simpa using h0
    have hsp := spot_none (hq 0 h0').1
    refine ⟨a.block, a.off, by obtain ⟨b, o, s⟩ := a; simp only at hsp; subst hsp; rfl, fun k hk => ?_⟩
    have hk' : k < len := by simpa using hk
    obtain ⟨h1, h2, _⟩ := hq k hk'
    rw [add_off a _ hsp] at h1
    simp only [List.getElem_map, List.getElem_range]
    exact ⟨V k, h1, h2⟩

end Go.Proofs.Ytmhmdnlkkpjdjaa
