/-
  What is handed in, opened: bytes, parts.
-/
import Derived.Test.YtmhmdnlkkpjdjaaDrvAwake
import Derived.Test.YtmhmdnlkkpjdjaaLift
import Derived.Deep.SlicePairs
import Derived.Lib.SmallJoins
namespace Go.Proofs.Ytmhmdnlkkpjdjaa
open Go.RowKit Go.ChangeShapes Go.WideShapes Go.ChangeAt Go.Deep Go.Joins

theorem laidOut : laidOutB Try.prog = true := by kernel_rfl

theorem wf_u8 {n : Int} (h : (Lit.int .u8 n).wf = true) : 0 ≤ n ∧ n < 256 := by
  have e : IntKind.u8.min = 0 := by decide
  have e2 : IntKind.u8.max = 255 := by decide
  simp [Lit.wf, e, e2] at h
  omega
theorem wf_i64 {n : Int} (h : (Lit.int .i64 n).wf = true) : -9223372036854775808 ≤ n ∧ n ≤ 9223372036854775807 := by
  have e : IntKind.i64.min = -9223372036854775808 := by decide
  have e2 : IntKind.i64.max = 9223372036854775807 := by decide
  simp [Lit.wf, e, e2] at h
  omega
theorem wf_u64 {n : Int} (h : (Lit.int .u64 n).wf = true) : 0 ≤ n ∧ n < 18446744073709551616 := by
  have e : IntKind.u64.min = 0 := by decide
  have e2 : IntKind.u64.max = 18446744073709551615 := by decide
  simp [Lit.wf, e, e2] at h
  omega

theorem add_off (a : Addr) (k : Nat) (hs : a.spot = none) : a.add k = ⟨a.block, a.off + k, none⟩ := by
  obtain ⟨b, o, s⟩ := a
  simp only at hs
  subst hs
  exact add_plain ..
theorem spot_none {W : World} {a : Addr} {v : Value} (h : W.cell? (a.add 0) = some v) : a.spot = none := by
  obtain ⟨b, o, s⟩ := a
  cases s with
  | none => rfl
  | some s => simp [World.cell?, Addr.add] at h; split at h <;> simp at h

/-- Bytes, off their one cell. -/
theorem open_cell {H : Type} {enc : TypeId × Value → H} {W : World} {base : Nat} {spare : Nat → Bool} {held : Bool} {v : Value} {fuel : Nat} {x : DataW H × List MemPlace}
    (hf : DataW.trod enc Try.prog W base spare held fuel 22 [v] = some x) : ∃ l : List Int, Bl W v l ∧ OkB l ∧ l.length ≤ maxLen ∧ ∀ ad n cap, v = .slice ad n cap → n ≤ cap := by
  rcases open_slice1 Try.underlying22 (by kernel_rfl) hf with ⟨e, _⟩ | ⟨a, len', cap', m, n, V, D, Pl, e, hb, hl, hm, hmm, _, hi⟩
  · simp only [List.cons.injEq, and_true] at e
    refine ⟨[], .inl ⟨e, rfl⟩, fun x hx => by simp at hx, by simp, ?_⟩
    rintro ad n cap rfl
    simp only [Value.slice.injEq] at e
    omega
  · simp only [List.cons.injEq, and_true] at e
    subst e
    have hlm : len' ≤ m := by rw [hmm]; split <;> omega
    have each : ∀ i, i < len' → ∃ q : Int, W.cell? (a.add i) = some (.int .u8 q) ∧ (0 ≤ q ∧ q < 256) := by
      intro i hi'
      obtain ⟨h1, h2⟩ := hi i (by omega)
      obtain ⟨x, e0, _, hw⟩ := DataW.trod_int (t := 5) Try.underlying5 h2
      simp only [List.cons.injEq, and_true] at e0
      exact ⟨x, by rw [h1, e0], wf_u8 hw⟩
    obtain ⟨q, hq⟩ := choose_lt each
    refine ⟨(List.range len').map q, .inr ⟨a, cap', by simp, fun h0 => ?_⟩, fun x hx => ?_, by simp; omega, ?_⟩
    · have h0' : 0 < len' := by simpa using h0
      have hsp := spot_none (hq 0 h0').1
      refine ⟨a.block, a.off, by obtain ⟨b, o, s⟩ := a; simp only at hsp; subst hsp; rfl, fun k hk => ?_⟩
      have hk' : k < len' := by simpa using hk
      have h1 := (hq k hk').1
      rw [add_off a _ hsp] at h1
      simp only [List.getElem_map, List.getElem_range]
      exact h1
    · obtain ⟨i, hi2, rfl⟩ := List.mem_map.1 hx
      exact (hq i (by simpa using hi2)).2
    · intro ad n cap e
      simp only [Value.slice.injEq] at e
      obtain ⟨_, rfl, rfl⟩ := e
      exact hl

theorem open_bytes {H : Type} {enc : TypeId × Value → H} {W : World} {r : Reach} {b0 base : Nat} {spare : Nat → Bool} {held : Bool} {v : Value} {d : DataW H} {p : List MemPlace}
    (hv : Value.okWide Try.prog W r b0 22 v) (h : DataW.Trod enc Try.prog W base spare held 22 v d p) : ∃ l : List Int, Bl W v l ∧ OkB l ∧ l.length ≤ maxLen ∧ ∀ ad n cap, v = .slice ad n cap → n ≤ cap := by
  obtain ⟨ad, len, cap, rfl⟩ := okWide_slice Try.underlying22 hv
  obtain ⟨fuel, hf⟩ := h
  simp only [Value.cells] at hf
  exact open_cell hf

theorem open_parts {H : Type} {enc : TypeId × Value → H} {W : World} {r : Reach} {b0 base : Nat} {spare : Nat → Bool} {held : Bool} {v : Value} {d : DataW H} {p : List MemPlace}
    (hv : Value.okWide Try.prog W r b0 47 v) (h : DataW.Trod enc Try.prog W base spare held 47 v d p) : ∃ ls : List (List Int), Pl W v ls ∧ ls.length ≤ maxLen ∧ ∀ p ∈ ls, OkB p ∧ p.length ≤ maxLen := by
  obtain ⟨ad, len, cap, rfl⟩ := okWide_slice Try.underlying47 hv
  obtain ⟨fuel, hf⟩ := h
  simp only [Value.cells] at hf
  rcases open_slice1 Try.underlying47 (by kernel_rfl) hf with ⟨e, _⟩ | ⟨a, len', cap', m, n, V, D, Pls, e, hb, hl, hm, hmm, _, hi⟩
  · simp only [List.cons.injEq, and_true] at e
    rw [e]
    exact ⟨[], Pl.nil _, by simp, fun p hp => by simp at hp⟩
  · simp only [List.cons.injEq, and_true, Value.slice.injEq] at e
    obtain ⟨rfl, rfl, rfl⟩ := e
    have hlm : len ≤ m := by rw [hmm]; split <;> omega
    have each : ∀ i, i < len → ∃ q : List Int, W.cell? (a.add i) = some (V i) ∧ Bl W (V i) q ∧ OkB q ∧ q.length ≤ maxLen := by
      intro i hi'
      obtain ⟨h1, h2⟩ := hi i (by omega)
      obtain ⟨l, hl, ho, hm, _⟩ := open_cell h2
      exact ⟨l, h1, hl, ho, hm⟩
    obtain ⟨q, hq⟩ := choose_lt each
    refine ⟨(List.range len).map q, ⟨some a, cap, by simp, fun h0 => ?_⟩, by simp; omega, fun p hp => ?_⟩
    case refine_2 =>
      obtain ⟨i, hi2, rfl⟩ := List.mem_map.1 hp
      exact (hq i (by simpa using hi2)).2.2
    have h0' : 0 < len := by simpa using h0
    have hsp := spot_none (hq 0 h0').1
    refine ⟨a.block, a.off, by obtain ⟨b, o, s⟩ := a; simp only at hsp; subst hsp; rfl, fun k hk => ?_⟩
    have hk' : k < len := by simpa using hk
    obtain ⟨h1, h2, _⟩ := hq k hk'
    rw [add_off a _ hsp] at h1
    simp only [List.getElem_map, List.getElem_range]
    exact ⟨V k, h1, h2⟩

end Go.Proofs.Ytmhmdnlkkpjdjaa
