/-
  slices.Compact at Keys, by contract: of like neighbours one is left.
-/
import Derived.Test.YtgdajnjfkokmdaaPstSort
import Derived.Test.YtgdajnjfkokmdaaPstInto
import Derived.Lib.SliceRun
namespace Go.Proofs.Ytgdajnjfkokmdaa
open Go.RowKit Go.Lib
set_option maxRecDepth 100000

/-- What is left behind one that stands ahead. -/
def cF : Ky → List Ky → List Ky
  | _, [] => []
  | a, b :: r => if b = a then cF a r else b :: cF b r
def cmpct : List Ky → List Ky
  | [] => []
  | a :: r => a :: cF a r
theorem zero_cells (n : Nat) : (Builtin.zeroCells (#[.int .i64 0, .int .i64 0] : Array Value) n).toList = cs2 (List.replicate n (0, 0)) := by
  apply List.ext_getElem?
  intro j
  by_cases hj : j < n * 2
  · have hl : j < (cs2 (List.replicate n (0, 0))).length := by rw [cs2_len]; simpa using hj
    obtain ⟨c0, c1⟩ := cs2_at (List.replicate n (0, 0)) (j / 2) (by simp; omega)
    have e : (cs2 (List.replicate n (0, 0)))[j]? = some (.int .i64 0) := by
      rcases Nat.mod_two_eq_zero_or_one j with h | h
      · rw [show j = j / 2 * 2 by omega, c0]; simp
      · rw [show j = j / 2 * 2 + 1 by omega, c1]; simp
    rw [e]
    simp only [Builtin.zeroCells]
    rcases Nat.mod_two_eq_zero_or_one j with h | h <;> simp [hj, h]
  · rw [List.getElem?_eq_none (by simp [Builtin.zeroCells]; omega), List.getElem?_eq_none (by rw [cs2_len]; simp; omega)]
theorem run_clear_keys (w : World) (ty : TypeId) (b o n c : Nat) (hn : 0 < n)
    (hc : ∀ j, j < n * 2 → (w.cell? ⟨b, o + j, none⟩).isSome = true) (hf : ∀ j, j < n * 2 → w.frozen? ⟨b, o + j, none⟩ = false) :
    (Builtin.clear_ #[25] ty #[.slice (some ⟨b, o, none⟩) n c]).run Try.prog w = .ok (.tuple #[]) (w.setCells b o (cs2 (List.replicate n (0, 0)))) := by
  have hl : (cs2 (List.replicate n (0, 0))).length = n * 2 := by rw [cs2_len]; simp
  have hst := run_storeCells_cells (P := Try.prog) b o (cs2 (List.replicate n (0, 0))) 0 w (by rw [hl]; simpa using hc) (by rw [hl]; simpa using hf) (fun v hv => cs2_one _ v hv)
  simp only [Nat.add_zero] at hst
  have hv : ∀ w, (zeroValue 34).run Try.prog w = .ok (.agg #[.int .i64 0, .int .i64 0]) w := Try.zeroValue34
  obtain ⟨m, rfl⟩ : ∃ m, n = m + 1 := ⟨n - 1, by omega⟩
  have hz := zero_cells (m + 1)
  simp [Builtin.clear_, run_underlying Try.underlying25, hv, Value.cells, hz, hst]
theorem krow_cells {B g n cap : Nat} : ∀ (vs : List Value) (o : Nat) (w : World) (xs : List Value), w.ownsRow B 34 2 (.slice (some ⟨g, 0, none⟩) n cap) n xs →
    ∃ xs', (w.setCells g o vs).ownsRow B 34 2 (.slice (some ⟨g, 0, none⟩) n cap) n xs' ∧ (∀ j, j < o → xs'[j]? = xs[j]?) ∧ w.grownBy (w.setCells g o vs) (some g)
  | [], o, w, xs, h => ⟨xs, h, fun _ _ => rfl, grown_refl _ _⟩
  | v :: r, o, w, xs, h => by
    obtain ⟨h1, h2⟩ := World.ownsRow.stored h o v
    obtain ⟨xs', h3, h4, h5⟩ := krow_cells r (o + 1) _ _ h1
    exact ⟨xs', h3, fun j hj => by rw [h4 j (by omega), List.getElem?_set_ne (by omega)], grown_trans h2 h5⟩
theorem krow_take {w : World} {B g n cap k : Nat} {xs : List Value} (h : w.ownsRow B 34 2 (.slice (some ⟨g, 0, none⟩) n cap) n xs) (hk : k ≤ n) : w.ownsRow B 34 2 (.slice (some ⟨g, 0, none⟩) k cap) k (xs.take (k * 2)) := by
  obtain ⟨h0, h | ⟨g', cap', cur, e, hB, hh, h1, h2, h3, h4⟩⟩ := h
  · cases h.1
  · simp only [Value.slice.injEq, Option.some.injEq, Addr.mk.injEq, and_true, true_and] at e
    obtain ⟨rfl, rfl⟩ := e
    refine ⟨by rw [List.length_take, h0]; omega, .inr ⟨g, cap, cur, rfl, hB, hh, by omega, h2, h3, ?_⟩⟩
    rw [← h4, List.take_take]
    congr 1
    omega
theorem cs2_take (l : List Ky) (k : Nat) : (cs2 l).take (k * 2) = cs2 (l.take k) := by
  induction l generalizing k with
  | nil => simp [cs2]
  | cons a r ih =>
    cases k with
    | zero => simp [cs2]
    | succ k =>
      rw [show (k + 1) * 2 = k * 2 + 1 + 1 by omega]
      simp [cs2, ih]
theorem cs2_set (l : List Ky) (k : Nat) (x : Ky) (hk : k < l.length) : ((cs2 l).set (k * 2) (.int .i64 x.1)).set (k * 2 + 1) (.int .i64 x.2) = cs2 (l.set k x) := by
  induction l generalizing k with
  | nil => simp at hk
  | cons a r ih =>
    cases k with
    | zero => simp [cs2]
    | succ k =>
      rw [show (k + 1) * 2 = k * 2 + 1 + 1 by omega, show k * 2 + 1 + 1 + 1 = k * 2 + 1 + 1 + 1 from rfl]
      simp only [cs2, List.set_cons_succ]
      rw [ih k (by simpa using hk)]
theorem krow_set {w : World} {B g cap : Nat} {l : List Ky} (h : KRow w B (.slice (some ⟨g, 0, none⟩) l.length cap) l) (k : Nat) (x : Ky) (hk : k < l.length) :
    KRow ((w.setCell ⟨g, k * 2, none⟩ (.int .i64 x.1)).setCell ⟨g, k * 2 + 1, none⟩ (.int .i64 x.2)) B (.slice (some ⟨g, 0, none⟩) l.length cap) (l.set k x) ∧ w.grownBy ((w.setCell ⟨g, k * 2, none⟩ (.int .i64 x.1)).setCell ⟨g, k * 2 + 1, none⟩ (.int .i64 x.2)) (some g) := by
  obtain ⟨h1, h2⟩ := World.ownsRow.stored h (k * 2) (.int .i64 x.1)
  obtain ⟨h3, h4⟩ := World.ownsRow.stored h1 (k * 2 + 1) (.int .i64 x.2)
  refine ⟨?_, grown_trans h2 h4⟩
  unfold KRow
  rw [List.length_set, ← cs2_set l k x hk]
  exact h3
theorem cF_drop {l : List Ky} {i : Nat} (hi : i + 1 < l.length) : cF l[i] (l.drop (i + 1)) = if l[i + 1] = l[i] then cF l[i] (l.drop (i + 1 + 1)) else l[i + 1] :: cF l[i + 1] (l.drop (i + 1 + 1)) := by
  rw [List.drop_eq_getElem_cons hi, cF]
theorem ksliced (g n cap k : Nat) (hk : k < n) (hc : n ≤ cap) (W : World) : (Instr.sliceAt 25 (.slice (some ⟨g, 0, none⟩) n cap) (some (.int .i64 (k : Int))) none none).run Try.prog W = .ok (.slice (some ⟨g, k * 2, none⟩) (n - k) (cap - k)) W := by
  rw [kslice_run (some ⟨g, 0, none⟩) n cap (some (.int .i64 (k : Int))) none k n W (by simp [Instr.sliceBounds, run_sliceBound_if, show k ≤ n by omega])]
  have h0 : ¬ cap = k := by omega
  simp only [sliced, h0, if_false, Option.map_some]
  rw [Go.WideShapes.add_plain, Nat.zero_add]
theorem ksliced_to (g n cap k : Nat) (hk : k ≤ cap) (W : World) : (Instr.sliceAt 25 (.slice (some ⟨g, 0, none⟩) n cap) none (some (.int .i64 (k : Int))) none).run Try.prog W = .ok (.slice (some ⟨g, 0, none⟩) k cap) W := by
  rw [kslice_run (some ⟨g, 0, none⟩) n cap none (some (.int .i64 (k : Int))) 0 k W (by simp [Instr.sliceBounds, run_sliceBound_if, hk])]
  simp only [sliced, Option.map_some]
  rw [Go.WideShapes.add_plain]
  by_cases h : cap = 0 <;> simp [h]
end Go.Proofs.Ytgdajnjfkokmdaa
