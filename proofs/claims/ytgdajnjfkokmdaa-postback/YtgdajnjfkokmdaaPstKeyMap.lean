/-
  Maps from Keys to nothing: which Keys are among them.
-/
import Derived.Test.YtgdajnjfkokmdaaPstRow
import Derived.Test.YtgdajnjfkokmdaaPstLaws
import Derived.Maps.OwnSet
import Derived.Maps.Views
import Derived.DeepKeys4
namespace Go.Proofs.Ytgdajnjfkokmdaa
open Go.RowKit Go.Lib Go.Maps
set_option maxRecDepth 100000

theorem laidOut : laidOutB Try.prog = true := by kernel_rfl
theorem rowKey : (34 : TypeId) < Try.prog.types.size := of_decide_eq_true (by kernel_rfl)
theorem wideKey : (match Try.prog.underlying 34 with | some (.array _ _) | some (.struct _) => true | _ => false) = true := by kernel_rfl
theorem lawKey : Keyed Try.prog 34 := Keyed.of_law (deep_law_laid laidOut (m := 2) (by omega) rowKey (by kernel_rfl) wideKey)
theorem cellsKey : Try.prog.cellsOf 34 = 2 := by kernel_rfl
theorem cellsInt : Try.prog.cellsOf 3 = 1 := by kernel_rfl
theorem keyTypeKey : Try.prog.keyType 34 = true := by kernel_rfl
def okKy (k : Ky) : Prop := inR k.1 ∧ inR k.2
theorem wf_in {x : Int} (h : inR x) : (Lit.int .i64 x).wf = true := by
  obtain ⟨h1, h2⟩ := h
  simp [Lit.wf, IntKind.min, IntKind.max, IntKind.signed, IntKind.bits]
  omega
theorem key_lit (k : Ky) (h : okKy k) : ∃ l, keyOf Try.prog 34 (.agg #[.int .i64 k.1, .int .i64 k.2]) = some l := by
  have h1 := wf_in h.1
  have h2 := wf_in h.2
  have hf : (Value.agg #[.int .i64 k.1, .int .i64 k.2]).formed Try.prog 34 = true := by
    simp [Value.formed, Try.underlying34, cellsKey]
  unfold keyOf
  simp only [Try.underlying34, keyTypeKey, hf, Bool.and_self, if_true]
  have hs : ∃ n, Try.prog.types.size = n + 1 := Nat.exists_eq_succ_of_ne_zero (Nat.ne_of_gt (Nat.lt_of_le_of_lt (Nat.zero_le _) rowKey))
  obtain ⟨n, hn⟩ := hs
  rw [hn]
  simp [Program.keyLits, Try.underlying34, Try.underlying3, cellsKey, cellsInt, Value.cells, h1, h2]
theorem agg_inj {a b : Ky} (h : Value.agg #[.int .i64 a.1, .int .i64 a.2] = .agg #[.int .i64 b.1, .int .i64 b.2]) : a = b := by
  simp only [Value.agg.injEq, Array.mk.injEq, List.cons.injEq, Value.int.injEq, true_and, and_true] at h
  exact Prod.ext h.1 h.2
/-- The map's keys are these. -/
def HasD {H : Type} (D : DataW H) (ks : List Ky) : Prop := IsMap D ∧ ∀ k l, keyOf Try.prog 34 (.agg #[.int .i64 k.1, .int .i64 k.2]) = some l → has D l = ks.contains k
theorem HasD.nil {H : Type} : HasD (.map [] : DataW H) [] := ⟨isMap_empty, fun k l _ => by
  simp [has]⟩
theorem HasD.put {H : Type} {D : DataW H} {ks : List Ky} (h : HasD D ks) (k : Ky) (l : Lit) (d : DataW H) (hk : keyOf Try.prog 34 (.agg #[.int .i64 k.1, .int .i64 k.2]) = some l) (hm : IsMap (D.put l d)) : HasD (D.put l d) (ks ++ [k]) := by
  refine ⟨hm, fun k2 l2 hk2 => ?_⟩
  by_cases e : l2 = l
  · subst e
    have : k2 = k := agg_inj (lawKey.inj hk2 hk)
    subst this
    rw [has_put_same h.1 (lawKey.key hk)]
    simp
  · rw [has_put_other e, h.2 k2 l2 hk2]
    have : k2 ≠ k := fun e2 => e (by rw [e2, hk] at hk2; exact (Option.some.inj hk2).symm)
    simp [this]
theorem make_run (n : Nat) (w : World) : (Instr.makeMap 63 (some (.int .i64 (n : Int)))).run Try.prog w = .ok (.map (some w.heap.size)) (w.alloc (.map #[] 0)) := by
  simp [Instr.makeMap, go_sem, run_underlying Try.underlying63]
theorem ownsMap_below {H : Type} {w w' : World} {b n : Nat} {D : DataW H} (h : w.ownsMap Try.prog 34 unitElem b n D) (hb : Below w.heap.size w w') : w'.ownsMap Try.prog 34 unitElem b n D := by
  obtain ⟨es, clock, h1, r⟩ := h
  exact ⟨es, clock, (hb.block b (Array.getElem?_eq_some_iff.1 h1).1).trans h1, r⟩
end Go.Proofs.Ytgdajnjfkokmdaa
