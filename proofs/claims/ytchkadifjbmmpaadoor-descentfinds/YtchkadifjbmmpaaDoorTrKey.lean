/-
  Keys as keys of maps, for the tree.
-/
import Derived.Test.YtchkadifjbmmpaaDoorMpStep
import Derived.Maps.OwnSet
import Derived.Maps.Views
import Derived.DeepKeys4
import Derived.Sort.KeysCollected
namespace Go.Proofs.YtchkadifjbmmpaaDoor
open Go.RowKit Go.Maps Go.Sort
set_option maxRecDepth 100000

abbrev Ky := Int × Int
def inR (x : Int) : Prop := -9223372036854775808 ≤ x ∧ x ≤ 9223372036854775807
theorem laidOut : laidOutB Tryd.prog = true := by kernel_rfl
theorem rowKey : (32 : TypeId) < Tryd.prog.types.size := of_decide_eq_true (by kernel_rfl)
theorem wideKey : (match Tryd.prog.underlying 32 with | some (.array _ _) | some (.struct _) => true | _ => false) = true := by kernel_rfl
theorem cellsKey : Tryd.prog.cellsOf 32 = 2 := by kernel_rfl
theorem cellsInt : Tryd.prog.cellsOf 3 = 1 := by kernel_rfl
theorem keyTypeKey : Tryd.prog.keyType 32 = true := by kernel_rfl
def okKy (k : Ky) : Prop := inR k.1 ∧ inR k.2
theorem wf_in {x : Int} (h : inR x) : (Lit.int .i64 x).wf = true := by
  obtain ⟨h1, h2⟩ := h
  simp [Lit.wf, IntKind.min, IntKind.max, IntKind.signed, IntKind.bits]
  omega
def kyv (k : Ky) : Value := .agg #[.int .i64 k.1, .int .i64 k.2]
theorem kyv_lit (k : Ky) (h : okKy k) : ∃ l, keyOf Tryd.prog 32 (kyv k) = some l := by
  have h1 := wf_in h.1
  have h2 := wf_in h.2
  have hf : (kyv k).formed Tryd.prog 32 = true := by
    simp [kyv, Value.formed, Tryd.underlying32, cellsKey]
  unfold keyOf
  simp only [Tryd.underlying32, keyTypeKey, hf, Bool.and_self, if_true]
  have hs : ∃ n, Tryd.prog.types.size = n + 1 := Nat.exists_eq_succ_of_ne_zero (Nat.ne_of_gt (Nat.lt_of_le_of_lt (Nat.zero_le _) rowKey))
  obtain ⟨n, hn⟩ := hs
  rw [hn]
  simp [kyv, Program.keyLits, Tryd.underlying32, Tryd.underlying3, cellsKey, cellsInt, Value.cells, h1, h2]
theorem kyv_inj {a b : Ky} (h : kyv a = kyv b) : a = b := by
  simp only [kyv, Value.agg.injEq, Array.mk.injEq, List.cons.injEq, Value.int.injEq, true_and, and_true] at h
  exact Prod.ext h.1 h.2
theorem keyLaw : Go.WideMaps.KeyLaw Tryd.prog 32 := deep_law_laid laidOut (m := 2) (by omega) rowKey (by kernel_rfl) wideKey
theorem keyed : Keyed Tryd.prog 32 := Keyed.of_law keyLaw
end Go.Proofs.YtchkadifjbmmpaaDoor
