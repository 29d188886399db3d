/-
  Blocks of memory that hold a record, or a head; what stays of them.
-/
import Derived.Laws.StructEq
import Derived.Deep.AppendLies
import Derived.Deep.RegionHeld3
import Derived.Deep.DeepCutAuto
import Derived.Deep.OwnRows
import Derived.IntWalk
import Derived.Lib.SliceRun
import Derived.Test.YtcnpckdchjjeoaaDoorMRecLeaf
namespace Go.Proofs.YtcnpckdchjjeoaaDoor
open Go.RowKit Go.Lib
set_option maxRecDepth 100000
/-- A record: origin, number, wall, count, text. -/
structure Rc where
  o : Int
  s : Int
  w : Int
  c : Int
  t : ByteArray

theorem Bx.five {T : TypeId} {w : World} {g : Nat} {a b c d e : Value} (h : Bx T w g #[a, b, c, d, e]) :
    w.cell? ⟨g, 0, none⟩ = some a ∧ w.cell? ⟨g, 1, none⟩ = some b ∧ w.cell? ⟨g, 2, none⟩ = some c ∧ w.cell? ⟨g, 3, none⟩ = some d ∧ w.cell? ⟨g, 4, none⟩ = some e :=
  ⟨h.cell 0, h.cell 1, h.cell 2, h.cell 3, h.cell 4⟩
/-- The record r stands boxed in block g. -/
def BxR (w : World) (g : Nat) (r : Rc) : Prop := Bx 28 w g #[.int .i64 r.o, .int .i64 r.s, .int .i64 r.w, .int .i64 r.c, .string r.t]

def keyB (o s : Int) : Bool := decide (0 ≤ o) && (decide (o < 8) && (decide (1 ≤ s) && decide (s ≤ 1023)))
def mayR (r : Rc) : Bool := keyB r.o r.s && (smayB r.w r.c && tmayB r.t.data.toList)
def sameR (a b : Rc) : Bool := (a.o == b.o && a.s == b.s) && ((a.w == b.w && a.c == b.c) && a.t.toList == b.t.toList)
/-! What '==' says of keys, stamps and records. -/
theorem eq_pair (T : TypeId) (hS : Tryd.prog.underlying T = some (.struct (Tryd.prog.fieldsOf T))) (hp : Tryd.prog.stoodInHeld T = false) (a b c d : Int) (w : World)
    (hf : (Tryd.prog.fieldsOf T).toList = (Tryd.prog.fieldsOf 24).toList ∨ (Tryd.prog.fieldsOf T).toList = (Tryd.prog.fieldsOf 26).toList) :
    (Op.equalIn 10000 T (.agg #[.int .i64 a, .int .i64 b]) (.agg #[.int .i64 c, .int .i64 d])).run Tryd.prog w = .ok (a == c && b == d) w := by
  have u3 := Tryd.underlying3
  have a3 := Tryd.isAgg3
  have z3 := Tryd.sizeOf3
  rw [show (10000 : Nat) = 9999 + 1 from rfl, run_equalIn_struct w 9999 T _ _ hS hp]
  rcases hf with hf | hf <;> rw [hf] <;> simp only [Program.fieldsOf, Tryd.underlying24, Tryd.underlying26] <;> go_simp <;>
    (by_cases h1 : a = c <;> by_cases h2 : b = d <;> simp [h1, h2])
theorem eq_key (a b c d : Int) (w : World) : (Op.equalIn 10000 24 (.agg #[.int .i64 a, .int .i64 b]) (.agg #[.int .i64 c, .int .i64 d])).run Tryd.prog w = .ok (a == c && b == d) w :=
  eq_pair _ (by kernel_rfl) (by kernel_rfl) a b c d w (.inl rfl)
theorem eq_stamp (a b c d : Int) (w : World) : (Op.equalIn 10000 26 (.agg #[.int .i64 a, .int .i64 b]) (.agg #[.int .i64 c, .int .i64 d])).run Tryd.prog w = .ok (a == c && b == d) w :=
  eq_pair _ (by kernel_rfl) (by kernel_rfl) a b c d w (.inr rfl)
theorem eq_rec (x y : Rc) (w : World) : (Op.equalIn 10000 28 (.agg #[.int .i64 x.o, .int .i64 x.s, .int .i64 x.w, .int .i64 x.c, .string x.t]) (.agg #[.int .i64 y.o, .int .i64 y.s, .int .i64 y.w, .int .i64 y.c, .string y.t])).run Tryd.prog w = .ok (sameR x y) w := by
  have u9 := Tryd.underlying9
  have a9 := Tryd.isAgg9
  have z9 := Tryd.sizeOf9
  have aK := Tryd.isAgg24
  have zK := Tryd.sizeOf24
  have aS := Tryd.isAgg26
  have zS := Tryd.sizeOf26
  have u3 := Tryd.underlying3
  have a3 := Tryd.isAgg3
  have z3 := Tryd.sizeOf3
  unfold sameR
  rw [show (10000 : Nat) = 9999 + 1 from rfl, run_equalIn_struct w 9999 _ _ _ (by kernel_rfl) (by kernel_rfl)]
  simp only [Program.fieldsOf, Tryd.underlying28]
  go_simp
  by_cases h1 : x.o = y.o <;> by_cases h2 : x.s = y.s <;> by_cases h3 : x.w = y.w <;> by_cases h4 : x.c = y.c <;> by_cases h5 : x.t.toList = y.t.toList <;> simp [h1, h2, h3, h4, h5]
end Go.Proofs.YtcnpckdchjjeoaaDoor
