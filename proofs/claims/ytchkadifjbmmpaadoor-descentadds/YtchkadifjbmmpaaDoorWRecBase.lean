/-
  Blocks of memory that hold a record, or a head; what stays of them.
-/
import Derived.Test.YtchkadifjbmmpaaDoorWRecLeaf
import Derived.Laws.StructEq
import Derived.Deep.AppendLies
import Derived.Deep.RegionHeld3
import Derived.Deep.DeepCutAuto
import Derived.Deep.OwnRows
import Derived.IntWalk
import Derived.Lib.SliceRun
namespace Go.Proofs.YtchkadifjbmmpaaDoor.R
open Go.RowKit Go.Lib
set_option maxRecDepth 100000

/-- A record: origin, number, wall, count, text. -/
structure Rc where
  o : Int
  s : Int
  w : Int
  c : Int
  t : ByteArray

theorem grown_refl (w : World) (r : Option Nat) : w.grownBy w r := ⟨rfl, rfl, rfl, Nat.le_refl _, fun _ _ _ => rfl⟩
theorem grown_trans {a b c : World} {r : Option Nat} (h : a.grownBy b r) (k : b.grownBy c r) : a.grownBy c r :=
  ⟨k.os.trans h.os, k.tape.trans h.tape, k.output.trans h.output, Nat.le_trans h.size k.size, fun i hi hne => (k.block i (Nat.lt_of_lt_of_le hi h.size) hne).trans (h.block i hi hne)⟩
theorem grown_below {a b : World} (h : Below a.heap.size a b) (r : Option Nat) : a.grownBy b r := ⟨h.os, h.tape, h.output, h.size, fun i hi _ => h.block i hi⟩
theorem below_of_grown {a b : World} {r : Option Nat} {B : Nat} (h : a.grownBy b r) (hB : B ≤ a.heap.size) (hg : ∀ g, r = some g → B ≤ g) : Below B a b :=
  ⟨h.os, h.tape, h.output, h.size, fun i hi => h.block i (by omega) (by intro e; have := hg i e.symm; omega)⟩
theorem grown_cell {a b : World} {r : Option Nat} (h : a.grownBy b r) {p : Addr} (hp : p.block < a.heap.size) (hne : some p.block ≠ r) : b.cell? p = a.cell? p :=
  World.cell?_of_block (h.block p.block hp hne)

/-- Block g holds just these cells. -/
def Bx (T : TypeId) (w : World) (g : Nat) (cs : Array Value) : Prop := w.heap[g]? = some (.cells cs T (0, 0))
theorem Bx.lt {T : TypeId} {w : World} {g : Nat} {cs : Array Value} (h : Bx T w g cs) : g < w.heap.size := (Array.getElem?_eq_some_iff.1 h).1
theorem Bx.new (T : TypeId) (w : World) (cs : Array Value) : Bx T (w.alloc (.cells cs T (0, 0))) w.heap.size cs := heap_alloc_new w _
theorem Bx.cell {T : TypeId} {w : World} {g : Nat} {cs : Array Value} (h : Bx T w g cs) (k : Nat) : w.cell? ⟨g, k, none⟩ = cs[k]? := cell_of_row w g k _ _ _ h
theorem Bx.soft {T : TypeId} {w : World} {g : Nat} {cs : Array Value} (h : Bx T w g cs) (k : Nat) : w.frozen? ⟨g, k, none⟩ = false := by
  unfold Bx at h
  simp [World.frozen?, h]
theorem Bx.below {T : TypeId} {w w' : World} {g : Nat} {cs : Array Value} (h : Bx T w g cs) (hb : Below w.heap.size w w') : Bx T w' g cs := (hb.block g h.lt).trans h
theorem Bx.far {T : TypeId} {w w' : World} {g : Nat} {r : Option Nat} {cs : Array Value} (h : Bx T w g cs) (hg : w.grownBy w' r) (hne : some g ≠ r) : Bx T w' g cs := (hg.block g h.lt hne).trans h
theorem Bx.alloc {T : TypeId} {w : World} {g : Nat} {cs : Array Value} (h : Bx T w g cs) (o : Obj) : Bx T (w.alloc o) g cs := (Below.heap_alloc w o g h.lt).trans h
theorem Bx.set {T : TypeId} {w : World} {g : Nat} {cs : Array Value} (h : Bx T w g cs) (k : Nat) (u : Value) : Bx T (w.setCell ⟨g, k, none⟩ u) g (cs.setIfInBounds k u) := by
  unfold Bx at h ⊢
  simp [World.setCell, Array.getElem?_modify, h]
theorem Bx.setFar {T : TypeId} {w : World} {g : Nat} {cs : Array Value} (h : Bx T w g cs) {p : Addr} (hp : g ≠ p.block) (u : Value) : Bx T (w.setCell p u) g cs := (Below.heap_setCell w p u g hp).trans h
theorem Bx.five {T : TypeId} {w : World} {g : Nat} {a b c d e : Value} (h : Bx T w g #[a, b, c, d, e]) :
    w.cell? ⟨g, 0, none⟩ = some a ∧ w.cell? ⟨g, 1, none⟩ = some b ∧ w.cell? ⟨g, 2, none⟩ = some c ∧ w.cell? ⟨g, 3, none⟩ = some d ∧ w.cell? ⟨g, 4, none⟩ = some e :=
  ⟨h.cell 0, h.cell 1, h.cell 2, h.cell 3, h.cell 4⟩
/-- The record r stands boxed in block g. -/
def BxR (w : World) (g : Nat) (r : Rc) : Prop := Bx 36 w g #[.int .i64 r.o, .int .i64 r.s, .int .i64 r.w, .int .i64 r.c, .string r.t]

def keyB (o s : Int) : Bool := decide (0 ≤ o) && (decide (o < 8) && (decide (1 ≤ s) && decide (s ≤ 1023)))
def mayR (r : Rc) : Bool := keyB r.o r.s && (smayB r.w r.c && tmayB r.t.data.toList)
def befB (o s p q : Int) : Bool := decide (o < p) || ((o == p) && decide (s < q))
def sameR (a b : Rc) : Bool := (a.o == b.o && a.s == b.s) && ((a.w == b.w && a.c == b.c) && a.t.toList == b.t.toList)
def lessR (a b : Rc) : Bool := slessB a.w a.c b.w b.c || ((a.w == b.w && a.c == b.c) && befB a.o a.s b.o b.s)

/-! What '==' says of keys, stamps and records. -/
theorem eq_pair (T : TypeId) (hS : Tryd.prog.underlying T = some (.struct (Tryd.prog.fieldsOf T))) (hp : Tryd.prog.stoodInHeld T = false) (a b c d : Int) (w : World)
    (hf : (Tryd.prog.fieldsOf T).toList = (Tryd.prog.fieldsOf 32).toList ∨ (Tryd.prog.fieldsOf T).toList = (Tryd.prog.fieldsOf 34).toList) :
    (Op.equalIn 10000 T (.agg #[.int .i64 a, .int .i64 b]) (.agg #[.int .i64 c, .int .i64 d])).run Tryd.prog w = .ok (a == c && b == d) w := by
  have u3 := Tryd.underlying3
  have a3 := Tryd.isAgg3
  have z3 := Tryd.sizeOf3
  rw [show (10000 : Nat) = 9999 + 1 from rfl, run_equalIn_struct w 9999 T _ _ hS hp]
  rcases hf with hf | hf <;> rw [hf] <;> simp only [Program.fieldsOf, Tryd.underlying32, Tryd.underlying34] <;> go_simp <;>
    (by_cases h1 : a = c <;> by_cases h2 : b = d <;> simp [h1, h2])
theorem eq_key (a b c d : Int) (w : World) : (Op.equalIn 10000 32 (.agg #[.int .i64 a, .int .i64 b]) (.agg #[.int .i64 c, .int .i64 d])).run Tryd.prog w = .ok (a == c && b == d) w :=
  eq_pair _ (by kernel_rfl) (by kernel_rfl) a b c d w (.inl rfl)
theorem eq_stamp (a b c d : Int) (w : World) : (Op.equalIn 10000 34 (.agg #[.int .i64 a, .int .i64 b]) (.agg #[.int .i64 c, .int .i64 d])).run Tryd.prog w = .ok (a == c && b == d) w :=
  eq_pair _ (by kernel_rfl) (by kernel_rfl) a b c d w (.inr rfl)
theorem eq_rec (x y : Rc) (w : World) : (Op.equalIn 10000 36 (.agg #[.int .i64 x.o, .int .i64 x.s, .int .i64 x.w, .int .i64 x.c, .string x.t]) (.agg #[.int .i64 y.o, .int .i64 y.s, .int .i64 y.w, .int .i64 y.c, .string y.t])).run Tryd.prog w = .ok (sameR x y) w := by
  have u9 := Tryd.underlying9
  have a9 := Tryd.isAgg9
  have z9 := Tryd.sizeOf9
  have aK := Tryd.isAgg32
  have zK := Tryd.sizeOf32
  have aS := Tryd.isAgg34
  have zS := Tryd.sizeOf34
  have u3 := Tryd.underlying3
  have a3 := Tryd.isAgg3
  have z3 := Tryd.sizeOf3
  unfold sameR
  rw [show (10000 : Nat) = 9999 + 1 from rfl, run_equalIn_struct w 9999 _ _ _ (by kernel_rfl) (by kernel_rfl)]
  simp only [Program.fieldsOf, Tryd.underlying36]
  go_simp
  by_cases h1 : x.o = y.o <;> by_cases h2 : x.s = y.s <;> by_cases h3 : x.w = y.w <;> by_cases h4 : x.c = y.c <;> by_cases h5 : x.t.toList = y.t.toList <;> simp [h1, h2, h3, h4, h5]
end Go.Proofs.YtchkadifjbmmpaaDoor.R
