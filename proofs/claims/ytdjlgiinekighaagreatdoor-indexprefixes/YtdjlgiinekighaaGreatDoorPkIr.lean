/-
  The two tables of unicode/utf8, in place; utf8.ValidString by contract.
-/
import Derived.Test.YtdjlgiinekighaaGreatDoorShelf
import Derived.Test.YtdjlgiinekighaaGreatDoorProg
import Derived.Test.YtdjlgiinekighaaGreatDoorChecked
import Derived.WalkKit
import Derived.WalkMore
import Derived.BigCall
import Derived.Below
import Derived.Lib.Hide
import Derived.Lib.ValidU
import Derived.Deep.QuietTactic
import Derived.BigQuiet
import Derived.Shelf.Unicode.ValidAny
import Derived.OwnWalk
import Derived.Laws.OwnMore
import Derived.WalkSmall
import Derived.Laws.StructEq
import Derived.Deep.AppendLies
import Derived.Deep.RegionHeld3
import Derived.Deep.DeepCutAuto
import Derived.Deep.OwnRows
import Derived.IntWalk
import Derived.Lib.SliceRun
import Derived.Test.YtdjlgiinekighaaGreatDoorRows
import Derived.Test.YtdjlgiinekighaaGreatDoorTie
import Derived.Test.YtdjlgiinekighaaGreatDoorCards
import Derived.ProofKit
import Derived.Carry
import Derived.SizedLaws
import Derived.PinnedBridge
import Derived.Lay
import Derived.LaidOnce
import Derived.SevenTiedAt
import Derived.Lib.LaidU8T
import Derived.Lib.SmallJoins
import Derived.Deep.Slices
import Derived.Deep.Strs
namespace Go.Proofs.YtdjlgiinekighaaGreatDoor.R
open Go.RowKit Go.Shelf Go.Lib
theorem below_drewN {B : Nat} {a w : World} (h : Below B a w) (n : Nat) : Below B a (w.drewN n) := ⟨h.os, h.tape, h.output, h.size, h.block⟩
theorem bn {W0 w w' : World} (h : Below W0.heap.size W0 w) (hb : Below w.heap.size w w') : Below W0.heap.size W0 w' := h.trans (hb.mono h.size)
theorem below_two (w : World) (o o' : Obj) : Below w.heap.size w ((w.alloc o).alloc o') := ((Below.refl _ _).alloc (Nat.le_refl _) _).alloc (by simp) _
theorem alloc_below (w : World) (o : Obj) : Below w.heap.size w (w.alloc o) := (Below.refl _ _).alloc (Nat.le_refl _) _
/-- The library's two tables are in place. -/
def Tabs (w : World) : Prop := Lib.Utf8Tabs (Tryz.lays196_ren.g 3) (Tryz.lays196_ren.g 4) w
theorem Tabs.below {w w' : World} (h : Tabs w) (hb : Below w.heap.size w w') : Tabs w' := by
  have k : ∀ {a : Addr} {v : Value}, w.cell? a = some v → w'.cell? a = some v := fun {a v} hc => (hb.cell (World.block_lt_of_cell? w a hc)).trans hc
  exact ⟨fun c hc => k (h.1 c hc), fun i hi => ⟨k (h.2 i hi).1, k (h.2 i hi).2⟩⟩
theorem valid_c (s : ByteArray) (w : World) (hs : s.size ≤ 9223372036854775807) (hT : Tabs w) :
    Calls Tryz.prog 62 #[.string s] w fun e w' => e = .returned (.bool (Lib.validD s.data.toList)) ∧ Below w.heap.size w w' :=
  Any.utf8_ValidString Tryz.lays196 s w hs hT
end Go.Proofs.YtdjlgiinekighaaGreatDoor.R
/-
  The leaves beneath package record: stamps and texts that may be, by contract.
-/
namespace Go.Proofs.YtdjlgiinekighaaGreatDoor.R
open Go.RowKit Go.Lib

def inB (n m : Int) : Bool := decide (0 ≤ n) && decide (n ≤ m)
def smayB (a c : Int) : Bool := inB a 1099511627776 && inB c 65535
def slessB (a c b d : Int) : Bool := decide (a < b) || (decide (a = b) && decide (c < d))

theorem swall_c (n : Int) (w : World) : Calls Tryz.prog 75 #[.int .i64 n] w fun e w' => e = .returned (.bool (inB n 1099511627776)) ∧ w = w' := by
  unfold inB
  by_cases h1 : 0 ≤ n
  · by_cases h2 : n ≤ 1099511627776
    · have e1 : decide (0 ≤ n) = true := by simpa using h1
      have e2 : decide (n ≤ 1099511627776) = true := by simpa using h2
      go_enter Tryz.func75, Tryz.ntmps75
      go_wp2
      go_ret
      first | (simp; done) | (simp; omega)
    · have e1 : decide (0 ≤ n) = true := by simpa using h1
      have e2 : decide (n ≤ 1099511627776) = false := by simpa using h2
      go_enter Tryz.func75, Tryz.ntmps75
      go_wp2
      go_ret
      first | (simp; done) | (simp; omega)
  · have e1 : decide (0 ≤ n) = false := by simpa using h1
    go_enter Tryz.func75, Tryz.ntmps75
    go_wp2
    go_ret
    first | (simp; done) | (simp; omega)

theorem sin_c (n m : Int) (w : World) : Calls Tryz.prog 74 #[.int .i64 n, .int .i64 m] w fun e w' => e = .returned (.bool (inB n m)) ∧ w = w' := by
  unfold inB
  by_cases h1 : 0 ≤ n
  · by_cases h2 : n ≤ m
    · have e1 : decide (0 ≤ n) = true := by simpa using h1
      have e2 : decide (n ≤ m) = true := by simpa using h2
      go_enter Tryz.func74, Tryz.ntmps74
      go_wp2
      go_ret
      first | (simp; done) | (simp; omega)
    · have e1 : decide (0 ≤ n) = true := by simpa using h1
      have e2 : decide (n ≤ m) = false := by simpa using h2
      go_enter Tryz.func74, Tryz.ntmps74
      go_wp2
      go_ret
      first | (simp; done) | (simp; omega)
  · have e1 : decide (0 ≤ n) = false := by simpa using h1
    go_enter Tryz.func74, Tryz.ntmps74
    go_wp2
    go_ret
    first | (simp; done) | (simp; omega)

set_option maxHeartbeats 1000000 in
theorem smay_c (a c : Int) (w : World) : Calls Tryz.prog 56 #[.agg #[.int .i64 a, .int .i64 c]] w fun e w' => e = .returned (.bool (smayB a c)) ∧ Below w.heap.size w w' := by
  have cw := fun W => swall_c a W
  unfold smayB
  generalize inB a 1099511627776 = A at cw ⊢
  have HW := Lib.hid cw
  clear cw
  unfold inB
  cases A
  · go_enter Tryz.func56, Tryz.ntmps56
    go_wp2_with (go_at_call 75; refine (HW.out _).mono ?_; rintro e w' ⟨rfl, rfl⟩)
    go_ret
    exact ⟨rfl, (Below.refl _ _).alloc (Nat.le_refl _) _⟩
  · by_cases h1 : 0 ≤ c
    · by_cases h2 : c ≤ 65535
      · have e1 : decide (0 ≤ c) = true := by simpa using h1
        have e2 : decide (c ≤ 65535) = true := by simpa using h2
        go_enter Tryz.func56, Tryz.ntmps56
        go_wp2_with (go_at_call 75; refine (HW.out _).mono ?_; rintro e w' ⟨rfl, rfl⟩)
        go_ret
        exact ⟨by first | (simp; done) | (simp; omega), (Below.refl _ _).alloc (Nat.le_refl _) _⟩
      · have e1 : decide (0 ≤ c) = true := by simpa using h1
        have e2 : decide (c ≤ 65535) = false := by simpa using h2
        go_enter Tryz.func56, Tryz.ntmps56
        go_wp2_with (go_at_call 75; refine (HW.out _).mono ?_; rintro e w' ⟨rfl, rfl⟩)
        go_ret
        exact ⟨by first | (simp; done) | (simp; omega), (Below.refl _ _).alloc (Nat.le_refl _) _⟩
    · have e1 : decide (0 ≤ c) = false := by simpa using h1
      go_enter Tryz.func56, Tryz.ntmps56
      go_wp2_with (go_at_call 75; refine (HW.out _).mono ?_; rintro e w' ⟨rfl, rfl⟩)
      go_ret
      exact ⟨by first | (simp; done) | (simp; omega), (Below.refl _ _).alloc (Nat.le_refl _) _⟩

set_option maxHeartbeats 1000000 in
theorem srefmay_c (a c : Int) (w : World) : Calls Tryz.prog 55 #[.agg #[.int .i64 a, .int .i64 c]] w fun e w' => e = .returned (.bool (smayB a c)) ∧ Below w.heap.size w w' := by
  have cw := fun W => sin_c a 1099511627776 W
  have cd := fun W => sin_c c 65535 W
  unfold smayB
  generalize inB a 1099511627776 = A at cw ⊢
  generalize inB c 65535 = C at cd ⊢
  have HW := Lib.hid cw
  have HD := Lib.hid cd
  clear cw cd
  cases A
  · go_enter Tryz.func55, Tryz.ntmps55
    go_wp2_with fail
    refine (HW.out _).mono ?_
    rintro e w' ⟨rfl, rfl⟩
    go_wp2
    go_ret
    exact ⟨rfl, (Below.refl _ _).alloc (Nat.le_refl _) _⟩
  · go_enter Tryz.func55, Tryz.ntmps55
    go_wp2_with fail
    refine (HW.out _).mono ?_
    rintro e w' ⟨rfl, rfl⟩
    go_wp2_with fail
    refine (HD.out _).mono ?_
    rintro e w' ⟨rfl, rfl⟩
    go_wp2
    go_ret
    exact ⟨by simp, (Below.refl _ _).alloc (Nat.le_refl _) _⟩

theorem num_c (n : Int) (w : World) : Calls Tryz.prog 13 #[.int .i64 n] w fun e w' => e = .returned (.int .i64 n) ∧ w = w' := by
  go_enter Tryz.func13, Tryz.ntmps13
  go_wp2
  go_ret
  exact ⟨rfl, rfl⟩

def tmayB (l : List UInt8) : Bool := decide (l.length ≤ 120) && validD l
theorem tmayB_yes {l : List UInt8} (h1 : l.length ≤ 120) (h2 : validD l = true) : tmayB l = true := by simp [tmayB, h1, h2]

set_option maxHeartbeats 1000000 in
theorem tmay_c (s : ByteArray) (w : World) (hs : s.size ≤ 9223372036854775807) (hT : Tabs w) :
    Calls Tryz.prog 51 #[.string s] w fun e w' => e = .returned (.bool (tmayB s.data.toList)) ∧ Below w.heap.size w w' := by
  have cV := valid_c s w hs hT
  unfold tmayB
  rw [← Lib.size_eq]
  generalize validD s.data.toList = V at cV ⊢
  by_cases h : s.size ≤ 120
  · have hz : decide ((s.size : Int) ≤ 120) = true := by simp; omega
    rw [decide_eq_true h, Bool.true_and]
    go_enter Tryz.func51, Tryz.ntmps51
    go_wp2_with (go_at_call 62; refine cV.mono ?_; rintro e w' ⟨rfl, hb⟩)
    go_ret
    exact ⟨rfl, hb⟩
  · have hz : decide ((s.size : Int) ≤ 120) = false := by simp; omega
    rw [decide_eq_false h, Bool.false_and]
    clear cV
    go_enter Tryz.func51, Tryz.ntmps51
    go_wp2
    go_ret
    exact ⟨rfl, Below.refl _ _⟩

set_option maxHeartbeats 1000000 in
theorem trefmay_c (s : ByteArray) (w : World) (hs : s.size ≤ 9223372036854775807) (hT : Tabs w) :
    Calls Tryz.prog 41 #[.string s] w fun e w' => e = .returned (.bool (tmayB s.data.toList)) ∧ Below w.heap.size w w' := by
  have cV := valid_c s w hs hT
  unfold tmayB
  rw [← Lib.size_eq]
  generalize validD s.data.toList = V at cV ⊢
  by_cases h : s.size ≤ 120
  · have hz : decide ((s.size : Int) ≤ 120) = true := by simp; omega
    rw [decide_eq_true h, Bool.true_and]
    go_enter Tryz.func41, Tryz.ntmps41
    go_wp2_with (go_at_call 62; refine cV.mono ?_; rintro e w' ⟨rfl, hb⟩)
    go_ret
    exact ⟨rfl, hb⟩
  · have hz : decide ((s.size : Int) ≤ 120) = false := by simp; omega
    rw [decide_eq_false h, Bool.false_and]
    clear cV
    go_enter Tryz.func41, Tryz.ntmps41
    go_wp2
    go_ret
    exact ⟨rfl, Below.refl _ _⟩
end Go.Proofs.YtdjlgiinekighaaGreatDoor.R
/-
  Blocks of memory that hold a record, or a head; what stays of them.
-/
namespace Go.Proofs.YtdjlgiinekighaaGreatDoor.R
open Go.RowKit Go.Lib

/-- A record: origin, number, wall, count, text. -/
structure Rc where
  o : Int
  s : Int
  w : Int
  c : Int
  t : ByteArray

theorem grown_refl (w : World) (r : Option Nat) : w.grownBy w r := ⟨rfl, rfl, rfl, Nat.le_refl _, fun _ _ _ => rfl⟩
theorem grown_trans {a b c : World} {r : Option Nat} (h : a.grownBy b r) (k : b.grownBy c r) : a.grownBy c r :=
  ⟨k.os.trans h.os, k.tape.trans h.tape, k.output.trans h.output, Nat.le_trans h.size k.size, fun i hi hne => (k.block i (Nat.lt_of_lt_of_le hi h.size) hne).trans (h.block i hi hne)⟩
theorem grown_below {a b : World} (h : Below a.heap.size a b) (r : Option Nat) : a.grownBy b r := ⟨h.os, h.tape, h.output, h.size, fun i hi _ => h.block i hi⟩
theorem below_of_grown {a b : World} {r : Option Nat} {B : Nat} (h : a.grownBy b r) (hB : B ≤ a.heap.size) (hg : ∀ g, r = some g → B ≤ g) : Below B a b :=
  ⟨h.os, h.tape, h.output, h.size, fun i hi => h.block i (by omega) (by intro e; have := hg i e.symm; omega)⟩
theorem grown_cell {a b : World} {r : Option Nat} (h : a.grownBy b r) {p : Addr} (hp : p.block < a.heap.size) (hne : some p.block ≠ r) : b.cell? p = a.cell? p :=
  World.cell?_of_block (h.block p.block hp hne)

/-- Block g holds just these cells. -/
def Bx (T : TypeId) (w : World) (g : Nat) (cs : Array Value) : Prop := w.heap[g]? = some (.cells cs T (0, 0))
theorem Bx.lt {T : TypeId} {w : World} {g : Nat} {cs : Array Value} (h : Bx T w g cs) : g < w.heap.size := (Array.getElem?_eq_some_iff.1 h).1
theorem Bx.new (T : TypeId) (w : World) (cs : Array Value) : Bx T (w.alloc (.cells cs T (0, 0))) w.heap.size cs := heap_alloc_new w _
theorem Bx.cell {T : TypeId} {w : World} {g : Nat} {cs : Array Value} (h : Bx T w g cs) (k : Nat) : w.cell? ⟨g, k, none⟩ = cs[k]? := cell_of_row w g k _ _ _ h
theorem Bx.soft {T : TypeId} {w : World} {g : Nat} {cs : Array Value} (h : Bx T w g cs) (k : Nat) : w.frozen? ⟨g, k, none⟩ = false := by
  unfold Bx at h
  simp [World.frozen?, h]
theorem Bx.below {T : TypeId} {w w' : World} {g : Nat} {cs : Array Value} (h : Bx T w g cs) (hb : Below w.heap.size w w') : Bx T w' g cs := (hb.block g h.lt).trans h
theorem Bx.far {T : TypeId} {w w' : World} {g : Nat} {r : Option Nat} {cs : Array Value} (h : Bx T w g cs) (hg : w.grownBy w' r) (hne : some g ≠ r) : Bx T w' g cs := (hg.block g h.lt hne).trans h
theorem Bx.alloc {T : TypeId} {w : World} {g : Nat} {cs : Array Value} (h : Bx T w g cs) (o : Obj) : Bx T (w.alloc o) g cs := (Below.heap_alloc w o g h.lt).trans h
theorem Bx.set {T : TypeId} {w : World} {g : Nat} {cs : Array Value} (h : Bx T w g cs) (k : Nat) (u : Value) : Bx T (w.setCell ⟨g, k, none⟩ u) g (cs.setIfInBounds k u) := by
  unfold Bx at h ⊢
  simp [World.setCell, Array.getElem?_modify, h]
theorem Bx.setFar {T : TypeId} {w : World} {g : Nat} {cs : Array Value} (h : Bx T w g cs) {p : Addr} (hp : g ≠ p.block) (u : Value) : Bx T (w.setCell p u) g cs := (Below.heap_setCell w p u g hp).trans h
theorem Bx.five {T : TypeId} {w : World} {g : Nat} {a b c d e : Value} (h : Bx T w g #[a, b, c, d, e]) :
    w.cell? ⟨g, 0, none⟩ = some a ∧ w.cell? ⟨g, 1, none⟩ = some b ∧ w.cell? ⟨g, 2, none⟩ = some c ∧ w.cell? ⟨g, 3, none⟩ = some d ∧ w.cell? ⟨g, 4, none⟩ = some e :=
  ⟨h.cell 0, h.cell 1, h.cell 2, h.cell 3, h.cell 4⟩
/-- The record r stands boxed in block g. -/
def BxR (w : World) (g : Nat) (r : Rc) : Prop := Bx 35 w g #[.int .i64 r.o, .int .i64 r.s, .int .i64 r.w, .int .i64 r.c, .string r.t]

def keyB (o s : Int) : Bool := decide (0 ≤ o) && (decide (o < 8) && (decide (1 ≤ s) && decide (s ≤ 1023)))
def mayR (r : Rc) : Bool := keyB r.o r.s && (smayB r.w r.c && tmayB r.t.data.toList)
def befB (o s p q : Int) : Bool := decide (o < p) || ((o == p) && decide (s < q))
def sameR (a b : Rc) : Bool := (a.o == b.o && a.s == b.s) && ((a.w == b.w && a.c == b.c) && a.t.toList == b.t.toList)
def lessR (a b : Rc) : Bool := slessB a.w a.c b.w b.c || ((a.w == b.w && a.c == b.c) && befB a.o a.s b.o b.s)

/-! What '==' says of keys, stamps and records. -/
theorem eq_pair (T : TypeId) (hS : Tryz.prog.underlying T = some (.struct (Tryz.prog.fieldsOf T))) (hp : Tryz.prog.stoodInHeld T = false) (a b c d : Int) (w : World)
    (hf : (Tryz.prog.fieldsOf T).toList = (Tryz.prog.fieldsOf 31).toList ∨ (Tryz.prog.fieldsOf T).toList = (Tryz.prog.fieldsOf 33).toList) :
    (Op.equalIn 10000 T (.agg #[.int .i64 a, .int .i64 b]) (.agg #[.int .i64 c, .int .i64 d])).run Tryz.prog w = .ok (a == c && b == d) w := by
  have u3 := Tryz.underlying3
  have a3 := Tryz.isAgg3
  have z3 := Tryz.sizeOf3
  rw [show (10000 : Nat) = 9999 + 1 from rfl, run_equalIn_struct w 9999 T _ _ hS hp]
  rcases hf with hf | hf <;> rw [hf] <;> simp only [Program.fieldsOf, Tryz.underlying31, Tryz.underlying33] <;> go_simp <;>
    (by_cases h1 : a = c <;> by_cases h2 : b = d <;> simp [h1, h2])
theorem eq_key (a b c d : Int) (w : World) : (Op.equalIn 10000 31 (.agg #[.int .i64 a, .int .i64 b]) (.agg #[.int .i64 c, .int .i64 d])).run Tryz.prog w = .ok (a == c && b == d) w :=
  eq_pair _ (by kernel_rfl) (by kernel_rfl) a b c d w (.inl rfl)
theorem eq_stamp (a b c d : Int) (w : World) : (Op.equalIn 10000 33 (.agg #[.int .i64 a, .int .i64 b]) (.agg #[.int .i64 c, .int .i64 d])).run Tryz.prog w = .ok (a == c && b == d) w :=
  eq_pair _ (by kernel_rfl) (by kernel_rfl) a b c d w (.inr rfl)
theorem eq_rec (x y : Rc) (w : World) : (Op.equalIn 10000 35 (.agg #[.int .i64 x.o, .int .i64 x.s, .int .i64 x.w, .int .i64 x.c, .string x.t]) (.agg #[.int .i64 y.o, .int .i64 y.s, .int .i64 y.w, .int .i64 y.c, .string y.t])).run Tryz.prog w = .ok (sameR x y) w := by
  have u9 := Tryz.underlying9
  have a9 := Tryz.isAgg9
  have z9 := Tryz.sizeOf9
  have aK := Tryz.isAgg31
  have zK := Tryz.sizeOf31
  have aS := Tryz.isAgg33
  have zS := Tryz.sizeOf33
  have u3 := Tryz.underlying3
  have a3 := Tryz.isAgg3
  have z3 := Tryz.sizeOf3
  unfold sameR
  rw [show (10000 : Nat) = 9999 + 1 from rfl, run_equalIn_struct w 9999 _ _ _ (by kernel_rfl) (by kernel_rfl)]
  simp only [Program.fieldsOf, Tryz.underlying35]
  go_simp
  by_cases h1 : x.o = y.o <;> by_cases h2 : x.s = y.s <;> by_cases h3 : x.w = y.w <;> by_cases h4 : x.c = y.c <;> by_cases h5 : x.t.toList = y.t.toList <;> simp [h1, h2, h3, h4, h5]
end Go.Proofs.YtdjlgiinekighaaGreatDoor.R
/-
  May, Same, Before, Less of records, of the program and of chapter 4's own answer, by contract.
-/
namespace Go.Proofs.YtdjlgiinekighaaGreatDoor.R
open Go.RowKit Go.Lib

set_option maxHeartbeats 1000000 in
theorem maykey_c (o s : Int) (w : World) : Calls Tryz.prog 54 #[.agg #[.int .i64 o, .int .i64 s]] w fun e w' => e = .returned (.bool (keyB o s)) ∧ Below w.heap.size w w' := by
  unfold keyB
  by_cases h1 : 0 ≤ o
  · have e1 : decide (0 ≤ o) = true := by simpa using h1
    by_cases h2 : o < 8
    · have e2 : decide (o < 8) = true := by simpa using h2
      by_cases h3 : 1 ≤ s
      · have e3 : decide (1 ≤ s) = true := by simpa using h3
        generalize hC : decide (s ≤ 1023) = C
        go_enter Tryz.func54, Tryz.ntmps54
        go_wp2
        go_ret
        exact ⟨by simp [h1, h2, h3], alloc_below _ _⟩
      · have e3 : decide (1 ≤ s) = false := by simpa using h3
        go_enter Tryz.func54, Tryz.ntmps54
        go_wp2
        go_ret
        exact ⟨by simp, alloc_below _ _⟩
    · have e2 : decide (o < 8) = false := by simpa using h2
      go_enter Tryz.func54, Tryz.ntmps54
      go_wp2
      go_ret
      exact ⟨by simp, alloc_below _ _⟩
  · have e1 : decide (0 ≤ o) = false := by simpa using h1
    go_enter Tryz.func54, Tryz.ntmps54
    go_wp2
    go_ret
    exact ⟨by simp, alloc_below _ _⟩

set_option maxHeartbeats 2000000 in
theorem refmay_c (r : Rc) (w : World) (hs : r.t.size ≤ 9223372036854775807) (hT : Tabs w) :
    Calls Tryz.prog 31 #[.agg #[.int .i64 r.o, .int .i64 r.s, .int .i64 r.w, .int .i64 r.c, .string r.t]] w fun e w' => e = .returned (.bool (mayR r)) ∧ Below w.heap.size w w' := by
  have cK := fun W => maykey_c r.o r.s W
  have cS := fun W => srefmay_c r.w r.c W
  have cT := fun W hT => trefmay_c r.t W hs hT
  unfold mayR
  generalize keyB r.o r.s = K at cK ⊢
  generalize smayB r.w r.c = S at cS ⊢
  generalize tmayB r.t.data.toList = T at cT ⊢
  have HK := Lib.hid cK
  have HS := Lib.hid cS
  have HT := Lib.hid cT
  have hT' := Lib.hid hT
  have hB := Lib.hid (Bx.new 35 w #[.int .i64 r.o, .int .i64 r.s, .int .i64 r.w, .int .i64 r.c, .string r.t])
  clear cK cS cT hT
  cases K
  · go_enter Tryz.func31, Tryz.ntmps31
    go_wp2_with fail
    refine (HK.out _).mono ?_
    rintro e w1 ⟨rfl, b1⟩
    go_wp2
    go_ret
    exact ⟨rfl, bn (alloc_below _ _) b1⟩
  · go_enter Tryz.func31, Tryz.ntmps31
    go_wp2_with fail
    refine (HK.out _).mono ?_
    rintro e w1 ⟨rfl, b1⟩
    obtain ⟨c0, c1, c2, c3, c4⟩ := (hB.out.below b1).five
    have hl := (hB.out.below b1).lt
    go_wp2_with fail
    refine (HS.out _).mono ?_
    rintro e w2 ⟨rfl, b2⟩
    clear c0 c1 c2 c3 c4 hl
    cases S
    · go_wp2
      go_ret
      exact ⟨rfl, bn (bn (alloc_below _ _) b1) b2⟩
    · obtain ⟨c0, c1, c2, c3, c4⟩ := ((hB.out.below b1).below b2).five
      have hl := ((hB.out.below b1).below b2).lt
      go_wp2_with fail
      refine (HT.out _ (hT'.out.below (bn (bn (alloc_below _ _) b1) b2))).mono ?_
      rintro e w3 ⟨rfl, b3⟩
      go_wp2
      go_ret
      exact ⟨by simp, bn (bn (bn (alloc_below _ _) b1) b2) b3⟩

theorem may_no (r : Rc) (w : World) (hK : keyB r.o r.s = false) :
    Calls Tryz.prog 33 #[.agg #[.int .i64 r.o, .int .i64 r.s, .int .i64 r.w, .int .i64 r.c, .string r.t]] w fun e w' => e = .returned (.bool false) ∧ Below w.heap.size w w' := by
  unfold keyB at hK
  by_cases h1 : 0 ≤ r.o
  · have e1 : decide (0 ≤ r.o) = true := by simpa using h1
    by_cases h2 : r.o < 8
    · have e2 : decide (r.o < 8) = true := by simpa using h2
      by_cases h3 : 1 ≤ r.s
      · have e3 : decide (1 ≤ r.s) = true := by simpa using h3
        have e4 : decide (r.s ≤ 1023) = false := by simpa [h1, h2, h3] using hK
        go_enter Tryz.func33, Tryz.ntmps33
        go_wp2
        go_ret
        exact ⟨by simp, alloc_below _ _⟩
      · have e3 : decide (1 ≤ r.s) = false := by simpa using h3
        go_enter Tryz.func33, Tryz.ntmps33
        go_wp2
        go_ret
        exact ⟨by simp, alloc_below _ _⟩
    · have e2 : decide (r.o < 8) = false := by simpa using h2
      go_enter Tryz.func33, Tryz.ntmps33
      go_wp2
      go_ret
      exact ⟨by simp, alloc_below _ _⟩
  · have e1 : decide (0 ≤ r.o) = false := by simpa using h1
    go_enter Tryz.func33, Tryz.ntmps33
    go_wp2
    go_ret
    exact ⟨by simp, alloc_below _ _⟩

set_option maxHeartbeats 2000000 in
theorem may_c (r : Rc) (w : World) (hs : r.t.size ≤ 9223372036854775807) (hT : Tabs w) :
    Calls Tryz.prog 33 #[.agg #[.int .i64 r.o, .int .i64 r.s, .int .i64 r.w, .int .i64 r.c, .string r.t]] w fun e w' => e = .returned (.bool (mayR r)) ∧ Below w.heap.size w w' := by
  cases hK : keyB r.o r.s
  · have h := may_no r w hK
    unfold mayR
    rw [hK, Bool.false_and]
    exact h
  have cS := fun W => smay_c r.w r.c W
  have cT := fun W hT => tmay_c r.t W hs hT
  unfold mayR
  rw [hK, Bool.true_and]
  unfold keyB at hK
  simp only [Bool.and_eq_true] at hK
  obtain ⟨e1, e2, e3, e4⟩ := hK
  generalize smayB r.w r.c = S at cS ⊢
  generalize tmayB r.t.data.toList = T at cT ⊢
  have HS := Lib.hid cS
  have HT := Lib.hid cT
  have hT' := Lib.hid hT
  have hB := Lib.hid (Bx.new 35 w #[.int .i64 r.o, .int .i64 r.s, .int .i64 r.w, .int .i64 r.c, .string r.t])
  clear cS cT hT
  go_enter Tryz.func33, Tryz.ntmps33
  go_wp2_with fail
  refine (HS.out _).mono ?_
  rintro e w2 ⟨rfl, b2⟩
  cases S
  · go_wp2
    go_ret
    exact ⟨rfl, bn (alloc_below _ _) b2⟩
  · obtain ⟨c0, c1, c2, c3, c4⟩ := (hB.out.below b2).five
    have hl := (hB.out.below b2).lt
    go_wp2_with fail
    refine (HT.out _ (hT'.out.below (bn (alloc_below _ _) b2))).mono ?_
    rintro e w3 ⟨rfl, b3⟩
    go_wp2
    go_ret
    exact ⟨by simp, bn (bn (alloc_below _ _) b2) b3⟩
end Go.Proofs.YtdjlgiinekighaaGreatDoor.R
/-
  What is handed in, opened: a record, bytes, a list of records; from a law's contract to its row, the two tables being in place.
-/
namespace Go.Proofs.YtdjlgiinekighaaGreatDoor.R
open Go.RowKit Go.ChangeShapes Go.WideShapes Go.ChangeAt Go.Deep Go.Joins
set_option maxRecDepth 100000

theorem laidOut : laidOutB Tryz.prog = true := by kernel_rfl
theorem own : ownKnob Tryz.prog.godebug = none := by kernel_rfl

theorem wf_i64 {n : Int} (h : (Lit.int .i64 n).wf = true) : -9223372036854775808 ≤ n ∧ n ≤ 9223372036854775807 := by
  have e : IntKind.i64.min = -9223372036854775808 := by decide
  simpa [Lit.wf, e] using h
theorem wf_u8 {n : Int} (h : (Lit.int .u8 n).wf = true) : 0 ≤ n ∧ n < 256 := by
  have e : IntKind.u8.min = 0 := by decide
  have e2 : IntKind.u8.max = 255 := by decide
  simp [Lit.wf, e, e2] at h
  omega

theorem add_off (a : Addr) (k : Nat) (hs : a.spot = none) : a.add k = ⟨a.block, a.off + k, none⟩ := by
  obtain ⟨b, o, s⟩ := a
  simp only at hs
  subst hs
  exact add_plain ..
theorem spot_none {W : World} {a : Addr} {v : Value} (h : W.cell? (a.add 0) = some v) : a.spot = none := by
  obtain ⟨b, o, s⟩ := a
  cases s with
  | none => rfl
  | some s => simp [World.cell?, Addr.add] at h; split at h <;> simp at h

/-- A pair of numbers, off its cells. -/
theorem pair_cells {H : Type} {enc : TypeId × Value → H} {W : World} {base : Nat} {spare : Nat → Bool} {held : Bool} {T : TypeId} {f0 f1 : Field} {fuel : Nat} {cs : List Value} {x : DataW H × List MemPlace}
    (ht : Tryz.prog.underlying T = some (.struct #[f0, f1])) (t0 : f0.type = 3) (t1 : f1.type = 3) (o0 : f0.offset = 0) (o1 : f1.offset = 1) (hc : Tryz.prog.cellsOf T = 2) (h : DataW.trod enc Tryz.prog W base spare held fuel T cs = some x) :
    ∃ a b : Int, cs = [.int .i64 a, .int .i64 b] := by
  obtain ⟨y0, y1, n, _, hl, h0, h1⟩ := trod_struct2 ht h
  have c3 : Tryz.prog.cellsOf 3 = 1 := by kernel_rfl
  rw [t0, o0, c3] at h0
  rw [t1, o1, c3] at h1
  rw [hc] at hl
  match cs, hl with
  | [u, v], _ =>
    obtain ⟨a, e0, _, _⟩ := DataW.trod_int (t := 3) Tryz.underlying3 h0
    obtain ⟨b, e1, _, _⟩ := DataW.trod_int (t := 3) Tryz.underlying3 h1
    simp at e0 e1
    exact ⟨a, b, by rw [e0, e1]⟩

/-- A record, off its cells. -/
theorem rec_cells {H : Type} {enc : TypeId × Value → H} {W : World} {base : Nat} {spare : Nat → Bool} {held : Bool} {fuel : Nat} {cs : List Value} {x : DataW H × List MemPlace}
    (h : DataW.trod enc Tryz.prog W base spare held fuel 35 cs = some x) : ∃ r : Rc, cs = [.int .i64 r.o, .int .i64 r.s, .int .i64 r.w, .int .i64 r.c, .string r.t] ∧ r.t.size ≤ maxLen := by
  obtain ⟨y0, y1, y2, n, _, hl, h0, h1, h2⟩ := trod_struct3 Tryz.underlying35 h
  have c5 : Tryz.prog.cellsOf 35 = 5 := by kernel_rfl
  have ck : Tryz.prog.cellsOf 31 = 2 := by kernel_rfl
  have cs2 : Tryz.prog.cellsOf 33 = 2 := by kernel_rfl
  have c9 : Tryz.prog.cellsOf 9 = 1 := by kernel_rfl
  rw [c5] at hl
  match cs, hl with
  | [u0, u1, u2, u3, u4], _ =>
    obtain ⟨a, b, e0⟩ := pair_cells Tryz.underlying31 rfl rfl rfl rfl ck h0
    obtain ⟨c, d, e1⟩ := pair_cells Tryz.underlying33 rfl rfl rfl rfl cs2 h1
    obtain ⟨s, e2, _, hs⟩ := DataW.trod_string Tryz.underlying9 h2
    simp [ck, cs2, c9] at e0 e1 e2
    refine ⟨⟨a, b, c, d, s⟩, ?_, hs⟩
    rw [e0.1, e0.2, e1.1, e1.2, e2]

theorem open_rec {H : Type} {enc : TypeId × Value → H} {W : World} {r : Reach} {b0 base : Nat} {spare : Nat → Bool} {held : Bool} {v : Value} {d : DataW H} {p : List MemPlace}
    (hv : Value.okWide Tryz.prog W r b0 35 v) (h : DataW.Trod enc Tryz.prog W base spare held 35 v d p) : ∃ x : Rc, v = .agg #[.int .i64 x.o, .int .i64 x.s, .int .i64 x.w, .int .i64 x.c, .string x.t] ∧ x.t.size ≤ 9223372036854775807 := by
  obtain ⟨cs, rfl, hsz⟩ := okWide_struct Tryz.underlying35 hv
  obtain ⟨fuel, hf⟩ := h
  obtain ⟨x, e, hs⟩ := rec_cells hf
  refine ⟨x, ?_, by unfold maxLen at hs; omega⟩
  have e2 : cs.toList = [.int .i64 x.o, .int .i64 x.s, .int .i64 x.w, .int .i64 x.c, .string x.t] := e
  rw [show cs = #[.int .i64 x.o, .int .i64 x.s, .int .i64 x.w, .int .i64 x.c, .string x.t] from by cases cs; simpa using e2]

deriving instance Inhabited for Rc
/-- From offset o of block b on the records l lie. -/
def Recs (w : World) (b o : Nat) (l : List Rc) : Prop := ∀ k (hk : k < l.length), w.cell? ⟨b, o + k * 5, none⟩ = some (.int .i64 l[k].o) ∧ w.cell? ⟨b, o + k * 5 + 1, none⟩ = some (.int .i64 l[k].s) ∧ w.cell? ⟨b, o + k * 5 + 2, none⟩ = some (.int .i64 l[k].w) ∧ w.cell? ⟨b, o + k * 5 + 3, none⟩ = some (.int .i64 l[k].c) ∧ w.cell? ⟨b, o + k * 5 + 4, none⟩ = some (.string l[k].t)
theorem Recs.below {w w' : World} {b o : Nat} {l : List Rc} (h : Recs w b o l) (hb : Below w.heap.size w w') : Recs w' b o l := fun k hk => by
  obtain ⟨h0, h1, h2, h3, h4⟩ := h k hk
  have f : ∀ {a : Addr} {v : Value}, w.cell? a = some v → w'.cell? a = some v := fun {a v} hc => (hb.cell (World.block_lt_of_cell? w a hc)).trans hc
  exact ⟨f h0, f h1, f h2, f h3, f h4⟩
/-- The slice v holds the records l. -/
def Rl (w : World) (v : Value) (l : List Rc) : Prop :=
  (v = .slice none 0 0 ∧ l = []) ∨ ∃ ad cap, v = .slice (some ad) l.length cap ∧ l.length ≤ cap ∧ (0 < l.length → ∃ b o, ad = ⟨b, o, none⟩ ∧ Recs w b o l)
theorem Rl.below {w w' : World} {v : Value} {l : List Rc} (h : Rl w v l) (hb : Below w.heap.size w w') : Rl w' v l := by
  rcases h with h | ⟨ad, cap, h1, h1', h2⟩
  · exact .inl h
  · exact .inr ⟨ad, cap, h1, h1', fun h0 => by obtain ⟨b, o, e, hs⟩ := h2 h0; exact ⟨b, o, e, hs.below hb⟩⟩
theorem Rl.form {w : World} {v : Value} {l : List Rc} (h : Rl w v l) : ∃ ad cap, v = .slice ad l.length cap ∧ l.length ≤ cap ∧ (0 < l.length → ∃ b o, ad = some ⟨b, o, none⟩ ∧ Recs w b o l) := by
  rcases h with ⟨rfl, rfl⟩ | ⟨ad, cap, rfl, h1, h2⟩
  · exact ⟨none, 0, rfl, Nat.le_refl _, fun h => by simp at h⟩
  · exact ⟨some ad, cap, rfl, h1, fun h0 => by obtain ⟨b, o, e, hs⟩ := h2 h0; exact ⟨b, o, by rw [e], hs⟩⟩

theorem open_recs {H : Type} {enc : TypeId × Value → H} {W : World} {r : Reach} {b0 base : Nat} {spare : Nat → Bool} {held : Bool} {v : Value} {d : DataW H} {p : List MemPlace}
    (hv : Value.okWide Tryz.prog W r b0 27 v) (h : DataW.Trod enc Tryz.prog W base spare held 27 v d p) : ∃ l : List Rc, Rl W v l ∧ (∀ x ∈ l, x.t.size ≤ 9223372036854775807) ∧ l.length ≤ maxLen := by
  obtain ⟨ad, len, cap, rfl⟩ := okWide_slice Tryz.underlying27 hv
  obtain ⟨fuel, hf⟩ := h
  simp only [Value.cells] at hf
  have c5 : Tryz.prog.cellsOf 35 = 5 := by kernel_rfl
  rcases open_slice Tryz.underlying27 hf with ⟨e, _⟩ | ⟨a, len', cap', m, n, D, Pl, e, hb, hl, hm, hmm, _, hi⟩
  · simp only [List.cons.injEq, and_true] at e
    rw [e]
    exact ⟨[], .inl ⟨rfl, rfl⟩, fun x hx => by simp at hx, Nat.zero_le _⟩
  · simp only [List.cons.injEq, and_true, Value.slice.injEq] at e
    obtain ⟨rfl, rfl, rfl⟩ := e
    have hlm : len ≤ m := by rw [hmm]; split <;> omega
    have each : ∀ i, i < len → ∃ q : Rc, (∀ j, j < 5 → W.cell? ((a.add (i * 5)).add j) = [.int .i64 q.o, .int .i64 q.s, .int .i64 q.w, .int .i64 q.c, .string q.t][j]?) ∧ q.t.size ≤ maxLen := by
      intro i hi'
      obtain ⟨cs', h1, h2⟩ := hi i (by omega)
      rw [c5] at h1
      obtain ⟨_, _, h3⟩ := World.cells?_some h1
      obtain ⟨q, e, hq⟩ := rec_cells h2
      exact ⟨q, fun j hj => by rw [h3 j hj, e], hq⟩
    obtain ⟨q, hq⟩ := choose_lt each
    refine ⟨(List.range len).map q, .inr ⟨a, cap, by simp, by simpa using hl, fun h0 => ?_⟩, fun x hx => ?_, by simp; omega⟩
    · have h0' : 0 < len := by simpa using h0
      have hsp : a.spot = none := by
        have h1 := (hq 0 h0').1 0 (by decide)
        obtain ⟨b, o, s⟩ := a
        cases s with
        | none => rfl
        | some s => simp [World.cell?, Addr.add] at h1; split at h1 <;> simp at h1
      refine ⟨a.block, a.off, by obtain ⟨b, o, s⟩ := a; simp only at hsp; subst hsp; rfl, fun k hk => ?_⟩
      have hk' : k < len := by simpa using hk
      have h1 := (hq k hk').1
      rw [add_off a _ hsp] at h1
      have h2 : ∀ j, j < 5 → W.cell? ⟨a.block, a.off + k * 5 + j, none⟩ = [.int .i64 (q k).o, .int .i64 (q k).s, .int .i64 (q k).w, .int .i64 (q k).c, .string (q k).t][j]? := fun j hj => by
        rw [← h1 j hj, add_plain]
      simp only [List.getElem_map, List.getElem_range]
      exact ⟨h2 0 (by decide), h2 1 (by decide), h2 2 (by decide), h2 3 (by decide), h2 4 (by decide)⟩
    · obtain ⟨i, hi2, rfl⟩ := List.mem_map.1 hx
      have := (hq i (by simpa using hi2)).2
      unfold maxLen at this
      omega
end Go.Proofs.YtdjlgiinekighaaGreatDoor.R
/-
  GreatRecords, by contract.
-/
namespace Go.Proofs.YtdjlgiinekighaaGreatDoor.R
open Go.RowKit Go.Lib

def longB : List Rc → Bool
  | [] => false
  | r :: t => decide (300 < (r.t.size : Int)) || longB t
def greatB (l : List Rc) (m : Nat) : Bool := decide (m < l.length) || longB l
theorem longB_mem : ∀ {l : List Rc}, longB l = false → ∀ r ∈ l, r.t.size ≤ 300
  | [], _, _, h => by simp at h
  | x :: t, h, r, hr => by
    rw [longB] at h
    simp only [Bool.or_eq_false_iff, decide_eq_false_iff_not] at h
    rcases List.mem_cons.1 hr with rfl | hr
    · omega
    · exact longB_mem h.2 r hr
theorem greatB_no {l : List Rc} {m : Nat} (h : greatB l m = false) : l.length ≤ m ∧ ∀ r ∈ l, r.t.size ≤ 300 := by
  unfold greatB at h
  simp only [Bool.or_eq_false_iff, decide_eq_false_iff_not] at h
  exact ⟨by omega, longB_mem h.2⟩

set_option maxHeartbeats 4000000 in
theorem great_c (l : List Rc) (v : Value) (m : Nat) (w : World) (h : Rl w v l) (hm : m ≤ 1000) (hl : l.length ≤ maxLen) :
    Calls Tryz.prog 27 #[v, .int .i64 (m : Int)] w fun e w' => e = .returned (.bool (greatB l m)) ∧ Below w.heap.size w w' := by
  obtain ⟨ad, cap, rfl, hc, hb⟩ := h.form
  have HB := Lib.hid hb
  unfold maxLen at hl
  clear h hb
  unfold greatB
  by_cases h0 : m < l.length
  · have e1 : decide (l.length ≤ m) = false := by simp; omega
    have e2 : decide (m < l.length) = true := by simp; omega
    rw [decide_eq_true h0, Bool.true_or]
    go_enter Tryz.func27, Tryz.ntmps27
    go_wp2
    go_loopw [5] (fun v5 wr => v5 = .int .i64 0 ∧ wr = w) (fun _ _ => 0)
    case atStart => exact ⟨rfl, rfl⟩
    case round =>
      obtain ⟨rfl, rfl⟩ := hrel
      have e0 : decide ((0 : Int) < (l.length : Int)) = true := by simp; omega
      go_wp2
      go_ret
      exact ⟨rfl, Below.refl _ _⟩
  · have e1 : decide (l.length ≤ m) = true := by simp; omega
    have e2 : decide (m < l.length) = false := by simp; omega
    rw [decide_eq_false h0, Bool.false_or]
    have hlm : l.length ≤ 1000 := by omega
    clear h0
    go_enter Tryz.func27, Tryz.ntmps27
    go_wp2
    go_loopw [5] (fun v5 wr => ∃ k : Nat, k ≤ l.length ∧ v5 = .int .i64 (k : Int) ∧ Hid (longB (l.drop k) = longB l) ∧ wr = w) (fun v5 _ => l.length - (RowKit.intOf v5).toNat)
    case atStart => exact ⟨0, by omega, rfl, Lib.hid rfl, rfl⟩
    case round =>
      obtain ⟨k, hk, rfl, hs, rfl⟩ := hrel
      by_cases hp : k < l.length
      · have e0 : decide ((k : Int) < (l.length : Int)) = true := by simp; omega
        obtain ⟨b, o, rfl, hR⟩ := HB.out (by omega)
        obtain ⟨_, _, _, _, c4⟩ := hR k hp
        have hbl : b < wr.heap.size := World.block_lt_of_cell? wr _ c4
        have hs' := hs.out
        rw [List.drop_eq_getElem_cons hp, longB] at hs'
        clear hs hR
        generalize l[k].t = T at c4 hs'
        by_cases hx : 300 < (T.size : Int)
        · have e3 : decide (300 < (T.size : Int)) = true := by simpa using hx
          rw [e3, Bool.true_or] at hs'
          have HS := Lib.hid hs'
          clear hs'
          go_wp2
          go_ret
          exact ⟨by rw [← HS.out]; rfl, Below.refl _ _⟩
        · have e3 : decide (300 < (T.size : Int)) = false := by simpa using hx
          rw [e3, Bool.false_or] at hs'
          have HS := Lib.hid hs'
          clear hs'
          go_wp2
          go_roundw
          case rel => exact ⟨k + 1, hp, by go_num, HS, trivial⟩
          case measure => simp [RowKit.intOf]; omega
      · have e0 : decide ((k : Int) < (l.length : Int)) = false := by simp; omega
        have hs' := hs.out
        rw [List.drop_eq_nil_of_le (by omega), longB] at hs'
        have HS := Lib.hid hs'
        clear hs' hs
        go_wp2
        go_ret
        exact ⟨by rw [← HS.out]; rfl, Below.refl _ _⟩
end Go.Proofs.YtdjlgiinekighaaGreatDoor.R
