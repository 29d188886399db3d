/-
  The two tables of unicode/utf8, in place; utf8.ValidString by contract.
-/
import Derived.Test.YtjmkphnppegegaaGreatDoorShelf
import Derived.Test.YtjmkphnppegegaaGreatDoorProg
import Derived.Test.YtjmkphnppegegaaGreatDoorChecked
import Derived.WalkKit
import Derived.WalkMore
import Derived.BigCall
import Derived.Below
import Derived.Lib.Hide
import Derived.Lib.ValidU
import Derived.Deep.QuietTactic
import Derived.BigQuiet
import Derived.Shelf.Unicode.ValidAny
import Derived.Test.YtjmkphnppegegaaGreatDoorPkA
import Derived.OwnWalk
import Derived.Laws.OwnMore
import Derived.WalkSmall
import Derived.Laws.StructEq
import Derived.Deep.AppendLies
import Derived.Deep.RegionHeld3
import Derived.Deep.DeepCutAuto
import Derived.Deep.OwnRows
import Derived.IntWalk
import Derived.Lib.SliceRun
import Derived.Maps.AppendAt
import Derived.BigRegion
import Derived.Deep.DeepAppendRoom
import Derived.Lib.AppendStr
import Derived.Laws.BytesArg
import Derived.Laws.BitsAllLaws
namespace Go.Proofs.YtjmkphnppegegaaGreatDoor
open Go.RowKit Go.Shelf Go.Lib
set_option maxRecDepth 100000
theorem below_two (w : World) (o o' : Obj) : Below w.heap.size w ((w.alloc o).alloc o') := ((Below.refl _ _).alloc (Nat.le_refl _) _).alloc (by simp) _
/-- The library's two tables are in place. -/
def Tabs (w : World) : Prop := Lib.Utf8Tabs (Tryz.lays196_ren.g 3) (Tryz.lays196_ren.g 4) w
theorem Tabs.below {w w' : World} (h : Tabs w) (hb : Below w.heap.size w w') : Tabs w' := by
  have k : ∀ {a : Addr} {v : Value}, w.cell? a = some v → w'.cell? a = some v := fun {a v} hc => (hb.cell (World.block_lt_of_cell? w a hc)).trans hc
  exact ⟨fun c hc => k (h.1 c hc), fun i hi => ⟨k (h.2 i hi).1, k (h.2 i hi).2⟩⟩
theorem valid_c (s : ByteArray) (w : World) (hs : s.size ≤ 9223372036854775807) (hT : Tabs w) :
    Calls Tryz.prog 73 #[.string s] w fun e w' => e = .returned (.bool (Lib.validD s.data.toList)) ∧ Below w.heap.size w w' :=
  Any.utf8_ValidString Tryz.lays196 s w hs hT
end Go.Proofs.YtjmkphnppegegaaGreatDoor
/-
  The leaves beneath package record: stamps and texts that may be, by contract.
-/
namespace Go.Proofs.YtjmkphnppegegaaGreatDoor
open Go.RowKit Go.Lib
set_option maxRecDepth 100000
def inB (n m : Int) : Bool := decide (0 ≤ n) && decide (n ≤ m)
def smayB (a c : Int) : Bool := inB a 1099511627776 && inB c 65535
def slessB (a c b d : Int) : Bool := decide (a < b) || (decide (a = b) && decide (c < d))

theorem swall_c (n : Int) (w : World) : Calls Tryz.prog 96 #[.int .i64 n] w fun e w' => e = .returned (.bool (inB n 1099511627776)) ∧ w = w' := by
  unfold inB
  by_cases h1 : 0 ≤ n
  · by_cases h2 : n ≤ 1099511627776
    · have e1 : decide (0 ≤ n) = true := by simpa using h1
      have e2 : decide (n ≤ 1099511627776) = true := by simpa using h2
      go_enter Tryz.func96, Tryz.ntmps96
      go_wp2
      go_ret
      first | (simp; done) | (simp; omega)
    · have e1 : decide (0 ≤ n) = true := by simpa using h1
      have e2 : decide (n ≤ 1099511627776) = false := by simpa using h2
      go_enter Tryz.func96, Tryz.ntmps96
      go_wp2
      go_ret
      first | (simp; done) | (simp; omega)
  · have e1 : decide (0 ≤ n) = false := by simpa using h1
    go_enter Tryz.func96, Tryz.ntmps96
    go_wp2
    go_ret
    first | (simp; done) | (simp; omega)

theorem sin_c (n m : Int) (w : World) : Calls Tryz.prog 72 #[.int .i64 n, .int .i64 m] w fun e w' => e = .returned (.bool (inB n m)) ∧ w = w' := by
  unfold inB
  by_cases h1 : 0 ≤ n
  · by_cases h2 : n ≤ m
    · have e1 : decide (0 ≤ n) = true := by simpa using h1
      have e2 : decide (n ≤ m) = true := by simpa using h2
      go_enter Tryz.func72, Tryz.ntmps72
      go_wp2
      go_ret
      first | (simp; done) | (simp; omega)
    · have e1 : decide (0 ≤ n) = true := by simpa using h1
      have e2 : decide (n ≤ m) = false := by simpa using h2
      go_enter Tryz.func72, Tryz.ntmps72
      go_wp2
      go_ret
      first | (simp; done) | (simp; omega)
  · have e1 : decide (0 ≤ n) = false := by simpa using h1
    go_enter Tryz.func72, Tryz.ntmps72
    go_wp2
    go_ret
    first | (simp; done) | (simp; omega)

set_option maxHeartbeats 1000000 in
theorem smay_c (a c : Int) (w : World) : Calls Tryz.prog 74 #[.agg #[.int .i64 a, .int .i64 c]] w fun e w' => e = .returned (.bool (smayB a c)) ∧ Below w.heap.size w w' := by
  have cw := fun W => swall_c a W
  unfold smayB
  generalize inB a 1099511627776 = A at cw ⊢
  have HW := Lib.hid cw
  clear cw
  unfold inB
  cases A
  · go_enter Tryz.func74, Tryz.ntmps74
    go_wp2_with (go_at_call 96; refine (HW.out _).mono ?_; rintro e w' ⟨rfl, rfl⟩)
    go_ret
    exact ⟨rfl, (Below.refl _ _).alloc (Nat.le_refl _) _⟩
  · by_cases h1 : 0 ≤ c
    · by_cases h2 : c ≤ 65535
      · have e1 : decide (0 ≤ c) = true := by simpa using h1
        have e2 : decide (c ≤ 65535) = true := by simpa using h2
        go_enter Tryz.func74, Tryz.ntmps74
        go_wp2_with (go_at_call 96; refine (HW.out _).mono ?_; rintro e w' ⟨rfl, rfl⟩)
        go_ret
        exact ⟨by first | (simp; done) | (simp; omega), (Below.refl _ _).alloc (Nat.le_refl _) _⟩
      · have e1 : decide (0 ≤ c) = true := by simpa using h1
        have e2 : decide (c ≤ 65535) = false := by simpa using h2
        go_enter Tryz.func74, Tryz.ntmps74
        go_wp2_with (go_at_call 96; refine (HW.out _).mono ?_; rintro e w' ⟨rfl, rfl⟩)
        go_ret
        exact ⟨by first | (simp; done) | (simp; omega), (Below.refl _ _).alloc (Nat.le_refl _) _⟩
    · have e1 : decide (0 ≤ c) = false := by simpa using h1
      go_enter Tryz.func74, Tryz.ntmps74
      go_wp2_with (go_at_call 96; refine (HW.out _).mono ?_; rintro e w' ⟨rfl, rfl⟩)
      go_ret
      exact ⟨by first | (simp; done) | (simp; omega), (Below.refl _ _).alloc (Nat.le_refl _) _⟩

set_option maxHeartbeats 1000000 in
theorem srefmay_c (a c : Int) (w : World) : Calls Tryz.prog 53 #[.agg #[.int .i64 a, .int .i64 c]] w fun e w' => e = .returned (.bool (smayB a c)) ∧ Below w.heap.size w w' := by
  have cw := fun W => sin_c a 1099511627776 W
  have cd := fun W => sin_c c 65535 W
  unfold smayB
  generalize inB a 1099511627776 = A at cw ⊢
  generalize inB c 65535 = C at cd ⊢
  have HW := Lib.hid cw
  have HD := Lib.hid cd
  clear cw cd
  cases A
  · go_enter Tryz.func53, Tryz.ntmps53
    go_wp2_with fail
    refine (HW.out _).mono ?_
    rintro e w' ⟨rfl, rfl⟩
    go_wp2
    go_ret
    exact ⟨rfl, (Below.refl _ _).alloc (Nat.le_refl _) _⟩
  · go_enter Tryz.func53, Tryz.ntmps53
    go_wp2_with fail
    refine (HW.out _).mono ?_
    rintro e w' ⟨rfl, rfl⟩
    go_wp2_with fail
    refine (HD.out _).mono ?_
    rintro e w' ⟨rfl, rfl⟩
    go_wp2
    go_ret
    exact ⟨by simp, (Below.refl _ _).alloc (Nat.le_refl _) _⟩

def tmayB (l : List UInt8) : Bool := decide (l.length ≤ 120) && validD l
theorem tmayB_yes {l : List UInt8} (h1 : l.length ≤ 120) (h2 : validD l = true) : tmayB l = true := by simp [tmayB, h1, h2]

set_option maxHeartbeats 1000000 in
theorem tmay_c (s : ByteArray) (w : World) (hs : s.size ≤ 9223372036854775807) (hT : Tabs w) :
    Calls Tryz.prog 75 #[.string s] w fun e w' => e = .returned (.bool (tmayB s.data.toList)) ∧ Below w.heap.size w w' := by
  have cV := valid_c s w hs hT
  unfold tmayB
  rw [← Lib.size_eq]
  generalize validD s.data.toList = V at cV ⊢
  by_cases h : s.size ≤ 120
  · have hz : decide ((s.size : Int) ≤ 120) = true := by simp; omega
    rw [decide_eq_true h, Bool.true_and]
    go_enter Tryz.func75, Tryz.ntmps75
    go_wp2_with (go_at_call 73; refine cV.mono ?_; rintro e w' ⟨rfl, hb⟩)
    go_ret
    exact ⟨rfl, hb⟩
  · have hz : decide ((s.size : Int) ≤ 120) = false := by simp; omega
    rw [decide_eq_false h, Bool.false_and]
    clear cV
    go_enter Tryz.func75, Tryz.ntmps75
    go_wp2
    go_ret
    exact ⟨rfl, Below.refl _ _⟩

set_option maxHeartbeats 1000000 in
theorem trefmay_c (s : ByteArray) (w : World) (hs : s.size ≤ 9223372036854775807) (hT : Tabs w) :
    Calls Tryz.prog 54 #[.string s] w fun e w' => e = .returned (.bool (tmayB s.data.toList)) ∧ Below w.heap.size w w' := by
  have cV := valid_c s w hs hT
  unfold tmayB
  rw [← Lib.size_eq]
  generalize validD s.data.toList = V at cV ⊢
  by_cases h : s.size ≤ 120
  · have hz : decide ((s.size : Int) ≤ 120) = true := by simp; omega
    rw [decide_eq_true h, Bool.true_and]
    go_enter Tryz.func54, Tryz.ntmps54
    go_wp2_with (go_at_call 73; refine cV.mono ?_; rintro e w' ⟨rfl, hb⟩)
    go_ret
    exact ⟨rfl, hb⟩
  · have hz : decide ((s.size : Int) ≤ 120) = false := by simp; omega
    rw [decide_eq_false h, Bool.false_and]
    clear cV
    go_enter Tryz.func54, Tryz.ntmps54
    go_wp2
    go_ret
    exact ⟨rfl, Below.refl _ _⟩
end Go.Proofs.YtjmkphnppegegaaGreatDoor
/-
  Blocks of memory that hold a record, or a head; what stays of them.
-/
namespace Go.Proofs.YtjmkphnppegegaaGreatDoor
open Go.RowKit Go.Lib
set_option maxRecDepth 100000
/-- A record: origin, number, wall, count, text. -/
structure Rc where
  o : Int
  s : Int
  w : Int
  c : Int
  t : ByteArray

theorem Bx.five {T : TypeId} {w : World} {g : Nat} {a b c d e : Value} (h : Bx T w g #[a, b, c, d, e]) :
    w.cell? ⟨g, 0, none⟩ = some a ∧ w.cell? ⟨g, 1, none⟩ = some b ∧ w.cell? ⟨g, 2, none⟩ = some c ∧ w.cell? ⟨g, 3, none⟩ = some d ∧ w.cell? ⟨g, 4, none⟩ = some e :=
  ⟨h.cell 0, h.cell 1, h.cell 2, h.cell 3, h.cell 4⟩
/-- The record r stands boxed in block g. -/
def BxR (w : World) (g : Nat) (r : Rc) : Prop := Bx 41 w g #[.int .i64 r.o, .int .i64 r.s, .int .i64 r.w, .int .i64 r.c, .string r.t]

def keyB (o s : Int) : Bool := decide (0 ≤ o) && (decide (o < 8) && (decide (1 ≤ s) && decide (s ≤ 1023)))
def mayR (r : Rc) : Bool := keyB r.o r.s && (smayB r.w r.c && tmayB r.t.data.toList)
def sameR (a b : Rc) : Bool := (a.o == b.o && a.s == b.s) && ((a.w == b.w && a.c == b.c) && a.t.toList == b.t.toList)
/-! What '==' says of keys, stamps and records. -/
theorem eq_pair (T : TypeId) (hS : Tryz.prog.underlying T = some (.struct (Tryz.prog.fieldsOf T))) (hp : Tryz.prog.stoodInHeld T = false) (a b c d : Int) (w : World)
    (hf : (Tryz.prog.fieldsOf T).toList = (Tryz.prog.fieldsOf 37).toList ∨ (Tryz.prog.fieldsOf T).toList = (Tryz.prog.fieldsOf 39).toList) :
    (Op.equalIn 10000 T (.agg #[.int .i64 a, .int .i64 b]) (.agg #[.int .i64 c, .int .i64 d])).run Tryz.prog w = .ok (a == c && b == d) w := by
  have u3 := Tryz.underlying3
  have a3 := Tryz.isAgg3
  have z3 := Tryz.sizeOf3
  rw [show (10000 : Nat) = 9999 + 1 from rfl, run_equalIn_struct w 9999 T _ _ hS hp]
  rcases hf with hf | hf <;> rw [hf] <;> simp only [Program.fieldsOf, Tryz.underlying37, Tryz.underlying39] <;> go_simp <;>
    (by_cases h1 : a = c <;> by_cases h2 : b = d <;> simp [h1, h2])
theorem eq_key (a b c d : Int) (w : World) : (Op.equalIn 10000 37 (.agg #[.int .i64 a, .int .i64 b]) (.agg #[.int .i64 c, .int .i64 d])).run Tryz.prog w = .ok (a == c && b == d) w :=
  eq_pair _ (by kernel_rfl) (by kernel_rfl) a b c d w (.inl rfl)
theorem eq_stamp (a b c d : Int) (w : World) : (Op.equalIn 10000 39 (.agg #[.int .i64 a, .int .i64 b]) (.agg #[.int .i64 c, .int .i64 d])).run Tryz.prog w = .ok (a == c && b == d) w :=
  eq_pair _ (by kernel_rfl) (by kernel_rfl) a b c d w (.inr rfl)
theorem eq_rec (x y : Rc) (w : World) : (Op.equalIn 10000 41 (.agg #[.int .i64 x.o, .int .i64 x.s, .int .i64 x.w, .int .i64 x.c, .string x.t]) (.agg #[.int .i64 y.o, .int .i64 y.s, .int .i64 y.w, .int .i64 y.c, .string y.t])).run Tryz.prog w = .ok (sameR x y) w := by
  have u9 := Tryz.underlying9
  have a9 := Tryz.isAgg9
  have z9 := Tryz.sizeOf9
  have aK := Tryz.isAgg37
  have zK := Tryz.sizeOf37
  have aS := Tryz.isAgg39
  have zS := Tryz.sizeOf39
  have u3 := Tryz.underlying3
  have a3 := Tryz.isAgg3
  have z3 := Tryz.sizeOf3
  unfold sameR
  rw [show (10000 : Nat) = 9999 + 1 from rfl, run_equalIn_struct w 9999 _ _ _ (by kernel_rfl) (by kernel_rfl)]
  simp only [Program.fieldsOf, Tryz.underlying41]
  go_simp
  by_cases h1 : x.o = y.o <;> by_cases h2 : x.s = y.s <;> by_cases h3 : x.w = y.w <;> by_cases h4 : x.c = y.c <;> by_cases h5 : x.t.toList = y.t.toList <;> simp [h1, h2, h3, h4, h5]
end Go.Proofs.YtjmkphnppegegaaGreatDoor
/-
  May, Same, Before, Less of records, of the program and of chapter 4's own answer, by contract.
-/
namespace Go.Proofs.YtjmkphnppegegaaGreatDoor
open Go.RowKit Go.Lib
set_option maxRecDepth 100000
set_option maxHeartbeats 1000000 in
theorem maykey_c (o s : Int) (w : World) : Calls Tryz.prog 52 #[.agg #[.int .i64 o, .int .i64 s]] w fun e w' => e = .returned (.bool (keyB o s)) ∧ Below w.heap.size w w' := by
  unfold keyB
  by_cases h1 : 0 ≤ o
  · have e1 : decide (0 ≤ o) = true := by simpa using h1
    by_cases h2 : o < 8
    · have e2 : decide (o < 8) = true := by simpa using h2
      by_cases h3 : 1 ≤ s
      · have e3 : decide (1 ≤ s) = true := by simpa using h3
        generalize hC : decide (s ≤ 1023) = C
        go_enter Tryz.func52, Tryz.ntmps52
        go_wp2
        go_ret
        exact ⟨by simp [h1, h2, h3], alloc_below _ _⟩
      · have e3 : decide (1 ≤ s) = false := by simpa using h3
        go_enter Tryz.func52, Tryz.ntmps52
        go_wp2
        go_ret
        exact ⟨by simp, alloc_below _ _⟩
    · have e2 : decide (o < 8) = false := by simpa using h2
      go_enter Tryz.func52, Tryz.ntmps52
      go_wp2
      go_ret
      exact ⟨by simp, alloc_below _ _⟩
  · have e1 : decide (0 ≤ o) = false := by simpa using h1
    go_enter Tryz.func52, Tryz.ntmps52
    go_wp2
    go_ret
    exact ⟨by simp, alloc_below _ _⟩

set_option maxHeartbeats 2000000 in
theorem rcrefmay_c (r : Rc) (w : World) (hs : r.t.size ≤ 9223372036854775807) (hT : Tabs w) :
    Calls Tryz.prog 34 #[.agg #[.int .i64 r.o, .int .i64 r.s, .int .i64 r.w, .int .i64 r.c, .string r.t]] w fun e w' => e = .returned (.bool (mayR r)) ∧ Below w.heap.size w w' := by
  have cK := fun W => maykey_c r.o r.s W
  have cS := fun W => srefmay_c r.w r.c W
  have cT := fun W hT => trefmay_c r.t W hs hT
  unfold mayR
  generalize keyB r.o r.s = K at cK ⊢
  generalize smayB r.w r.c = S at cS ⊢
  generalize tmayB r.t.data.toList = T at cT ⊢
  have HK := Lib.hid cK
  have HS := Lib.hid cS
  have HT := Lib.hid cT
  have hT' := Lib.hid hT
  have hB := Lib.hid (Bx.new 41 w #[.int .i64 r.o, .int .i64 r.s, .int .i64 r.w, .int .i64 r.c, .string r.t])
  clear cK cS cT hT
  cases K
  · go_enter Tryz.func34, Tryz.ntmps34
    go_wp2_with fail
    refine (HK.out _).mono ?_
    rintro e w1 ⟨rfl, b1⟩
    go_wp2
    go_ret
    exact ⟨rfl, bn (alloc_below _ _) b1⟩
  · go_enter Tryz.func34, Tryz.ntmps34
    go_wp2_with fail
    refine (HK.out _).mono ?_
    rintro e w1 ⟨rfl, b1⟩
    obtain ⟨c0, c1, c2, c3, c4⟩ := (hB.out.below b1).five
    have hl := (hB.out.below b1).lt
    go_wp2_with fail
    refine (HS.out _).mono ?_
    rintro e w2 ⟨rfl, b2⟩
    clear c0 c1 c2 c3 c4 hl
    cases S
    · go_wp2
      go_ret
      exact ⟨rfl, bn (bn (alloc_below _ _) b1) b2⟩
    · obtain ⟨c0, c1, c2, c3, c4⟩ := ((hB.out.below b1).below b2).five
      have hl := ((hB.out.below b1).below b2).lt
      go_wp2_with fail
      refine (HT.out _ (hT'.out.below (bn (bn (alloc_below _ _) b1) b2))).mono ?_
      rintro e w3 ⟨rfl, b3⟩
      go_wp2
      go_ret
      exact ⟨by simp, bn (bn (bn (alloc_below _ _) b1) b2) b3⟩

theorem may_no (r : Rc) (w : World) (hK : keyB r.o r.s = false) :
    Calls Tryz.prog 58 #[.agg #[.int .i64 r.o, .int .i64 r.s, .int .i64 r.w, .int .i64 r.c, .string r.t]] w fun e w' => e = .returned (.bool false) ∧ Below w.heap.size w w' := by
  unfold keyB at hK
  by_cases h1 : 0 ≤ r.o
  · have e1 : decide (0 ≤ r.o) = true := by simpa using h1
    by_cases h2 : r.o < 8
    · have e2 : decide (r.o < 8) = true := by simpa using h2
      by_cases h3 : 1 ≤ r.s
      · have e3 : decide (1 ≤ r.s) = true := by simpa using h3
        have e4 : decide (r.s ≤ 1023) = false := by simpa [h1, h2, h3] using hK
        go_enter Tryz.func58, Tryz.ntmps58
        go_wp2
        go_ret
        exact ⟨by simp, alloc_below _ _⟩
      · have e3 : decide (1 ≤ r.s) = false := by simpa using h3
        go_enter Tryz.func58, Tryz.ntmps58
        go_wp2
        go_ret
        exact ⟨by simp, alloc_below _ _⟩
    · have e2 : decide (r.o < 8) = false := by simpa using h2
      go_enter Tryz.func58, Tryz.ntmps58
      go_wp2
      go_ret
      exact ⟨by simp, alloc_below _ _⟩
  · have e1 : decide (0 ≤ r.o) = false := by simpa using h1
    go_enter Tryz.func58, Tryz.ntmps58
    go_wp2
    go_ret
    exact ⟨by simp, alloc_below _ _⟩

set_option maxHeartbeats 2000000 in
theorem rcmay_c (r : Rc) (w : World) (hs : r.t.size ≤ 9223372036854775807) (hT : Tabs w) :
    Calls Tryz.prog 58 #[.agg #[.int .i64 r.o, .int .i64 r.s, .int .i64 r.w, .int .i64 r.c, .string r.t]] w fun e w' => e = .returned (.bool (mayR r)) ∧ Below w.heap.size w w' := by
  cases hK : keyB r.o r.s
  · have h := may_no r w hK
    unfold mayR
    rw [hK, Bool.false_and]
    exact h
  have cS := fun W => smay_c r.w r.c W
  have cT := fun W hT => tmay_c r.t W hs hT
  unfold mayR
  rw [hK, Bool.true_and]
  unfold keyB at hK
  simp only [Bool.and_eq_true] at hK
  obtain ⟨e1, e2, e3, e4⟩ := hK
  generalize smayB r.w r.c = S at cS ⊢
  generalize tmayB r.t.data.toList = T at cT ⊢
  have HS := Lib.hid cS
  have HT := Lib.hid cT
  have hT' := Lib.hid hT
  have hB := Lib.hid (Bx.new 41 w #[.int .i64 r.o, .int .i64 r.s, .int .i64 r.w, .int .i64 r.c, .string r.t])
  clear cS cT hT
  go_enter Tryz.func58, Tryz.ntmps58
  go_wp2_with fail
  refine (HS.out _).mono ?_
  rintro e w2 ⟨rfl, b2⟩
  cases S
  · go_wp2
    go_ret
    exact ⟨rfl, bn (alloc_below _ _) b2⟩
  · obtain ⟨c0, c1, c2, c3, c4⟩ := (hB.out.below b2).five
    have hl := (hB.out.below b2).lt
    go_wp2_with fail
    refine (HT.out _ (hT'.out.below (bn (alloc_below _ _) b2))).mono ?_
    rintro e w3 ⟨rfl, b3⟩
    go_wp2
    go_ret
    exact ⟨by simp, bn (bn (alloc_below _ _) b2) b3⟩
end Go.Proofs.YtjmkphnppegegaaGreatDoor
/-
  A head's bytes, Lay, and chapter 4's own Lay, by contract.
-/
namespace Go.Proofs.YtjmkphnppegegaaGreatDoor
open Go.RowKit Go.Lib
set_option maxRecDepth 100000
def headL (o s wl c n : Int) : List Int := numB o 1 ++ numB s 2 ++ numB wl 6 ++ numB c 2 ++ numB n 1
def txt (t : ByteArray) : List Int := t.data.toList.map fun b => (b.toNat : Int)
def layL (r : Rc) : List Int := headL r.o r.s r.w r.c (r.t.size : Int) ++ txt r.t
theorem headL_len (o s wl c n : Int) : (headL o s wl c n).length = 12 := by simp [headL, numB_len]
theorem txt_len (t : ByteArray) : (txt t).length = t.size := by rw [txt, List.length_map, ← Lib.size_eq]
theorem strCells_txt (t : ByteArray) : strCells t = bys (txt t) := by
  simp [strCells, bys, txt]
theorem layL_len (r : Rc) : (layL r).length = 12 + r.t.size := by simp [layL, headL_len, txt_len]

theorem made_box {T : TypeId} {w w1 : World} {cs : Array Value} (hgr : (w.alloc (.cells cs T)).grownBy w1 none) : Bx T w1 w.heap.size cs ∧ Below w.heap.size w w1 ∧ w.heap.size + 1 ≤ w1.heap.size :=
  ⟨(Bx.new T w cs).far hgr (by simp), bn (alloc_below _ _) (below_of_grown hgr (Nat.le_refl _) (by intro g hg; cases hg)), by have := hgr.size; simpa using this⟩

set_option maxHeartbeats 4000000 in
theorem hlay_c (o s wl c : Int) (n : Nat) (w : World) (hn : n ≤ 1000) :
    Calls Tryz.prog 122 #[.agg #[.int .i64 o, .int .i64 s, .int .i64 wl, .int .i64 c, .int .i64 (n : Int)]] w (rowB w.heap.size (headL o s wl c n) w) := by
  obtain ⟨i0, hi, hz0, hz1, hz2⟩ := info_parts byteInfo
  have HI := Lib.hid hi
  have HZ0 := Lib.hid hz0
  have HZ1 := Lib.hid hz1
  have hb8 : i0.bytes * (12 + n) ≤ 281474976710656 := by rw [hz2]; omega
  clear hi hz0 hz1 hz2
  have HX := Lib.hid (Bx.new 168 w #[.int .i64 o, .int .i64 s, .int .i64 wl, .int .i64 c, .int .i64 (n : Int)])
  go_enter Tryz.func122, Tryz.ntmps122
  go_wp2_with (refine wpList_make_own _ rfl _ _ 78 rfl (w.heap.size + 1) 5 i0 (.int .u8 0) 1 Tryz.underlying78 HI.out HZ0.out HZ1.out .i64 .i64 _ (12 + n) rfl rfl (by omega) hb8 (by unfold maxLen; omega) (by simp) ?_; intro w1 hown1 hgr1; obtain ⟨hx1, hb1, hs1⟩ := made_box hgr1; obtain ⟨c0, c1, c2, c3, c4⟩ := hx1.five; have hl := hx1.lt; have HX1 := Lib.hid hx1; have HO1 := Lib.hid hown1; have HB1 := Lib.hid hb1; clear hb1 hx1 hown1 hgr1)
  refine (put_c [] _ o 1 w1 (w.heap.size + 1) (by have := HO1.out; simpa [BRow, bys] using this) (by decide) (by simp) hs1).mono ?_
  rintro e w2 ⟨v2, rfl, h2, b2⟩
  have hx2 : Bx 168 w2 w.heap.size #[.int .i64 o, .int .i64 s, .int .i64 wl, .int .i64 c, .int .i64 (n : Int)] := (b2.block _ (by omega)).trans HX1.out
  have hs2 := Nat.le_trans hs1 b2.size
  have HB2 : Hid (Below w.heap.size w w2) := Lib.hid (HB1.out.trans (b2.mono (by omega)))
  have H2 := Lib.hid h2
  clear c0 c1 c2 c3 c4 hl h2 b2 HB1 HX1 HO1 hs1
  obtain ⟨c0, c1, c2, c3, c4⟩ := hx2.five
  have hl := hx2.lt
  have HX2 := Lib.hid hx2
  clear hx2
  go_wp2_with fail
  refine (put_c _ _ s 2 w2 (w.heap.size + 1) H2.out (by decide) (by simp [numB_len]) hs2).mono ?_
  rintro e w3 ⟨v3, rfl, h3, b3⟩
  have hx3 : Bx 168 w3 w.heap.size #[.int .i64 o, .int .i64 s, .int .i64 wl, .int .i64 c, .int .i64 (n : Int)] := (b3.block _ (by omega)).trans HX2.out
  have hs3 := Nat.le_trans hs2 b3.size
  have HB3 : Hid (Below w.heap.size w w3) := Lib.hid (HB2.out.trans (b3.mono (by omega)))
  have H3 := Lib.hid h3
  clear c0 c1 c2 c3 c4 hl h3 b3 HB2 HX2 H2 hs2
  obtain ⟨c0, c1, c2, c3, c4⟩ := hx3.five
  have hl := hx3.lt
  have HX3 := Lib.hid hx3
  clear hx3
  go_wp2_with fail
  refine (put_c _ _ wl 6 w3 (w.heap.size + 1) H3.out (by decide) (by simp [numB_len]) hs3).mono ?_
  rintro e w4 ⟨v4, rfl, h4, b4⟩
  have hx4 : Bx 168 w4 w.heap.size #[.int .i64 o, .int .i64 s, .int .i64 wl, .int .i64 c, .int .i64 (n : Int)] := (b4.block _ (by omega)).trans HX3.out
  have hs4 := Nat.le_trans hs3 b4.size
  have HB4 : Hid (Below w.heap.size w w4) := Lib.hid (HB3.out.trans (b4.mono (by omega)))
  have H4 := Lib.hid h4
  clear c0 c1 c2 c3 c4 hl h4 b4 HB3 HX3 H3 hs3
  obtain ⟨c0, c1, c2, c3, c4⟩ := hx4.five
  have hl := hx4.lt
  have HX4 := Lib.hid hx4
  clear hx4
  go_wp2_with fail
  refine (put_c _ _ c 2 w4 (w.heap.size + 1) H4.out (by decide) (by simp [numB_len]) hs4).mono ?_
  rintro e w5 ⟨v5, rfl, h5, b5⟩
  have hx5 : Bx 168 w5 w.heap.size #[.int .i64 o, .int .i64 s, .int .i64 wl, .int .i64 c, .int .i64 (n : Int)] := (b5.block _ (by omega)).trans HX4.out
  have hs5 := Nat.le_trans hs4 b5.size
  have HB5 : Hid (Below w.heap.size w w5) := Lib.hid (HB4.out.trans (b5.mono (by omega)))
  have H5 := Lib.hid h5
  clear c0 c1 c2 c3 c4 hl h5 b5 HB4 HX4 H4 hs4
  obtain ⟨c0, c1, c2, c3, c4⟩ := hx5.five
  have hl := hx5.lt
  clear hx5
  go_wp2_with fail
  refine (put_c _ _ n 1 w5 (w.heap.size + 1) H5.out (by decide) (by simp [numB_len]) hs5).mono ?_
  rintro e w6 ⟨v6, rfl, h6, b6⟩
  go_wp2
  go_ret
  exact ⟨_, rfl, by simpa [headL] using h6.mono (Nat.le_succ _), HB5.out.trans (b6.mono (by omega))⟩

/-- append of a text, as a step of a region that draws. -/
theorem step_append_str {P : Program} {w : World} {ops : Array Oper} {o : Oper} {a : Act} {K : Act → World → Prop} {Q : Exit → Act → World → Prop} {E : Prop} (hgd : o.guard = none) (sl x : Operand) (t u : TypeId)
    (ho : o.op = .call { callee := .builtin .append, args := #[sl, x], argTypes := #[t, u] })
    (base : Nat) (e : TypeId) (i : TypeInfo) (ht : P.underlying t = some (.slice e)) (hu : P.underlying u = some .string) (hi : P.info? e = some i) (hz : i.zero = some (.int .u8 0))
    (hsize : i.size = 1) (hby : i.bytes = 1)
    (v : Value) (n : Nat) (xs : List Value) (hs : a.eval sl = v) (hown : w.ownsRow base e 1 v n xs) (s : ByteArray) (hx : a.eval x = .string s)
    (h63 : n + s.size ≤ maxLen) (hbytes : n + s.size ≤ 140737488355328) (hbase : base ≤ w.heap.size)
    (h : ∀ v' w', w'.ownsRow base e 1 v' (n + s.size) (xs ++ strCells s) → w.grownBy w' v.ownBlock → K (a.put o.dst v') w') :
    if Region.wanted o (yielded ops a.tmps) = true then Oper.wp P o a w K Q else E := by
  have hw : Region.wanted o (yielded ops a.tmps) = true := by simp [Region.wanted, hgd]
  rw [if_pos hw]
  obtain ⟨v', w', hr, h2, h3, h4⟩ := run_append_own_string (P := P) w base t u o.type e i ht hu hi hz hsize hby v n xs hown s h63 hbytes hbase
  unfold Oper.wp execOp
  simp only [ho, resolve, invoke, builtin, Sem.run_bind, Sem.run_pure, Result.andThen_ok, List.map_toArray, List.map_cons, List.map_nil, hs, hx, hr]
  exact h v' w' h2 h3

theorem mayR_size {r : Rc} (h : mayR r = true) : r.t.size ≤ 120 := by
  unfold mayR tmayB at h
  simp only [Bool.and_eq_true, decide_eq_true_eq] at h
  rw [Lib.size_eq]
  exact h.2.2.1

/-- What Lay answers. -/
def rclayT (r : Rc) (w : World) (e : Ending) (w' : World) : Prop :=
  ∃ v, e = .returned (.tuple #[v, .int .i64 (if mayR r then 0 else 2)]) ∧ BRow w' w.heap.size v (if mayR r then layL r else []) ∧ Below w.heap.size w w'

set_option maxHeartbeats 4000000 in
theorem rclay_c (r : Rc) (w : World) (hs : r.t.size ≤ 9223372036854775807) (hT : Tabs w) : Calls Tryz.prog 102 #[.agg #[.int .i64 r.o, .int .i64 r.s, .int .i64 r.w, .int .i64 r.c, .string r.t]] w (rclayT r w) := by
  have HM := Lib.hid (fun W hT => rcmay_c r W hs hT)
  have HX := Lib.hid (Bx.new 41 w #[.int .i64 r.o, .int .i64 r.s, .int .i64 r.w, .int .i64 r.c, .string r.t])
  unfold rclayT
  cases hm : mayR r
  · rw [hm] at HM
    go_enter Tryz.func102, Tryz.ntmps102
    go_wp2_with fail
    refine (HM.out _ (hT.below (alloc_below _ _))).mono ?_
    rintro e w1 ⟨rfl, b1⟩
    go_wp2
    go_ret2
    exact ⟨_, rfl, BRow.nil _ _, bn (alloc_below _ _) b1⟩
  · have hz := mayR_size hm
    rw [hm] at HM
    have HL := Lib.hid (fun W => hlay_c r.o r.s r.w r.c r.t.size W (by omega))
    obtain ⟨i0, hi, hz0, hz1, hz2⟩ := info_parts byteInfo
    have HI := Lib.hid hi
    have HZ0 := Lib.hid hz0
    have HZ1 := Lib.hid hz1
    have HZ2 := Lib.hid hz2
    clear hi hz0 hz1 hz2 hm
    go_enter Tryz.func102, Tryz.ntmps102
    go_wp2_with fail
    refine (HM.out _ (hT.below (alloc_below _ _))).mono ?_
    rintro e w1 ⟨rfl, b1⟩
    have hx := HX.out.below b1
    obtain ⟨c0, c1, c2, c3, c4⟩ := hx.five
    have hl := hx.lt
    have HB1 : Hid (Below w.heap.size w w1) := Lib.hid (bn (alloc_below _ _) b1)
    clear hx b1
    go_wp2_with fail
    obtain ⟨W0, hW0⟩ : ∃ W0, W0 = w1.alloc (.cells #[.int .i64 r.o, .int .i64 r.s, .int .i64 r.w, .int .i64 r.c, .int .i64 (r.t.size : Int)] 168) := ⟨_, rfl⟩
    have HS : Hid (∀ w' : World, Below W0.heap.size W0 w' → w'.cell? ⟨w1.heap.size, 0, none⟩ = some (.int .i64 r.o) ∧ w'.cell? ⟨w1.heap.size, 1, none⟩ = some (.int .i64 r.s) ∧ w'.cell? ⟨w1.heap.size, 2, none⟩ = some (.int .i64 r.w) ∧ w'.cell? ⟨w1.heap.size, 3, none⟩ = some (.int .i64 r.c) ∧ w'.cell? ⟨w1.heap.size, 4, none⟩ = some (.int .i64 (r.t.size : Int)) ∧ w'.cell? ⟨w.heap.size, 4, none⟩ = some (.string r.t)) := Lib.hid (by
      intro w' hb'
      have hn := Bx.new 168 w1 #[.int .i64 r.o, .int .i64 r.s, .int .i64 r.w, .int .i64 r.c, .int .i64 (r.t.size : Int)]
      rw [← hW0] at hn
      obtain ⟨d0, d1, d2, d3, d4⟩ := (hn.below hb').five
      refine ⟨d0, d1, d2, d3, d4, ?_⟩
      refine (hb'.cell (by rw [hW0]; simp; omega)).trans ?_
      rw [hW0]
      exact ((alloc_below w1 _).cell (by exact hl)).trans c4)
    have hz0' : w.heap.size ≤ W0.heap.size := by rw [hW0]; simp; omega
    have HB0 : Hid (Below w.heap.size w W0) := Lib.hid (by rw [hW0]; exact HB1.out.alloc HB1.out.size _)
    rw [← hW0]
    clear hW0 c0 c1 c2 c3 c4 HB1
    go_region_held3 (fun w' => w'.cell? ⟨w1.heap.size, 0, none⟩ = some (.int .i64 r.o) ∧ w'.cell? ⟨w1.heap.size, 1, none⟩ = some (.int .i64 r.s) ∧ w'.cell? ⟨w1.heap.size, 2, none⟩ = some (.int .i64 r.w) ∧ w'.cell? ⟨w1.heap.size, 3, none⟩ = some (.int .i64 r.c) ∧ w'.cell? ⟨w1.heap.size, 4, none⟩ = some (.int .i64 (r.t.size : Int)) ∧ w'.cell? ⟨w.heap.size, 4, none⟩ = some (.string r.t)) (exact HS.out _ (by first | assumption | exact (Below.refl _ _).drew | exact Below.refl _ _))
      (first
      | (go_at_call 122; refine (HL.out _).mono ?_; rintro e w2 ⟨v2, rfl, h2, b2⟩; have b2' : Below W0.heap.size W0 w2 := bn (by first | assumption | exact (Below.refl _ _).drew) b2; clear b2)
      | (refine step_append_str rfl _ _ 78 9 rfl W0.heap.size 5 i0 Tryz.underlying78 Tryz.underlying9 HI.out HZ0.out HZ1.out HZ2.out _ _ _ rfl (by exact h2) _ rfl (by unfold maxLen; rw [headL_len]; omega) (by rw [headL_len]; omega) (by exact b2'.size) ?_; intro v3 w3 hown3 hgr3; have b3' : Below W0.heap.size W0 w3 := b2'.trans (below_of_grown hgr3 b2'.size (fun g hg => (World.ownsRow.lt h2 g hg).1))))
    go_wp2
    go_ret2
    refine ⟨v3, rfl, ?_, HB0.out.trans (b3'.mono hz0')⟩
    have h4 := own_mono hown3 hz0'
    rw [headL_len, strCells_txt] at h4
    show BRow w3 w.heap.size v3 (layL r)
    unfold BRow
    rw [layL_len]
    have e : bys (layL r) = bys (headL r.o r.s r.w r.c (r.t.size : Int)) ++ bys (txt r.t) := by simp [bys, layL]
    rw [e]
    exact h4
end Go.Proofs.YtjmkphnppegegaaGreatDoor
/-
  take, readHead, by contract: the numbers of bytes.
-/
namespace Go.Proofs.YtjmkphnppegegaaGreatDoor
open Go.RowKit Go.Lib
set_option maxRecDepth 100000
def rctakeT (n : Int) (v : Value) (w : World) (e : Ending) (w' : World) : Prop := e = .returned (.tuple #[.int .i64 n, v]) ∧ Below w.heap.size w w'

set_option maxHeartbeats 4000000 in
theorem take_mid (l : List Int) (b o cap many : Nat) (w : World) (hb : Byts w b o l) (ho : OkB l) (hm : many ≤ l.length) (hm6 : many ≤ 6) (h0 : 0 < many) (hl : l.length ≤ 1000000) (hcl : l.length ≤ cap) (hcap : ¬ cap = many) :
    Calls Tryz.prog 140 #[.slice (some ⟨b, o, none⟩) l.length cap, .int .i64 (many : Int)] w (rctakeT (unB 0 (l.take many)) (.slice (some ⟨b, o + many, none⟩) (l.length - many : Nat) (cap - many)) w) := by
  have H := Lib.hid hb
  have HO := Lib.hid ho
  have hc : ¬ cap = 0 := by omega
  have hmc : many ≤ cap := by omega
  clear hb ho
  go_enter Tryz.func140, Tryz.ntmps140
  go_wp2
  go_loopw [6, 13] (fun v6 v13 wr => ∃ (k : Nat) (N : Int), k ≤ many ∧ v13 = .int .i64 (k : Int) ∧ v6 = .int .i64 N ∧ Hid (N = unB 0 (l.take k)) ∧ wr = w) (fun _ v13 _ => many - (RowKit.intOf v13).toNat)
  case atStart => exact ⟨0, 0, by omega, rfl, rfl, Lib.hid rfl, rfl⟩
  case round =>
    obtain ⟨k, N, hk, rfl, rfl, hN, rfl⟩ := hrel
    by_cases hp : k < many
    · have hkl : k < l.length := by omega
      have c0 := H.out k hkl
      have hx := HO.out.at k hkl
      have hn := unB_lt5 (l.take k) (HO.out.take k) (by rw [List.length_take]; omega)
      rw [← hN.out] at hn
      have hs := unB_step l k hkl
      rw [← hN.out] at hs
      generalize l[k] = x at c0 hx hs
      have hor := or_i64 N x hn.1 hn.2 hx.1 hx.2
      have HS := Lib.hid hs
      obtain ⟨n0, n1⟩ := hn
      obtain ⟨x0, x1⟩ := hx
      have hbl : b < wr.heap.size := World.block_lt_of_cell? wr _ c0
      clear hs hN
      go_wp2
      go_roundw
      case rel => exact ⟨k + 1, N * 256 + x, hp, by go_num, rfl, Lib.hid HS.out.symm, trivial⟩
      case measure => simp [RowKit.intOf]; omega
    · have hkk : k = many := by omega
      subst hkk
      go_wp2
      go_quiet (fail)
      go_wp2
      go_ret2
      exact ⟨by rw [← hN.out]; rfl, below_drewN (Below.refl _ _) nq⟩

set_option maxHeartbeats 4000000 in
theorem take_end (l : List Int) (b o : Nat) (w : World) (hb : Byts w b o l) (ho : OkB l) (hm6 : l.length ≤ 6) (h0 : 0 < l.length) :
    Calls Tryz.prog 140 #[.slice (some ⟨b, o, none⟩) l.length l.length, .int .i64 (l.length : Int)] w (rctakeT (unB 0 (l.take l.length)) (.slice (some ⟨b, o, none⟩) 0 0) w) := by
  have H := Lib.hid hb
  have HO := Lib.hid ho
  have hc : ¬ l.length = 0 := by omega
  clear hb ho
  go_enter Tryz.func140, Tryz.ntmps140
  go_wp2
  go_loopw [6, 13] (fun v6 v13 wr => ∃ (k : Nat) (N : Int), k ≤ l.length ∧ v13 = .int .i64 (k : Int) ∧ v6 = .int .i64 N ∧ Hid (N = unB 0 (l.take k)) ∧ wr = w) (fun _ v13 _ => l.length - (RowKit.intOf v13).toNat)
  case atStart => exact ⟨0, 0, by omega, rfl, rfl, Lib.hid rfl, rfl⟩
  case round =>
    obtain ⟨k, N, hk, rfl, rfl, hN, rfl⟩ := hrel
    by_cases hp : k < l.length
    · have hkl : k < l.length := by omega
      have c0 := H.out k hkl
      have hx := HO.out.at k hkl
      have hn := unB_lt5 (l.take k) (HO.out.take k) (by rw [List.length_take]; omega)
      rw [← hN.out] at hn
      have hs := unB_step l k hkl
      rw [← hN.out] at hs
      generalize l[k] = x at c0 hx hs
      have hor := or_i64 N x hn.1 hn.2 hx.1 hx.2
      have HS := Lib.hid hs
      obtain ⟨n0, n1⟩ := hn
      obtain ⟨x0, x1⟩ := hx
      have hbl : b < wr.heap.size := World.block_lt_of_cell? wr _ c0
      clear hs hN
      go_wp2
      go_roundw
      case rel => exact ⟨k + 1, N * 256 + x, hp, by go_num, rfl, Lib.hid HS.out.symm, trivial⟩
      case measure => simp [RowKit.intOf]; omega
    · have hkk : k = l.length := by omega
      subst hkk
      go_wp2
      go_quiet (fail)
      go_wp2
      go_ret2
      exact ⟨by rw [← hN.out]; rfl, below_drewN (Below.refl _ _) nq⟩
end Go.Proofs.YtjmkphnppegegaaGreatDoor
/-
  readHead, by contract.
-/
namespace Go.Proofs.YtjmkphnppegegaaGreatDoor
open Go.RowKit Go.Lib
set_option maxRecDepth 100000
def hdO (h : List Int) : Int := unB 0 (h.take 1)
def hdS (h : List Int) : Int := unB 0 ((h.drop 1).take 2)
def hdW (h : List Int) : Int := unB 0 ((h.drop 3).take 6)
def hdC (h : List Int) : Int := unB 0 ((h.drop 9).take 2)
def hdN (h : List Int) : Int := unB 0 ((h.drop 11).take 1)

/-- take, wherever it stands in a list of twelve. -/
theorem rctake_at (h : List Int) (b o cap k m : Nat) (w : World) (hb : Byts w b o h) (ho : OkB h) (hl : h.length = 12) (hcl : 12 ≤ cap) (hkm : k + m < 12) (hm6 : m ≤ 6) (h0 : 0 < m) :
    Calls Tryz.prog 140 #[.slice (some ⟨b, o + k, none⟩) (12 - k : Nat) (cap - k), .int .i64 (m : Int)] w (rctakeT (unB 0 ((h.drop k).take m)) (.slice (some ⟨b, o + (k + m), none⟩) (12 - (k + m) : Nat) (cap - (k + m))) w) := by
  have h1 := take_mid (h.drop k) b (o + k) (cap - k) m w (hb.drop k) (ho.drop k) (by rw [List.length_drop]; omega) hm6 h0 (by rw [List.length_drop]; omega) (by rw [List.length_drop]; omega) (by omega)
  rw [List.length_drop, hl] at h1
  rw [show 12 - (k + m) = 12 - k - m from by omega, show cap - (k + m) = cap - k - m from by omega, show o + (k + m) = o + k + m from by omega]
  exact h1
theorem take_last (h : List Int) (b o cap : Nat) (w : World) (hb : Byts w b o h) (ho : OkB h) (hl : h.length = 12) (hcl : 12 ≤ cap) :
    Calls Tryz.prog 140 #[.slice (some ⟨b, o + 11, none⟩) 1 (cap - 11), .int .i64 1] w fun e w' => ∃ v, rctakeT (hdN h) v w e w' := by
  by_cases hc : cap = 12
  · have h1 := take_end (h.drop 11) b (o + 11) w (hb.drop 11) (ho.drop 11) (by rw [List.length_drop]; omega) (by rw [List.length_drop]; omega)
    rw [List.length_drop, hl] at h1
    subst hc
    exact h1.mono fun e w' hh => ⟨_, hh⟩
  · have h1 := take_mid (h.drop 11) b (o + 11) (cap - 11) 1 w (hb.drop 11) (ho.drop 11) (by rw [List.length_drop]; omega) (by decide) (by decide) (by rw [List.length_drop]; omega) (by rw [List.length_drop]; omega) (by omega)
    rw [List.length_drop, hl] at h1
    exact h1.mono fun e w' hh => ⟨_, hh⟩

set_option maxHeartbeats 8000000 in
theorem readHead_c (h : List Int) (b o cap : Nat) (w : World) (hb : Byts w b o h) (ho : OkB h) (hl : h.length = 12) (hcl : 12 ≤ cap) :
    Calls Tryz.prog 142 #[.slice (some ⟨b, o, none⟩) 12 cap] w fun e w' => e = .returned (.agg #[.int .i64 (hdO h), .int .i64 (hdS h), .int .i64 (hdW h), .int .i64 (hdC h), .int .i64 (hdN h)]) ∧ Below w.heap.size w w' := by
  have T1 : Hid (∀ W, Below w.heap.size w W → Calls Tryz.prog 140 #[.slice (some ⟨b, o, none⟩) 12 cap, .int .i64 1] W (rctakeT (hdO h) (.slice (some ⟨b, o + 1, none⟩) 11 (cap - 1)) W)) := Lib.hid (fun W hw => rctake_at h b o cap 0 1 W (hb.below hw) ho hl hcl (by decide) (by decide) (by decide))
  have T2 : Hid (∀ W, Below w.heap.size w W → Calls Tryz.prog 140 #[.slice (some ⟨b, o + 1, none⟩) 11 (cap - 1), .int .i64 2] W (rctakeT (hdS h) (.slice (some ⟨b, o + 3, none⟩) 9 (cap - 3)) W)) := Lib.hid (fun W hw => rctake_at h b o cap 1 2 W (hb.below hw) ho hl hcl (by decide) (by decide) (by decide))
  have T3 : Hid (∀ W, Below w.heap.size w W → Calls Tryz.prog 140 #[.slice (some ⟨b, o + 3, none⟩) 9 (cap - 3), .int .i64 6] W (rctakeT (hdW h) (.slice (some ⟨b, o + 9, none⟩) 3 (cap - 9)) W)) := Lib.hid (fun W hw => rctake_at h b o cap 3 6 W (hb.below hw) ho hl hcl (by decide) (by decide) (by decide))
  have T4 : Hid (∀ W, Below w.heap.size w W → Calls Tryz.prog 140 #[.slice (some ⟨b, o + 9, none⟩) 3 (cap - 9), .int .i64 2] W (rctakeT (hdC h) (.slice (some ⟨b, o + 11, none⟩) 1 (cap - 11)) W)) := Lib.hid (fun W hw => rctake_at h b o cap 9 2 W (hb.below hw) ho hl hcl (by decide) (by decide) (by decide))
  have T5 : Hid (∀ W, Below w.heap.size w W → Calls Tryz.prog 140 #[.slice (some ⟨b, o + 11, none⟩) 1 (cap - 11), .int .i64 1] W (fun e w' => ∃ v, rctakeT (hdN h) v W e w')) := Lib.hid (fun W hw => take_last h b o cap W (hb.below hw) ho hl hcl)
  clear hb ho hl hcl
  generalize hdO h = O at T1 ⊢
  generalize hdS h = S at T2 ⊢
  generalize hdW h = W1 at T3 ⊢
  generalize hdC h = C at T4 ⊢
  generalize hdN h = N at T5 ⊢
  have HR := Lib.hid ((Bx.new 168 w #[.int .i64 0, .int .i64 0, .int .i64 0, .int .i64 0, .int .i64 0]).alloc (.cells #[.int .i64 0, .int .i64 0, .int .i64 0, .int .i64 0, .int .i64 0] 168))
  have HH : Hid (Bx 168 ((w.alloc (.cells #[.int .i64 0, .int .i64 0, .int .i64 0, .int .i64 0, .int .i64 0] 168)).alloc (.cells #[.int .i64 0, .int .i64 0, .int .i64 0, .int .i64 0, .int .i64 0] 168)) (w.heap.size + 1) #[.int .i64 0, .int .i64 0, .int .i64 0, .int .i64 0, .int .i64 0]) := Lib.hid (by have h := Bx.new 168 (w.alloc (.cells #[.int .i64 0, .int .i64 0, .int .i64 0, .int .i64 0, .int .i64 0] 168)) #[.int .i64 0, .int .i64 0, .int .i64 0, .int .i64 0, .int .i64 0]; simpa using h)
  go_enter Tryz.func142, Tryz.ntmps142
  go_wp2_with fail
  refine (T1.out _ (below_two _ _ _)).mono ?_
  rintro e w1 ⟨rfl, b1⟩
  have B1 : Hid (Below w.heap.size w w1) := Lib.hid (bn (below_two _ _ _) b1)
  have HR1 : Hid (Bx 168 w1 w.heap.size #[.int .i64 0, .int .i64 0, .int .i64 0, .int .i64 0, .int .i64 0]) := Lib.hid (HR.out.below b1)
  have hh1 : Bx 168 w1 (w.heap.size + 1) #[.int .i64 0, .int .i64 0, .int .i64 0, .int .i64 0, .int .i64 0] := HH.out.below b1
  have HH1 : Hid (Bx 168 (w1.setCell ⟨w.heap.size + 1, 0, none⟩ (.int .i64 O)) (w.heap.size + 1) #[.int .i64 O, .int .i64 0, .int .i64 0, .int .i64 0, .int .i64 0]) := Lib.hid (hh1.set 0 _)
  have hl1 := hh1.lt
  have hc1 := hh1.cell 0
  have hf1 := hh1.soft 0
  have BB1 : Hid (Below w.heap.size w (w1.setCell ⟨w.heap.size + 1, 0, none⟩ (.int .i64 O))) := Lib.hid (B1.out.setCell (by show w.heap.size ≤ w.heap.size + 1; omega) _)
  clear hh1 b1 B1
  simp only [List.getElem?_toArray, List.getElem?_cons_zero] at hc1
  go_wp2_with fail
  refine (T2.out _ BB1.out).mono ?_
  rintro e w2 ⟨rfl, b2⟩
  have B2 : Hid (Below w.heap.size w w2) := Lib.hid (bn BB1.out b2)
  clear hc1 hf1 hl1
  have HR2 : Hid (Bx 168 w2 w.heap.size #[.int .i64 0, .int .i64 0, .int .i64 0, .int .i64 0, .int .i64 0]) := Lib.hid ((HR1.out.setFar (by show w.heap.size ≠ w.heap.size + 1; omega) _).below b2)
  have hh2 : Bx 168 w2 (w.heap.size + 1) #[.int .i64 O, .int .i64 0, .int .i64 0, .int .i64 0, .int .i64 0] := HH1.out.below b2
  have HH2 : Hid (Bx 168 (w2.setCell ⟨w.heap.size + 1, 1, none⟩ (.int .i64 S)) (w.heap.size + 1) #[.int .i64 O, .int .i64 S, .int .i64 0, .int .i64 0, .int .i64 0]) := Lib.hid (hh2.set 1 _)
  have hl2 := hh2.lt
  have hc2 := hh2.cell 1
  have hf2 := hh2.soft 1
  have BB2 : Hid (Below w.heap.size w (w2.setCell ⟨w.heap.size + 1, 1, none⟩ (.int .i64 S))) := Lib.hid (B2.out.setCell (by show w.heap.size ≤ w.heap.size + 1; omega) _)
  clear hh2 b2 B2
  simp only [List.getElem?_toArray, List.getElem?_cons_zero, List.getElem?_cons_succ] at hc2
  go_wp2_with fail
  refine (T3.out _ BB2.out).mono ?_
  rintro e w3 ⟨rfl, b3⟩
  have B3 : Hid (Below w.heap.size w w3) := Lib.hid (bn BB2.out b3)
  clear hc2 hf2 hl2
  have HR3 : Hid (Bx 168 w3 w.heap.size #[.int .i64 0, .int .i64 0, .int .i64 0, .int .i64 0, .int .i64 0]) := Lib.hid ((HR2.out.setFar (by show w.heap.size ≠ w.heap.size + 1; omega) _).below b3)
  have hh3 : Bx 168 w3 (w.heap.size + 1) #[.int .i64 O, .int .i64 S, .int .i64 0, .int .i64 0, .int .i64 0] := HH2.out.below b3
  have HH3 : Hid (Bx 168 (w3.setCell ⟨w.heap.size + 1, 2, none⟩ (.int .i64 W1)) (w.heap.size + 1) #[.int .i64 O, .int .i64 S, .int .i64 W1, .int .i64 0, .int .i64 0]) := Lib.hid (hh3.set 2 _)
  have hl3 := hh3.lt
  have hc3 := hh3.cell 2
  have hf3 := hh3.soft 2
  have BB3 : Hid (Below w.heap.size w (w3.setCell ⟨w.heap.size + 1, 2, none⟩ (.int .i64 W1))) := Lib.hid (B3.out.setCell (by show w.heap.size ≤ w.heap.size + 1; omega) _)
  clear hh3 b3 B3
  simp only [List.getElem?_toArray, List.getElem?_cons_zero, List.getElem?_cons_succ] at hc3
  go_wp2_with fail
  refine (T4.out _ BB3.out).mono ?_
  rintro e w4 ⟨rfl, b4⟩
  have B4 : Hid (Below w.heap.size w w4) := Lib.hid (bn BB3.out b4)
  clear hc3 hf3 hl3
  have HR4 : Hid (Bx 168 w4 w.heap.size #[.int .i64 0, .int .i64 0, .int .i64 0, .int .i64 0, .int .i64 0]) := Lib.hid ((HR3.out.setFar (by show w.heap.size ≠ w.heap.size + 1; omega) _).below b4)
  have hh4 : Bx 168 w4 (w.heap.size + 1) #[.int .i64 O, .int .i64 S, .int .i64 W1, .int .i64 0, .int .i64 0] := HH3.out.below b4
  have HH4 : Hid (Bx 168 (w4.setCell ⟨w.heap.size + 1, 3, none⟩ (.int .i64 C)) (w.heap.size + 1) #[.int .i64 O, .int .i64 S, .int .i64 W1, .int .i64 C, .int .i64 0]) := Lib.hid (hh4.set 3 _)
  have hl4 := hh4.lt
  have hc4 := hh4.cell 3
  have hf4 := hh4.soft 3
  have BB4 : Hid (Below w.heap.size w (w4.setCell ⟨w.heap.size + 1, 3, none⟩ (.int .i64 C))) := Lib.hid (B4.out.setCell (by show w.heap.size ≤ w.heap.size + 1; omega) _)
  clear hh4 b4 B4
  simp only [List.getElem?_toArray, List.getElem?_cons_zero, List.getElem?_cons_succ] at hc4
  go_wp2_with fail
  refine (T5.out _ BB4.out).mono ?_
  rintro e w5 ⟨v5, rfl, b5⟩
  have B5 : Hid (Below w.heap.size w w5) := Lib.hid (bn BB4.out b5)
  clear hc4 hf4 hl4
  have HR5 : Hid (Bx 168 w5 w.heap.size #[.int .i64 0, .int .i64 0, .int .i64 0, .int .i64 0, .int .i64 0]) := Lib.hid ((HR4.out.setFar (by show w.heap.size ≠ w.heap.size + 1; omega) _).below b5)
  have hh5 : Bx 168 w5 (w.heap.size + 1) #[.int .i64 O, .int .i64 S, .int .i64 W1, .int .i64 C, .int .i64 0] := HH4.out.below b5
  have HH5 : Hid (Bx 168 (w5.setCell ⟨w.heap.size + 1, 4, none⟩ (.int .i64 N)) (w.heap.size + 1) #[.int .i64 O, .int .i64 S, .int .i64 W1, .int .i64 C, .int .i64 N]) := Lib.hid (hh5.set 4 _)
  have hl5 := hh5.lt
  have hc5 := hh5.cell 4
  have hf5 := hh5.soft 4
  have BB5 : Hid (Below w.heap.size w (w5.setCell ⟨w.heap.size + 1, 4, none⟩ (.int .i64 N))) := Lib.hid (B5.out.setCell (by show w.heap.size ≤ w.heap.size + 1; omega) _)
  have p0 := hh5.cell 0
  have p1 := hh5.cell 1
  have p2 := hh5.cell 2
  have p3 := hh5.cell 3
  have r0 := HR5.out.cell 0
  have r1 := HR5.out.cell 1
  have r2 := HR5.out.cell 2
  have r3 := HR5.out.cell 3
  have r4 := HR5.out.cell 4
  have s0 := HR5.out.soft 0
  have s1 := HR5.out.soft 1
  have s2 := HR5.out.soft 2
  have s3 := HR5.out.soft 3
  have s4 := HR5.out.soft 4
  have hlr := HR5.out.lt
  clear hh5 b5 B5
  simp only [List.getElem?_toArray, List.getElem?_cons_zero, List.getElem?_cons_succ] at hc5 p0 p1 p2 p3 r0 r1 r2 r3 r4
  go_wp2
  refine bodyPost_ret (v := .agg #[.int .i64 O, .int .i64 S, .int .i64 W1, .int .i64 C, .int .i64 N]) (by simp [results, Tryz.results142, go_sem, r0, r1, r2, r3, r4]) rfl ⟨rfl, ?_⟩
  exact ((((BB5.out.setCell (Nat.le_refl _) _).setCell (Nat.le_refl _) _).setCell (Nat.le_refl _) _).setCell (Nat.le_refl _) _).setCell (Nat.le_refl _) _
end Go.Proofs.YtjmkphnppegegaaGreatDoor
