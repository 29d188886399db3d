/-
  A clock in memory: move, Last, New, countAt, by contract.
-/
import Derived.Test.YtmhonaelkcllhaaStmLeaf
namespace Go.Proofs.Ytmhonaelkcllhaa
open Go.RowKit Go.Lib

/-- Block g holds just a clock: its two numbers. -/
def Clk (T : TypeId) (w : World) (g : Nat) (a c : Int) : Prop := w.heap[g]? = some (.cells #[.int .i64 a, .int .i64 c] T (0, 0))
theorem Clk.lt {T : TypeId} {w : World} {g : Nat} {a c : Int} (h : Clk T w g a c) : g < w.heap.size := (Array.getElem?_eq_some_iff.1 h).1
theorem Clk.cell0 {T : TypeId} {w : World} {g : Nat} {a c : Int} (h : Clk T w g a c) : w.cell? ⟨g, 0, none⟩ = some (.int .i64 a) := by
  rw [cell_of_row w g 0 _ _ _ h]; rfl
theorem Clk.cell1 {T : TypeId} {w : World} {g : Nat} {a c : Int} (h : Clk T w g a c) : w.cell? ⟨g, 1, none⟩ = some (.int .i64 c) := by
  rw [cell_of_row w g 1 _ _ _ h]; rfl
theorem Clk.soft {T : TypeId} {w : World} {g : Nat} {a c : Int} (h : Clk T w g a c) (k : Nat) : w.frozen? ⟨g, k, none⟩ = false := by
  unfold Clk at h
  simp [World.frozen?, h]
theorem Clk.below {T : TypeId} {w w' : World} {g : Nat} {a c : Int} (h : Clk T w g a c) (hb : Below w.heap.size w w') : Clk T w' g a c := (hb.block g h.lt).trans h
theorem Clk.far {T : TypeId} {w w' : World} {g g' : Nat} {a c : Int} (h : Clk T w g a c) (hg : w.grownBy w' (some g')) (hne : g ≠ g') : Clk T w' g a c := (hg.block g h.lt (by simpa using hne)).trans h
theorem Clk.alloc {T : TypeId} {w : World} {g : Nat} {a c : Int} (h : Clk T w g a c) (o : Obj) : Clk T (w.alloc o) g a c := (Below.heap_alloc w o g h.lt).trans h
theorem Clk.set {T : TypeId} {w : World} {g : Nat} {a c : Int} (h : Clk T w g a c) (b d : Int) : Clk T ((w.setCell ⟨g, 0, none⟩ (.int .i64 b)).setCell ⟨g, 1, none⟩ (.int .i64 d)) g b d := by
  unfold Clk at h ⊢
  simp [World.setCell, Array.getElem?_modify, h]
theorem Clk.set1 {T : TypeId} {w : World} {g : Nat} {a c : Int} (h : Clk T w g a c) (d : Int) : Clk T (w.setCell ⟨g, 1, none⟩ (.int .i64 d)) g a d := by
  unfold Clk at h ⊢
  simp [World.setCell, Array.getElem?_modify, h]
theorem grown_refl (w : World) (r : Option Nat) : w.grownBy w r := ⟨rfl, rfl, rfl, Nat.le_refl _, fun _ _ _ => rfl⟩
theorem grown_trans {a b c : World} {r : Option Nat} (h : a.grownBy b r) (k : b.grownBy c r) : a.grownBy c r :=
  ⟨k.os.trans h.os, k.tape.trans h.tape, k.output.trans h.output, Nat.le_trans h.size k.size, fun i hi hne => (k.block i (Nat.lt_of_lt_of_le hi h.size) hne).trans (h.block i hi hne)⟩
theorem grown_below {a b : World} (h : Below a.heap.size a b) (r : Option Nat) : a.grownBy b r := ⟨h.os, h.tape, h.output, h.size, fun i hi _ => h.block i hi⟩
theorem grown_set {a w : World} {g : Nat} (h : a.grownBy w (some g)) (k : Nat) (u : Value) : a.grownBy (w.setCell ⟨g, k, none⟩ u) (some g) :=
  ⟨h.os, h.tape, h.output, by simpa [World.setCell] using h.size, fun i hi hne => (Below.heap_setCell w ⟨g, k, none⟩ u i (by rintro rfl; exact hne rfl)).trans (h.block i hi hne)⟩
theorem grown_alloc {a w : World} {r : Option Nat} (h : a.grownBy w r) (o : Obj) : a.grownBy (w.alloc o) r := grown_trans h (World.grownBy_alloc w o r)
theorem grown_setNew {a w : World} {r : Option Nat} (h : a.grownBy w r) {p : Addr} (hp : a.heap.size ≤ p.block) (u : Value) : a.grownBy (w.setCell p u) r :=
  ⟨h.os, h.tape, h.output, by simpa [World.setCell] using h.size, fun i hi hne => (Below.heap_setCell w p u i (by omega)).trans (h.block i hi hne)⟩
theorem grown_drewN {a w : World} {r : Option Nat} (h : a.grownBy w r) (n : Nat) : a.grownBy (w.drewN n) r := ⟨h.os, h.tape, h.output, h.size, h.block⟩
theorem grown_drew {a w : World} {r : Option Nat} (h : a.grownBy w r) : a.grownBy w.drew r := ⟨h.os, h.tape, h.output, h.size, h.block⟩
theorem Clk.setFar {T : TypeId} {w : World} {g : Nat} {a c : Int} (h : Clk T w g a c) {p : Addr} (hp : g ≠ p.block) (u : Value) : Clk T (w.setCell p u) g a c := (Below.heap_setCell w p u g hp).trans h
theorem below_of_grown {a b : World} {g B : Nat} (h : a.grownBy b (some g)) (hB : B ≤ a.heap.size) (hg : B ≤ g) : Below B a b :=
  ⟨h.os, h.tape, h.output, h.size, fun i hi => h.block i (by omega) (by simp; omega)⟩

set_option maxHeartbeats 1000000 in
theorem move_over (g : Nat) (b d : Int) (w : World) (h : 65535 < d) :
    Calls Try.prog 27 #[.pointer (some ⟨g, 0, none⟩), .agg #[.int .i64 b, .int .i64 d]] w fun e w' => e = .returned (.int .i64 4) ∧ Below w.heap.size w w' := by
  go_enter Try.func27, Try.ntmps27
  go_wp2
  go_ret
  exact ⟨rfl, (Below.refl _ _).alloc (Nat.le_refl _) _⟩

set_option maxHeartbeats 1000000 in
theorem move_ok (T : TypeId) (g : Nat) (a c b d : Int) (w : World) (h : d ≤ 65535) (hk : Clk T w g a c) :
    Calls Try.prog 27 #[.pointer (some ⟨g, 0, none⟩), .agg #[.int .i64 b, .int .i64 d]] w fun e w' => e = .returned (.int .i64 0) ∧ w.grownBy w' (some g) ∧ Clk T w' g b d := by
  have hlt := hk.lt
  have c0 := hk.cell0
  have c1 := hk.cell1
  have f0 := hk.soft 0
  have f1 := hk.soft 1
  have HK := Lib.hid hk
  clear hk
  have h' : ¬ 65535 < d := by omega
  go_enter Try.func27, Try.ntmps27
  go_wp2
  go_ret
  exact ⟨rfl, grown_alloc (grown_set (grown_set (grown_refl _ _) _ _) _ _) _, (HK.out.set b d).alloc _⟩

theorem last_nil (w : World) : Calls Try.prog 18 #[.pointer none] w fun e w' => e = .returned (.agg #[.int .i64 0, .int .i64 0]) ∧ Below w.heap.size w w' := by
  go_enter Try.func18, Try.ntmps18
  go_wp2
  exact bodyPost_ret (v := .agg #[.int .i64 0, .int .i64 0]) (by simp [results, Try.results18, go_sem]) rfl ⟨rfl, (Below.refl _ _).alloc (Nat.le_refl _) _⟩

theorem last_c (T : TypeId) (g : Nat) (a c : Int) (w : World) (hk : Clk T w g a c) : Calls Try.prog 18 #[.pointer (some ⟨g, 0, none⟩)] w fun e w' => e = .returned (.agg #[.int .i64 a, .int .i64 c]) ∧ Below w.heap.size w w' := by
  have hlt := hk.lt
  have c0 := hk.cell0
  have c1 := hk.cell1
  clear hk
  go_enter Try.func18, Try.ntmps18
  go_wp2
  exact bodyPost_ret (v := .agg #[.int .i64 a, .int .i64 c]) (by simp [results, Try.results18, go_sem]) rfl ⟨rfl, (Below.refl _ _).alloc (Nat.le_refl _) _⟩

set_option maxHeartbeats 1000000 in
theorem new_nil (a c : Int) (w : World) (h : mayB a c = false) : Calls Try.prog 17 #[.agg #[.int .i64 a, .int .i64 c]] w fun e w' => e = .returned (.pointer none) ∧ Below w.heap.size w w' := by
  have cm := fun W => may_c a c W
  rw [h] at cm
  have HM := Lib.hid cm
  clear cm h
  go_enter Try.func17, Try.ntmps17
  go_wp2_with (go_at_call 11; refine (HM.out _).mono ?_; rintro e w' ⟨rfl, hb⟩)
  go_ret
  exact ⟨rfl, ((Below.refl _ _).alloc (Nat.le_refl _) _).trans (hb.mono (by simp))⟩

set_option maxHeartbeats 1000000 in
theorem new_c (a c : Int) (w : World) (h : mayB a c = true) : Calls Try.prog 17 #[.agg #[.int .i64 a, .int .i64 c]] w fun e w' => ∃ g, e = .returned (.pointer (some ⟨g, 0, none⟩)) ∧ w.heap.size ≤ g ∧ Clk 57 w' g a c ∧ Below w.heap.size w w' := by
  have cm := fun W => may_c a c W
  rw [h] at cm
  have HM := Lib.hid cm
  clear cm h
  go_enter Try.func17, Try.ntmps17
  go_wp2_with fail
  refine (HM.out _).mono ?_
  rintro e w1 ⟨rfl, hb⟩
  have hz : w.heap.size + 1 ≤ w1.heap.size := by have := hb.size; simpa using this
  have c0 : w1.cell? ⟨w.heap.size, 0, none⟩ = some (.int .i64 a) := (hb.cell (by simp)).trans (by simp [go_sem])
  have c1 : w1.cell? ⟨w.heap.size, 1, none⟩ = some (.int .i64 c) := (hb.cell (by simp)).trans (by simp [go_sem])
  go_wp2
  go_ret
  refine ⟨_, rfl, by omega, heap_alloc_new _ _, ?_⟩
  exact (((Below.refl _ _).alloc (Nat.le_refl _) _).trans (hb.mono (by simp))).alloc (by omega) _

end Go.Proofs.Ytmhonaelkcllhaa
