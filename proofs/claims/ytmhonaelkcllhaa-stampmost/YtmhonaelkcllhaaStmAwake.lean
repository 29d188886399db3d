/-
  awake answers true; StampNone, as a call.
-/
import Derived.Test.YtmhonaelkcllhaaStmRefSee
namespace Go.Proofs.Ytmhonaelkcllhaa
open Go.RowKit Go.Lib

theorem tick1 : tick 5 2 3 = ⟨0, 5, 3, 5, 3⟩ := by simp [tick, inB]
theorem tick2 : tick 5 3 9 = ⟨0, 9, 0, 9, 0⟩ := by simp [tick, inB]
theorem see1 : see 9 0 9 4 9 = ⟨0, 0, 0, 9, 5⟩ := by simp [see, inB, mayB, mx3, cntF]

theorem grown_cell {a b : World} {g : Nat} (h : a.grownBy b (some g)) {p : Addr} (hp : p.block < a.heap.size) (hne : p.block ≠ g) : b.cell? p = a.cell? p :=
  World.cell?_of_block (h.block p.block hp (by simpa using hne))

set_option maxHeartbeats 4000000 in
theorem awake_c (w : World) : Calls Try.prog 10 #[] w fun e w' => e = .returned (.bool true) ∧ Below w.heap.size w w' := by
  go_enter Try.func10, Try.ntmps10
  go_wp2_with fail
  refine (new_c 5 2 w (by decide)).mono ?_
  rintro e w1 ⟨g, rfl, hg, hk, b1⟩
  have HK1 := Lib.hid hk
  have HB1 := Lib.hid b1
  have hlt1 := hk.lt
  have hs1 := b1.size
  clear hk b1
  go_wp2_with fail
  refine (tick_c 57 g 5 2 3 w1 HK1.out (by omega) (by omega)).mono ?_
  rw [tick1]
  rintro e w2 ⟨rfl, g2, k2⟩
  have HK2 := Lib.hid k2
  have HG2 := Lib.hid g2
  have hs2 := g2.size
  clear k2 g2
  go_wp2_with fail
  refine (tick_c 57 g 5 3 9 _ (by exact HK2.out.alloc _) (by omega) (by omega)).mono ?_
  rw [tick2]
  rintro e w3 ⟨rfl, g3, k3⟩
  have a0 : w3.cell? ⟨w2.heap.size, 0, none⟩ = some (.int .i64 5) := (grown_cell g3 (by simp) (by show w2.heap.size ≠ g; omega)).trans (by simp [go_sem])
  have a1 : w3.cell? ⟨w2.heap.size, 1, none⟩ = some (.int .i64 3) := (grown_cell g3 (by simp) (by show w2.heap.size ≠ g; omega)).trans (by simp [go_sem])
  have hs3 := g3.size
  have hs3' : w2.heap.size + 1 ≤ w3.heap.size := by simpa using hs3
  clear hs3
  have HK3 := Lib.hid k3
  have HG3 := Lib.hid g3
  clear k3 g3
  go_wp2_with fail
  refine (see_c 57 g 9 0 9 4 9 _ (by exact HK3.out.alloc _) (by omega)).mono ?_
  rw [see1]
  rintro e w4 ⟨rfl, g4, k4⟩
  have a40 : w4.cell? ⟨w2.heap.size, 0, none⟩ = some (.int .i64 5) := (grown_cell g4 (by simp; omega) (by show w2.heap.size ≠ g; omega)).trans (by rw [World.cell?_alloc_past _ _ _ (by omega)]; exact a0)
  have a41 : w4.cell? ⟨w2.heap.size, 1, none⟩ = some (.int .i64 3) := (grown_cell g4 (by simp; omega) (by show w2.heap.size ≠ g; omega)).trans (by rw [World.cell?_alloc_past _ _ _ (by omega)]; exact a1)
  have b40 : w4.cell? ⟨w3.heap.size, 0, none⟩ = some (.int .i64 9) := (grown_cell g4 (by simp) (by show w3.heap.size ≠ g; omega)).trans (by simp [go_sem])
  have b41 : w4.cell? ⟨w3.heap.size, 1, none⟩ = some (.int .i64 0) := (grown_cell g4 (by simp) (by show w3.heap.size ≠ g; omega)).trans (by simp [go_sem])
  have hs4 : w3.heap.size + 1 ≤ w4.heap.size := by simpa using g4.size
  have HK4 := Lib.hid k4
  have HG4 := Lib.hid g4
  clear k4 g4
  go_wp2_with fail
  refine (last_c 57 g 9 5 w4 HK4.out).mono ?_
  rintro e w5 ⟨rfl, b5⟩
  have HB5 := Lib.hid b5
  clear b5
  go_wp2_with fail
  refine (new_nil (-1) 0 w5 (by decide)).mono ?_
  rintro e w6 ⟨rfl, b6⟩
  have HB6 := Lib.hid b6
  clear b6
  go_wp2
  go_ret
  refine ⟨rfl, ?_⟩
  have z1 : Below w.heap.size w w1 := HB1.out
  have z2 : Below w.heap.size w1 w2 := below_of_grown HG2.out z1.size hg
  have z3 : Below w.heap.size w2 w3 := ((Below.refl _ _).alloc (by omega) _).trans (below_of_grown HG3.out (by simp; omega) hg)
  have z4 : Below w.heap.size w3 w4 := ((Below.refl _ _).alloc (by omega) _).trans (below_of_grown HG4.out (by simp; omega) hg)
  exact (((z1.trans z2).trans z3).trans z4).trans ((HB5.out.mono (by omega)).trans (HB6.out.mono (by have := HB5.out.size; omega)))

set_option maxHeartbeats 4000000 in
theorem none_c (n : Int) (w : World) : Calls Try.prog 6 #[.int .i64 n] w fun e w' => e = .returned (.bool true) ∧ Below w.heap.size w w' := by
  go_enter Try.func6, Try.ntmps6
  go_wp2_with fail
  refine (tick_nil n w).mono ?_
  rintro e w1 ⟨rfl, b1⟩
  have hs1 := b1.size
  go_wp2_with fail
  refine (see_nil 0 0 n _).mono ?_
  rintro e w2 ⟨rfl, b2⟩
  have hs2 : w1.heap.size + 1 ≤ w2.heap.size := by simpa using b2.size
  go_wp2_with fail
  refine (last_nil w2).mono ?_
  rintro e w3 ⟨rfl, b3⟩
  have hs3 := b3.size
  go_wp2_with fail
  refine (awake_c w3).mono ?_
  rintro e w4 ⟨rfl, b4⟩
  go_wp2
  go_ret
  exact ⟨rfl, (((b1.alloc hs1 _).trans (b2.mono (by simp; omega))).trans (b3.mono (by omega))).trans (b4.mono (by omega))⟩

end Go.Proofs.Ytmhonaelkcllhaa
