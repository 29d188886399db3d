/-
  put, and chapter 4's own Num, by contract: so many bytes of a number, the highest one first.
-/
import Derived.Test.YtchkadifjbmmpaaDoorWRecByte
namespace Go.Proofs.YtchkadifjbmmpaaDoor.R
open Go.RowKit Go.Lib
set_option maxRecDepth 100000

def numB (n : Int) : Nat → List Int
  | 0 => []
  | k + 1 => (n / 2 ^ (8 * k)) % 256 :: numB n k
theorem numB_len (n : Int) : ∀ k, (numB n k).length = k
  | 0 => rfl
  | k + 1 => by simp [numB, numB_len n k]

theorem alloc_below_of {B : Nat} {w : World} (h : B ≤ w.heap.size) (o : Obj) : Below B w (w.alloc o) := (Below.refl _ _).alloc h _
/-- What is answered: a row of one's own. -/
def rowB (B : Nat) (l : List Int) (w : World) (e : Ending) (w' : World) : Prop := ∃ v, e = .returned v ∧ BRow w' B v l ∧ Below B w w'

set_option maxHeartbeats 4000000 in
theorem put_c (l : List Int) (v : Value) (n : Int) (many : Nat) (w : World) (B : Nat) (h : BRow w B v l) (hm : many ≤ 8) (hl : l.length ≤ 1000) (hB : B ≤ w.heap.size) :
    Calls Tryd.prog 78 #[v, .int .i64 n, .int .i64 (many : Int)] w (rowB B (l ++ numB n many) w) := by
  obtain ⟨i0, hi, hz0, hz1, hz2⟩ := info_parts byteInfo
  have HI := Lib.hid hi
  have HZ0 := Lib.hid hz0
  have HZ1 := Lib.hid hz1
  have HZ2 := Lib.hid hz2
  clear hi hz0 hz1 hz2
  have H := Lib.hid h
  clear h
  go_enter Tryd.func78, Tryd.ntmps78
  go_wp2
  go_loopw [0, 7] (fun v0 v7 wr => ∃ (k : Nat) (acc : List Int), k ≤ many ∧ v7 = .int .i64 ((k : Int) - 1) ∧ acc.length + k = l.length + many ∧ Hid (acc ++ numB n k = l ++ numB n many) ∧ Hid (BRow wr B v0 acc) ∧ Hid (Below B w wr)) (fun _ v7 _ => ((RowKit.intOf v7) + 1).toNat)
  case atStart => exact ⟨many, l, Nat.le_refl _, by go_num, rfl, Lib.hid rfl, H, Lib.hid (Below.refl _ _)⟩
  case round =>
    obtain ⟨k, acc, hk, rfl, hacc, hx, HR, HB⟩ := hrel
    have hsz := HB.out.size
    cases k with
    | zero =>
      have e0 : decide ((0 : Int) ≤ ((0 : Nat) : Int) - 1) = false := by decide
      have HX := Lib.hid (show acc = l ++ numB n many by have := hx.out; simpa [numB] using this)
      clear hx
      go_wp2
      go_ret
      exact ⟨_, rfl, by rw [← HX.out]; exact HR.out, HB.out⟩
    | succ j =>
      have e0 : decide ((0 : Int) ≤ ((j + 1 : Nat) : Int) - 1) = true := by simp
      obtain ⟨ad, cap, rfl, _⟩ := HR.out.nl.form
      have HX := Lib.hid (show (acc ++ [(n / 2 ^ (8 * j)) % 256]) ++ numB n j = l ++ numB n many by have := hx.out; rw [numB] at this; rw [← this]; simp)
      clear hx
      go_wp2_with (at_builtin; refine wpList_append_own _ rfl _ _ 55 rfl B 5 i0 (.int .u8 0) 1 1 Tryd.underlying55 HI.out HZ0.out HZ1.out HZ2.out rfl (by decide) _ _ _ rfl (World.ownsRow.alloc HR.out _) ⟨wr.heap.size, 0, none⟩ 1 1 [.int .u8 (n / 2 ^ (8 * j) % 256)] rfl rfl (cell_one_new _ _ _) (fun x hx => by simp at hx; subst hx; rfl) (by unfold maxLen; omega) (by omega) (by simp; omega) ?_; intro v' w3 hown3 hgrow3 hnil3)
      go_roundw
      case rel => exact ⟨j, acc ++ [n / 2 ^ (8 * j) % 256], by omega, by go_num, by simp; omega, HX, Lib.hid (by
          unfold BRow
          have e : bys (acc ++ [n / 2 ^ (8 * j) % 256]) = bys acc ++ [.int .u8 (n / 2 ^ (8 * j) % 256)] := by simp [bys]
          rw [e, List.length_append]
          exact hown3), Lib.hid (HB.out.trans ((alloc_below_of (by omega) _).trans (below_of_grown hgrow3 (by simp; omega) (fun g hg => (World.ownsRow.lt HR.out g hg).1))))⟩
      case measure => simp [RowKit.intOf]
set_option maxHeartbeats 4000000 in
theorem refnum_c (l : List Int) (v : Value) (n : Int) (many : Nat) (w : World) (B : Nat) (h : BRow w B v l) (hm : many ≤ 8) (hl : l.length ≤ 1000) (hB : B ≤ w.heap.size) :
    Calls Tryd.prog 54 #[v, .int .i64 n, .int .i64 (many : Int)] w (rowB B (l ++ numB n many) w) := by
  obtain ⟨i0, hi, hz0, hz1, hz2⟩ := info_parts byteInfo
  have HI := Lib.hid hi
  have HZ0 := Lib.hid hz0
  have HZ1 := Lib.hid hz1
  have HZ2 := Lib.hid hz2
  clear hi hz0 hz1 hz2
  have H := Lib.hid h
  clear h
  go_enter Tryd.func54, Tryd.ntmps54
  go_wp2
  go_loopw [0, 7] (fun v0 v7 wr => ∃ (k : Nat) (acc : List Int), k ≤ many ∧ v7 = .int .i64 ((k : Int) - 1) ∧ acc.length + k = l.length + many ∧ Hid (acc ++ numB n k = l ++ numB n many) ∧ Hid (BRow wr B v0 acc) ∧ Hid (Below B w wr)) (fun _ v7 _ => ((RowKit.intOf v7) + 1).toNat)
  case atStart => exact ⟨many, l, Nat.le_refl _, by go_num, rfl, Lib.hid rfl, H, Lib.hid (Below.refl _ _)⟩
  case round =>
    obtain ⟨k, acc, hk, rfl, hacc, hx, HR, HB⟩ := hrel
    have hsz := HB.out.size
    cases k with
    | zero =>
      have e0 : decide ((0 : Int) ≤ ((0 : Nat) : Int) - 1) = false := by decide
      have HX := Lib.hid (show acc = l ++ numB n many by have := hx.out; simpa [numB] using this)
      clear hx
      go_wp2
      go_ret
      exact ⟨_, rfl, by rw [← HX.out]; exact HR.out, HB.out⟩
    | succ j =>
      have e0 : decide ((0 : Int) ≤ ((j + 1 : Nat) : Int) - 1) = true := by simp
      obtain ⟨ad, cap, rfl, _⟩ := HR.out.nl.form
      have HX := Lib.hid (show (acc ++ [(n / 2 ^ (8 * j)) % 256]) ++ numB n j = l ++ numB n many by have := hx.out; rw [numB] at this; rw [← this]; simp)
      clear hx
      go_wp2_with (at_builtin; refine wpList_append_own _ rfl _ _ 55 rfl B 5 i0 (.int .u8 0) 1 1 Tryd.underlying55 HI.out HZ0.out HZ1.out HZ2.out rfl (by decide) _ _ _ rfl (World.ownsRow.alloc HR.out _) ⟨wr.heap.size, 0, none⟩ 1 1 [.int .u8 (n / 2 ^ (8 * j) % 256)] rfl rfl (cell_one_new _ _ _) (fun x hx => by simp at hx; subst hx; rfl) (by unfold maxLen; omega) (by omega) (by simp; omega) ?_; intro v' w3 hown3 hgrow3 hnil3)
      go_roundw
      case rel => exact ⟨j, acc ++ [n / 2 ^ (8 * j) % 256], by omega, by go_num, by simp; omega, HX, Lib.hid (by
          unfold BRow
          have e : bys (acc ++ [n / 2 ^ (8 * j) % 256]) = bys acc ++ [.int .u8 (n / 2 ^ (8 * j) % 256)] := by simp [bys]
          rw [e, List.length_append]
          exact hown3), Lib.hid (HB.out.trans ((alloc_below_of (by omega) _).trans (below_of_grown hgrow3 (by simp; omega) (fun g hg => (World.ownsRow.lt HR.out g hg).1))))⟩
      case measure => simp [RowKit.intOf]
end Go.Proofs.YtchkadifjbmmpaaDoor.R
