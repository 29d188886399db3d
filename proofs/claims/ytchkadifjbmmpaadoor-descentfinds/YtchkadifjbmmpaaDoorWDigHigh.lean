/-
  highestFirst, by contract.
-/
import Derived.Test.YtchkadifjbmmpaaDoorWDigZero1
namespace Go.Proofs.YtchkadifjbmmpaaDoor.D
open Go.RowKit Go.Lib

def hiB (d : Int) (k : Nat) : Int := d / 2 ^ (8 * (7 - k)) % 256
def arr (d : Int) : Nat → Array Value
  | 0 => #[.int .u8 0, .int .u8 0, .int .u8 0, .int .u8 0, .int .u8 0, .int .u8 0, .int .u8 0, .int .u8 0]
  | k + 1 => (arr d k).setIfInBounds k (.int .u8 (hiB d k))
theorem arr_size (d : Int) : ∀ k, (arr d k).size = 8
  | 0 => rfl
  | k + 1 => by simp [arr, arr_size d k]

theorem arr8 (d : Int) : arr d 8 = #[.int .u8 (hiB d 0), .int .u8 (hiB d 1), .int .u8 (hiB d 2), .int .u8 (hiB d 3), .int .u8 (hiB d 4), .int .u8 (hiB d 5), .int .u8 (hiB d 6), .int .u8 (hiB d 7)] := by simp [arr]
theorem hiB7 (d : Int) : hiB d 7 = d % 256 := by simp [hiB]

set_option maxHeartbeats 4000000 in
theorem high_c (d : Int) (w : World) :
    Calls Tryd.prog 72 #[.int .u64 d] w fun e w' => e = .returned (.agg (arr d 8)) ∧ Below w.heap.size w w' := by
  have HR := Lib.hid ((Bx.new 122 w (arr d 0)).alloc (.cells (arr d 0) 122 (0, 0)))
  have HH := Lib.hid (Bx.new 122 (w.alloc (.cells (arr d 0) 122 (0, 0))) (arr d 0))
  go_enter Tryd.func72, Tryd.ntmps72
  go_wp2
  go_loopw [5] (fun vk wr => ∃ (k : Nat), k ≤ 8 ∧ vk = .int .i64 (k : Int) ∧ Hid (Bx 122 wr w.heap.size (arr d 0)) ∧ Hid (Bx 122 wr (w.heap.size + 1) (arr d k)) ∧ Hid (Below w.heap.size w wr)) (fun vk _ => 8 - (RowKit.intOf vk).toNat)
  case atStart => exact ⟨0, by omega, rfl, HR, Lib.hid (by have := HH.out; rw [show (w.alloc (.cells (arr d 0) 122 (0, 0))).heap.size = w.heap.size + 1 by simp] at this; exact this), Lib.hid (((Below.refl _ _).alloc (Nat.le_refl _) _).alloc (by simp) _)⟩
  case round =>
    obtain ⟨k, hk, rfl, hr, hh, hb⟩ := hrel
    clear HR HH
    have hl := hh.out.lt
    by_cases hp : k < 8
    · have hh2 : Hid (Bx 122 (wr.setCell ⟨w.heap.size + 1, k, none⟩ (.int .u8 (hiB d k))) (w.heap.size + 1) (arr d (k + 1))) := Lib.hid (hh.out.set k _)
      have hr2 : Hid (Bx 122 (wr.setCell ⟨w.heap.size + 1, k, none⟩ (.int .u8 (hiB d k))) w.heap.size (arr d 0)) := Lib.hid (hr.out.setFar (by show w.heap.size ≠ w.heap.size + 1; omega) _)
      have hb2 : Hid (Below w.heap.size w (wr.setCell ⟨w.heap.size + 1, k, none⟩ (.int .u8 (hiB d k)))) := Lib.hid (hb.out.setCell (by show w.heap.size ≤ w.heap.size + 1; omega) _)
      have hc := hh.out.cell k
      rw [Array.getElem?_eq_getElem (by rw [arr_size]; exact hp)] at hc
      generalize (arr d k)[k]'(by rw [arr_size]; exact hp) = u at hc
      have hf := hh.out.soft k
      rcases (show k = 0 ∨ k = 1 ∨ k = 2 ∨ k = 3 ∨ k = 4 ∨ k = 5 ∨ k = 6 ∨ k = 7 by omega) with rfl | rfl | rfl | rfl | rfl | rfl | rfl | rfl
      case inr.inr.inr.inr.inr.inr.inr =>
        rw [hiB7] at hr2 hh2 hb2
        go_wp2
        go_roundw
        case rel => exact ⟨_, hp, rfl, hr2, hh2, hb2⟩
        case measure => simp [RowKit.intOf]
      all_goals
        go_wp2
        go_roundw
        case rel => exact ⟨_, hp, rfl, hr2, hh2, hb2⟩
        case measure => simp [RowKit.intOf]
    · have hk8 : k = 8 := by omega
      subst hk8
      have hh8 := hh.out
      rw [arr8] at hh8
      have p0 : wr.cell? ⟨w.heap.size + 1, 0, none⟩ = some (.int .u8 (hiB d 0)) := hh8.cell 0
      have p1 : wr.cell? ⟨w.heap.size + 1, 1, none⟩ = some (.int .u8 (hiB d 1)) := hh8.cell 1
      have p2 : wr.cell? ⟨w.heap.size + 1, 2, none⟩ = some (.int .u8 (hiB d 2)) := hh8.cell 2
      have p3 : wr.cell? ⟨w.heap.size + 1, 3, none⟩ = some (.int .u8 (hiB d 3)) := hh8.cell 3
      have p4 : wr.cell? ⟨w.heap.size + 1, 4, none⟩ = some (.int .u8 (hiB d 4)) := hh8.cell 4
      have p5 : wr.cell? ⟨w.heap.size + 1, 5, none⟩ = some (.int .u8 (hiB d 5)) := hh8.cell 5
      have p6 : wr.cell? ⟨w.heap.size + 1, 6, none⟩ = some (.int .u8 (hiB d 6)) := hh8.cell 6
      have p7 : wr.cell? ⟨w.heap.size + 1, 7, none⟩ = some (.int .u8 (hiB d 7)) := hh8.cell 7
      have r0 : wr.cell? ⟨w.heap.size, 0, none⟩ = some (.int .u8 0) := hr.out.cell 0
      have r1 : wr.cell? ⟨w.heap.size, 1, none⟩ = some (.int .u8 0) := hr.out.cell 1
      have r2 : wr.cell? ⟨w.heap.size, 2, none⟩ = some (.int .u8 0) := hr.out.cell 2
      have r3 : wr.cell? ⟨w.heap.size, 3, none⟩ = some (.int .u8 0) := hr.out.cell 3
      have r4 : wr.cell? ⟨w.heap.size, 4, none⟩ = some (.int .u8 0) := hr.out.cell 4
      have r5 : wr.cell? ⟨w.heap.size, 5, none⟩ = some (.int .u8 0) := hr.out.cell 5
      have r6 : wr.cell? ⟨w.heap.size, 6, none⟩ = some (.int .u8 0) := hr.out.cell 6
      have r7 : wr.cell? ⟨w.heap.size, 7, none⟩ = some (.int .u8 0) := hr.out.cell 7
      have s0 := hr.out.soft 0
      have s1 := hr.out.soft 1
      have s2 := hr.out.soft 2
      have s3 := hr.out.soft 3
      have s4 := hr.out.soft 4
      have s5 := hr.out.soft 5
      have s6 := hr.out.soft 6
      have s7 := hr.out.soft 7
      have hlr := hr.out.lt
      clear hh8
      go_wp2
      refine bodyPost_ret (v := .agg #[.int .u8 (hiB d 0), .int .u8 (hiB d 1), .int .u8 (hiB d 2), .int .u8 (hiB d 3), .int .u8 (hiB d 4), .int .u8 (hiB d 5), .int .u8 (hiB d 6), .int .u8 (hiB d 7)]) (by simp [results, Tryd.results72, go_sem, r0, r1, r2, r3, r4, r5, r6, r7]) rfl ⟨by rw [arr8], ?_⟩
      exact (((((((hb.out.setCell (Nat.le_refl _) _).setCell (Nat.le_refl _) _).setCell (Nat.le_refl _) _).setCell (Nat.le_refl _) _).setCell (Nat.le_refl _) _).setCell (Nat.le_refl _) _).setCell (Nat.le_refl _) _).setCell (Nat.le_refl _) _
end Go.Proofs.YtchkadifjbmmpaaDoor.D
