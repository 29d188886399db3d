/-
  Chapter 4's own Get, by contract.
-/
import Derived.Test.YtbhhbedpmjamfaaDoorRecReadAll
namespace Go.Proofs.YtbhhbedpmjamfaaDoor
open Go.RowKit Go.Lib

def getT (n : Int) (b : Bool) (w : World) (e : Ending) (w' : World) : Prop := e = .returned (.tuple #[.int .i64 n, .bool b]) ∧ Below w.heap.size w w'

set_option maxHeartbeats 4000000 in
theorem get_no (l : List Int) (ad : Option Addr) (cap : Nat) (at_ : Int) (m : Nat) (w : World) (hl : l.length ≤ 1000000) (hm : m ≤ 6) (h : at_ < 0 ∨ (l.length : Int) < at_ + m) (hr : at_ ≤ 9223372036854775807) :
    Calls Tryd.prog 49 #[.slice ad l.length cap, .int .i64 at_, .int .i64 (m : Int)] w (getT 0 false w) := by
  by_cases h0 : at_ < 0
  · have e0 : decide (at_ < 0) = true := by simpa using h0
    go_enter Tryd.func49, Tryd.ntmps49
    go_wp2
    go_ret2
    exact ⟨rfl, Below.refl _ _⟩
  · have e0 : decide (at_ < 0) = false := by simpa using h0
    by_cases h1 : (l.length : Int) < (m : Int)
    · have e1 : decide ((l.length : Int) < (m : Int)) = true := by simpa using h1
      go_enter Tryd.func49, Tryd.ntmps49
      go_wp2
      go_ret2
      exact ⟨rfl, Below.refl _ _⟩
    · have e1 : decide ((l.length : Int) < (m : Int)) = false := by simpa using h1
      have e2 : decide ((l.length : Int) - (m : Int) < at_) = true := by simp; omega
      go_enter Tryd.func49, Tryd.ntmps49
      go_wp2
      go_ret2
      exact ⟨rfl, Below.refl _ _⟩

set_option maxHeartbeats 4000000 in
theorem get_yes (l : List Int) (b o cap a m : Nat) (w : World) (hb : Byts w b o l) (ho : OkB l) (hl : l.length ≤ 1000000) (hm : m ≤ 6) (h : a + m ≤ l.length) :
    Calls Tryd.prog 49 #[.slice (some ⟨b, o, none⟩) l.length cap, .int .i64 (a : Int), .int .i64 (m : Int)] w (getT (unB 0 ((l.drop a).take m)) true w) := by
  have H := Lib.hid hb
  have HO := Lib.hid ho
  have e0 : decide ((a : Int) < 0) = false := by simp
  have e1 : decide ((l.length : Int) < (m : Int)) = false := by simp; omega
  have e2 : decide ((l.length : Int) - (m : Int) < (a : Int)) = false := by simp; omega
  clear hb ho
  go_enter Tryd.func49, Tryd.ntmps49
  go_wp2
  go_loopw [8, 9] (fun v8 v9 wr => ∃ (k : Nat) (N : Int), k ≤ m ∧ v9 = .int .i64 (k : Int) ∧ v8 = .int .i64 N ∧ Hid (N = unB 0 ((l.drop a).take k)) ∧ wr = w) (fun _ v9 _ => m - (RowKit.intOf v9).toNat)
  case atStart => exact ⟨0, 0, by omega, rfl, rfl, Lib.hid rfl, rfl⟩
  case round =>
    obtain ⟨k, N, hk, rfl, rfl, hN, rfl⟩ := hrel
    by_cases hp : k < m
    · have hkl : k < (l.drop a).length := by rw [List.length_drop]; omega
      have c0 := (H.out.drop a) k hkl
      have hx := (HO.out.drop a).at k hkl
      have hn := unB_lt5 ((l.drop a).take k) ((HO.out.drop a).take k) (by rw [List.length_take]; omega)
      rw [← hN.out] at hn
      have hs := unB_step (l.drop a) k hkl
      rw [← hN.out] at hs
      generalize (l.drop a)[k] = x at c0 hx hs
      rw [Nat.add_assoc] at c0
      have HS := Lib.hid hs
      obtain ⟨n0, n1⟩ := hn
      obtain ⟨x0, x1⟩ := hx
      have hbl : b < wr.heap.size := World.block_lt_of_cell? wr _ c0
      clear hs hN hkl
      go_wp2
      go_roundw
      case rel => exact ⟨k + 1, N * 256 + x, hp, by go_num, rfl, Lib.hid HS.out.symm, trivial⟩
      case measure => simp [RowKit.intOf]; omega
    · have hkk : k = m := by omega
      subst hkk
      go_wp2
      go_ret2
      exact ⟨by rw [← hN.out]; rfl, Below.refl _ _⟩

end Go.Proofs.YtbhhbedpmjamfaaDoor
