/-
  take, readHead, by contract: the numbers of bytes.
-/
import Derived.Laws.BitsAllLaws
import Derived.Test.YtcnpckdchjjeoaaDoorMRecLay
namespace Go.Proofs.YtcnpckdchjjeoaaDoor
open Go.RowKit Go.Lib
set_option maxRecDepth 100000
def rctakeT (n : Int) (v : Value) (w : World) (e : Ending) (w' : World) : Prop := e = .returned (.tuple #[.int .i64 n, v]) ∧ Below w.heap.size w w'

set_option maxHeartbeats 4000000 in
theorem take_mid (l : List Int) (b o cap many : Nat) (w : World) (hb : Byts w b o l) (ho : OkB l) (hm : many ≤ l.length) (hm6 : many ≤ 6) (h0 : 0 < many) (hl : l.length ≤ 1000000) (hcl : l.length ≤ cap) (hcap : ¬ cap = many) :
    Calls Tryd.prog 79 #[.slice (some ⟨b, o, none⟩) l.length cap, .int .i64 (many : Int)] w (rctakeT (unB 0 (l.take many)) (.slice (some ⟨b, o + many, none⟩) (l.length - many : Nat) (cap - many)) w) := by
  have H := Lib.hid hb
  have HO := Lib.hid ho
  have hc : ¬ cap = 0 := by omega
  have hmc : many ≤ cap := by omega
  clear hb ho
  go_enter Tryd.func79, Tryd.ntmps79
  go_wp2
  go_loopw [6, 13] (fun v6 v13 wr => ∃ (k : Nat) (N : Int), k ≤ many ∧ v13 = .int .i64 (k : Int) ∧ v6 = .int .i64 N ∧ Hid (N = unB 0 (l.take k)) ∧ wr = w) (fun _ v13 _ => many - (RowKit.intOf v13).toNat)
  case atStart => exact ⟨0, 0, by omega, rfl, rfl, Lib.hid rfl, rfl⟩
  case round =>
    obtain ⟨k, N, hk, rfl, rfl, hN, rfl⟩ := hrel
    by_cases hp : k < many
    · have hkl : k < l.length := by omega
      have c0 := H.out k hkl
      have hx := HO.out.at k hkl
      have hn := unB_lt5 (l.take k) (HO.out.take k) (by rw [List.length_take]; omega)
      rw [← hN.out] at hn
      have hs := unB_step l k hkl
      rw [← hN.out] at hs
      generalize l[k] = x at c0 hx hs
      have hor := or_i64 N x hn.1 hn.2 hx.1 hx.2
      have HS := Lib.hid hs
      obtain ⟨n0, n1⟩ := hn
      obtain ⟨x0, x1⟩ := hx
      have hbl : b < wr.heap.size := World.block_lt_of_cell? wr _ c0
      clear hs hN
      go_wp2
      go_roundw
      case rel => exact ⟨k + 1, N * 256 + x, hp, by go_num, rfl, Lib.hid HS.out.symm, trivial⟩
      case measure => simp [RowKit.intOf]; omega
    · have hkk : k = many := by omega
      subst hkk
      go_wp2
      go_quiet (fail)
      go_wp2
      go_ret2
      exact ⟨by rw [← hN.out]; rfl, below_drewN (Below.refl _ _) nq⟩

set_option maxHeartbeats 4000000 in
theorem take_end (l : List Int) (b o : Nat) (w : World) (hb : Byts w b o l) (ho : OkB l) (hm6 : l.length ≤ 6) (h0 : 0 < l.length) :
    Calls Tryd.prog 79 #[.slice (some ⟨b, o, none⟩) l.length l.length, .int .i64 (l.length : Int)] w (rctakeT (unB 0 (l.take l.length)) (.slice (some ⟨b, o, none⟩) 0 0) w) := by
  have H := Lib.hid hb
  have HO := Lib.hid ho
  have hc : ¬ l.length = 0 := by omega
  clear hb ho
  go_enter Tryd.func79, Tryd.ntmps79
  go_wp2
  go_loopw [6, 13] (fun v6 v13 wr => ∃ (k : Nat) (N : Int), k ≤ l.length ∧ v13 = .int .i64 (k : Int) ∧ v6 = .int .i64 N ∧ Hid (N = unB 0 (l.take k)) ∧ wr = w) (fun _ v13 _ => l.length - (RowKit.intOf v13).toNat)
  case atStart => exact ⟨0, 0, by omega, rfl, rfl, Lib.hid rfl, rfl⟩
  case round =>
    obtain ⟨k, N, hk, rfl, rfl, hN, rfl⟩ := hrel
    by_cases hp : k < l.length
    · have hkl : k < l.length := by omega
      have c0 := H.out k hkl
      have hx := HO.out.at k hkl
      have hn := unB_lt5 (l.take k) (HO.out.take k) (by rw [List.length_take]; omega)
      rw [← hN.out] at hn
      have hs := unB_step l k hkl
      rw [← hN.out] at hs
      generalize l[k] = x at c0 hx hs
      have hor := or_i64 N x hn.1 hn.2 hx.1 hx.2
      have HS := Lib.hid hs
      obtain ⟨n0, n1⟩ := hn
      obtain ⟨x0, x1⟩ := hx
      have hbl : b < wr.heap.size := World.block_lt_of_cell? wr _ c0
      clear hs hN
      go_wp2
      go_roundw
      case rel => exact ⟨k + 1, N * 256 + x, hp, by go_num, rfl, Lib.hid HS.out.symm, trivial⟩
      case measure => simp [RowKit.intOf]; omega
    · have hkk : k = l.length := by omega
      subst hkk
      go_wp2
      go_quiet (fail)
      go_wp2
      go_ret2
      exact ⟨by rw [← hN.out]; rfl, below_drewN (Below.refl _ _) nq⟩
end Go.Proofs.YtcnpckdchjjeoaaDoor
