/-
  Take, of both kinds of numbers, by contract.
-/
import Derived.Test.YtcnpckdchjjeoaaDoorMFrmByte
namespace Go.Proofs.YtcnpckdchjjeoaaDoor
open Go.RowKit Go.Lib
set_option maxRecDepth 100000
theorem or_i64 (n x : Int) (h0 : 0 ≤ n) (h1 : n < 1099511627776) (h2 : 0 ≤ x) (h3 : x < 256) : bits .or .i64 (n * 256) x = n * 256 + x := by
  obtain ⟨N, rfl⟩ := Int.eq_ofNat_of_zero_le h0
  obtain ⟨X, rfl⟩ := Int.eq_ofNat_of_zero_le h2
  show IntKind.i64.wrap ((BitVec.ofInt 64 ((N : Int) * 256) ||| BitVec.ofInt 64 (X : Int)).toNat : Int) = _
  have e : ((N : Int) * 256) = ((N * 256 : Nat) : Int) := by simp
  rw [e, BitVec.toNat_or, ofInt_u64 (N * 256) (by omega), ofInt_u64 X (by omega), IntKind.wrap_i64]
  have h := Nat.shiftLeft_add_eq_or_of_lt (show X < 2 ^ 8 by omega) N
  rw [Nat.shiftLeft_eq] at h
  rw [show N * 256 ||| X = N * 256 + X from h.symm]
  omega

theorem unB_lt7 (l : List Int) (h : OkB l) (hn : l.length ≤ 7) : 0 ≤ unB 0 l ∧ unB 0 l < 72057594037927936 := by
  have h1 := unB_bound l 0 h (by omega)
  refine ⟨h1.1, Int.lt_of_lt_of_le h1.2 ?_⟩
  have h2 : (256 : Nat) ^ l.length ≤ 256 ^ 7 := Nat.pow_le_pow_right (by decide) hn
  have h3 : ((256 ^ l.length : Nat) : Int) ≤ ((256 ^ 7 : Nat) : Int) := Int.ofNat_le.2 h2
  simpa using h3
theorem or_u64 (n x : Int) (h0 : 0 ≤ n) (h1 : n < 72057594037927936) (h2 : 0 ≤ x) (h3 : x < 256) : bits .or .u64 (n * 256) x = n * 256 + x := by
  obtain ⟨N, rfl⟩ := Int.eq_ofNat_of_zero_le h0
  obtain ⟨X, rfl⟩ := Int.eq_ofNat_of_zero_le h2
  show IntKind.u64.wrap ((BitVec.ofInt 64 ((N : Int) * 256) ||| BitVec.ofInt 64 (X : Int)).toNat : Int) = _
  have e : ((N : Int) * 256) = ((N * 256 : Nat) : Int) := by simp
  rw [e, BitVec.toNat_or, ofInt_u64 (N * 256) (by omega), ofInt_u64 X (by omega), IntKind.wrap_u64]
  have h := Nat.shiftLeft_add_eq_or_of_lt (show X < 2 ^ 8 by omega) N
  rw [Nat.shiftLeft_eq] at h
  rw [show N * 256 ||| X = N * 256 + X from h.symm]
  omega
def takeT (K : IntKind) (l : List Int) (many : Nat) (w : World) (e : Ending) (w' : World) : Prop :=
  ∃ A C, e = .returned (.tuple #[.int K (unB 0 (l.take many)), .slice A (l.length - many) C]) ∧ Bc w' (.slice A (l.length - many) C) (l.drop many) ∧ Below w.heap.size w w'

set_option maxHeartbeats 4000000 in
theorem take_c (l : List Int) (v : Value) (many : Nat) (w : World) (h : Bc w v l) (ho : OkB l) (hm : many ≤ l.length) (hm6 : many ≤ 6) (h0 : 0 < many) (hl : l.length ≤ 1000000) :
    Calls Tryd.prog 79 #[v, .int .i64 (many : Int)] w (takeT .i64 l many w) := by
  obtain ⟨ad, cap, rfl, hcap⟩ := h.2
  obtain ⟨A1, C1, e1, p1⟩ := h.piece 0 many (by omega) hm
  obtain ⟨A2, C2, e2, p2⟩ := h.piece many l.length hm (Nat.le_refl _)
  rw [Nat.sub_zero] at e1 p1
  have r1 : ∀ W, (Instr.sliceAt 33 (.slice ad l.length cap) none (some (.int .i64 (many : Int))) none).run Tryd.prog W = .ok (.slice A1 many C1) W := fun W => by
    rw [← e1]
    exact slice_any_run ad _ cap _ _ _ _ W (by simp [Instr.sliceBounds, run_sliceBound_if, show many ≤ cap by omega])
  have r2 : ∀ W, (Instr.sliceAt 33 (.slice ad l.length cap) (some (.int .i64 (many : Int))) none none).run Tryd.prog W = .ok (.slice A2 (l.length - many) C2) W := fun W => by
    rw [← e2]
    exact slice_any_run ad _ cap _ _ _ _ W (by simp [Instr.sliceBounds, run_sliceBound_if, hm])
  have hp := (p1 w h).1
  obtain ⟨ad', cap', e', hb⟩ := hp.form
  have hlen : ((l.drop 0).take many).length = many := by simp; omega
  rw [hlen] at e' hb
  simp only [Value.slice.injEq] at e'
  obtain ⟨rfl, _, rfl⟩ := e'
  obtain ⟨b, o, rfl, hby⟩ := hb h0
  rw [List.drop_zero] at hby
  have P2 : Hid (Bc w (.slice A2 (l.length - many) C2) (l.drop many)) := Lib.hid (by have := p2 w h; rwa [List.take_of_length_le (by simp)] at this)
  have H : Hid (Byts w b o (l.take many)) := Lib.hid hby
  have HO := Lib.hid ho
  have R1 := Lib.hid r1
  clear e1 e2 p1 p2 hp hlen hb hby ho h r1
  go_enter Tryd.func79, Tryd.ntmps79
  go_wp2_with (refine wpList_slice_run rfl 33 _ _ _ rfl _ (R1.out _) ?_)
  go_loopw [6, 13] (fun v6 v13 wr => ∃ (k : Nat) (N : Int), k ≤ many ∧ v13 = .int .i64 (k : Int) ∧ v6 = .int .i64 N ∧ Hid (N = unB 0 (l.take k)) ∧ wr = w) (fun _ v13 _ => many - (RowKit.intOf v13).toNat)
  case atStart => exact ⟨0, 0, by omega, rfl, rfl, Lib.hid rfl, rfl⟩
  case round =>
    obtain ⟨k, N, hk, rfl, rfl, hN, rfl⟩ := hrel
    by_cases hp : k < many
    · have hkl : k < l.length := by omega
      have c0 := H.out k (by rw [List.length_take]; omega)
      rw [List.getElem_take] at c0
      have hx := HO.out.at k hkl
      have hn := unB_lt5 (l.take k) (HO.out.take k) (by rw [List.length_take]; omega)
      rw [← hN.out] at hn
      have hs := unB_step l k hkl
      rw [← hN.out] at hs
      generalize l[k] = x at c0 hx hs
      have hor := or_i64 N x hn.1 hn.2 hx.1 hx.2
      have HS := Lib.hid hs
      obtain ⟨n0, n1⟩ := hn
      obtain ⟨x0, x1⟩ := hx
      have hbl : b < wr.heap.size := World.block_lt_of_cell? wr _ c0
      clear hs hN
      go_wp2
      go_roundw
      case rel => exact ⟨k + 1, N * 256 + x, hp, by go_num, rfl, Lib.hid HS.out.symm, trivial⟩
      case measure => simp [RowKit.intOf]; omega
    · have hkk : k = many := by omega
      subst hkk
      go_wp2
      go_quiet (fail)
      go_wp2
      go_ret2
      exact ⟨A2, C2, by rw [← hN.out]; rfl, P2.out.below (below_drewN (Below.refl _ _) nq), below_drewN (Below.refl _ _) nq⟩
set_option maxHeartbeats 4000000 in
theorem takeu_c (l : List Int) (v : Value) (many : Nat) (w : World) (h : Bc w v l) (ho : OkB l) (hm : many ≤ l.length) (hm6 : many ≤ 8) (h0 : 0 < many) (hl : l.length ≤ 1000000) :
    Calls Tryd.prog 80 #[v, .int .i64 (many : Int)] w (takeT .u64 l many w) := by
  obtain ⟨ad, cap, rfl, hcap⟩ := h.2
  obtain ⟨A1, C1, e1, p1⟩ := h.piece 0 many (by omega) hm
  obtain ⟨A2, C2, e2, p2⟩ := h.piece many l.length hm (Nat.le_refl _)
  rw [Nat.sub_zero] at e1 p1
  have r1 : ∀ W, (Instr.sliceAt 33 (.slice ad l.length cap) none (some (.int .i64 (many : Int))) none).run Tryd.prog W = .ok (.slice A1 many C1) W := fun W => by
    rw [← e1]
    exact slice_any_run ad _ cap _ _ _ _ W (by simp [Instr.sliceBounds, run_sliceBound_if, show many ≤ cap by omega])
  have r2 : ∀ W, (Instr.sliceAt 33 (.slice ad l.length cap) (some (.int .i64 (many : Int))) none none).run Tryd.prog W = .ok (.slice A2 (l.length - many) C2) W := fun W => by
    rw [← e2]
    exact slice_any_run ad _ cap _ _ _ _ W (by simp [Instr.sliceBounds, run_sliceBound_if, hm])
  have hp := (p1 w h).1
  obtain ⟨ad', cap', e', hb⟩ := hp.form
  have hlen : ((l.drop 0).take many).length = many := by simp; omega
  rw [hlen] at e' hb
  simp only [Value.slice.injEq] at e'
  obtain ⟨rfl, _, rfl⟩ := e'
  obtain ⟨b, o, rfl, hby⟩ := hb h0
  rw [List.drop_zero] at hby
  have P2 : Hid (Bc w (.slice A2 (l.length - many) C2) (l.drop many)) := Lib.hid (by have := p2 w h; rwa [List.take_of_length_le (by simp)] at this)
  have H : Hid (Byts w b o (l.take many)) := Lib.hid hby
  have HO := Lib.hid ho
  have R1 := Lib.hid r1
  clear e1 e2 p1 p2 hp hlen hb hby ho h r1
  go_enter Tryd.func80, Tryd.ntmps80
  go_wp2_with (refine wpList_slice_run rfl 33 _ _ _ rfl _ (R1.out _) ?_)
  go_loopw [6, 13] (fun v6 v13 wr => ∃ (k : Nat) (N : Int), k ≤ many ∧ v13 = .int .i64 (k : Int) ∧ v6 = .int .u64 N ∧ Hid (N = unB 0 (l.take k)) ∧ wr = w) (fun _ v13 _ => many - (RowKit.intOf v13).toNat)
  case atStart => exact ⟨0, 0, by omega, rfl, rfl, Lib.hid rfl, rfl⟩
  case round =>
    obtain ⟨k, N, hk, rfl, rfl, hN, rfl⟩ := hrel
    by_cases hp : k < many
    · have hkl : k < l.length := by omega
      have c0 := H.out k (by rw [List.length_take]; omega)
      rw [List.getElem_take] at c0
      have hx := HO.out.at k hkl
      have hn := unB_lt7 (l.take k) (HO.out.take k) (by rw [List.length_take]; omega)
      rw [← hN.out] at hn
      have hs := unB_step l k hkl
      rw [← hN.out] at hs
      generalize l[k] = x at c0 hx hs
      have hor := or_u64 N x hn.1 hn.2 hx.1 hx.2
      have HS := Lib.hid hs
      obtain ⟨n0, n1⟩ := hn
      obtain ⟨x0, x1⟩ := hx
      have hbl : b < wr.heap.size := World.block_lt_of_cell? wr _ c0
      clear hs hN
      go_wp2
      go_roundw
      case rel => exact ⟨k + 1, N * 256 + x, hp, by go_num, rfl, Lib.hid HS.out.symm, trivial⟩
      case measure => simp [RowKit.intOf]; omega
    · have hkk : k = many := by omega
      subst hkk
      go_wp2
      go_quiet (fail)
      go_wp2
      go_ret2
      exact ⟨A2, C2, by rw [← hN.out]; rfl, P2.out.below (below_drewN (Below.refl _ _) nq), below_drewN (Below.refl _ _) nq⟩
end Go.Proofs.YtcnpckdchjjeoaaDoor
