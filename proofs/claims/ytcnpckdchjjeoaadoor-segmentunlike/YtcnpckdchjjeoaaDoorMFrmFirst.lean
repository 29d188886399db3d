/-
  length, first, by contract.
-/
import Derived.Test.YtcnpckdchjjeoaaDoorMFrmTake
namespace Go.Proofs.YtcnpckdchjjeoaaDoor
open Go.RowKit Go.Lib
set_option maxRecDepth 100000
def kd (l : List Int) : Int := unB 0 ((l.drop 1).take 1)
def sz (l : List Int) : Nat := (unB 0 ((l.drop 2).take 2)).toNat
theorem fsT_short {l : List Int} (h : l.length < 4) : fsT l = none := by
  match l, h with
  | [], _ => rfl
  | [_], _ => rfl
  | [_, _], _ => rfl
  | [_, _, _], _ => rfl
theorem fsT_long {l : List Int} (h : 4 ≤ l.length) : fsT l = if unB 0 (l.take 1) = 71 ∧ 1 ≤ kd l ∧ sz l + 12 ≤ l.length ∧ unB 0 ((l.drop (4 + sz l)).take 8) = fnv 14695981039346656037 (l.take (4 + sz l)) then some (kd l, sz l) else none := by
  match l, h with
  | a :: k :: x :: m :: r, _ =>
    have e1 : kd (a :: k :: x :: m :: r) = k := by simp [kd, unB]
    have e2 : sz (a :: k :: x :: m :: r) = (x * 256 + m).toNat := by simp [sz, unB]
    have e3 : unB 0 ((a :: k :: x :: m :: r).take 1) = a := by simp [unB]
    rw [e1, e2, e3, fsT]
    generalize (x * 256 + m).toNat = n
    have e4 : (a :: k :: x :: m :: r).take (4 + n) = a :: k :: x :: m :: r.take n := by rw [Nat.add_comm]; rfl
    have e5 : (a :: k :: x :: m :: r).drop (4 + n) = r.drop n := by rw [Nat.add_comm]; rfl
    rw [e4, e5]
    have e6 : (n + 12 ≤ (a :: k :: x :: m :: r).length) ↔ (n + 8 ≤ r.length) := by simp
    simp only [e6]
theorem kd_bound {l : List Int} (h : 4 ≤ l.length) (ho : OkB l) : 0 ≤ kd l ∧ kd l < 256 := by
  match l, h with
  | a :: k :: x :: m :: r, _ =>
    have := ho k (by simp)
    simp [kd, unB]; omega
theorem sz_bound {l : List Int} (h : 4 ≤ l.length) (ho : OkB l) : unB 0 ((l.drop 2).take 2) = (sz l : Int) ∧ sz l < 65536 := by
  match l, h with
  | a :: k :: x :: m :: r, _ =>
    have := ho x (by simp)
    have := ho m (by simp)
    simp [sz, unB]; omega

theorem length_c (ad : Option Addr) (n cap : Nat) (w : World) (hn : n ≤ 1000000) :
    Calls Tryd.prog 50 #[.slice ad n cap] w fun e w' => e = .returned (.int .i64 ((n : Int) + 12)) ∧ w = w' := by
  go_enter Tryd.func50, Tryd.ntmps50
  go_wp2
  go_ret
  refine ⟨?_, rfl⟩
  show Ending.returned (.int .i64 (4 + (n : Int) + 8)) = _
  congr 2
  omega

/-- Take, somewhere in bytes. -/
theorem take_at (l : List Int) (A : Option Addr) (N C k m : Nat) (w : World) (h : Bc w (.slice A N C) (l.drop k)) (ho : OkB l) (hN : N + k = l.length) (hm : k + m ≤ l.length) (hm6 : m ≤ 6) (h0 : 0 < m) (hl : l.length ≤ 1000000) :
    Calls Tryd.prog 79 #[.slice A N C, .int .i64 (m : Int)] w fun e w' => ∃ A' N' C', e = .returned (.tuple #[.int .i64 (unB 0 ((l.drop k).take m)), .slice A' N' C']) ∧ Hid (N' + (k + m) = l.length) ∧ Hid (Bc w' (.slice A' N' C') (l.drop (k + m))) ∧ Hid (Below w.heap.size w w') := by
  refine (take_c (l.drop k) _ m w h (ho.drop k) (by rw [List.length_drop]; omega) hm6 h0 (by rw [List.length_drop]; omega)).mono ?_
  rintro e w' ⟨A', C', rfl, h1, h2⟩
  rw [List.drop_drop] at h1
  exact ⟨A', _, C', rfl, Lib.hid (by rw [List.length_drop]; omega), Lib.hid h1, Lib.hid h2⟩

theorem takeu_at (l : List Int) (A : Option Addr) (N C k : Nat) (w : World) (h : Bc w (.slice A N C) (l.drop k)) (ho : OkB l) (hm : k + 8 ≤ l.length) (hl : l.length ≤ 1000000) :
    Calls Tryd.prog 80 #[.slice A N C, .int .i64 8] w fun e w' => ∃ A' N' C', e = .returned (.tuple #[.int .u64 (unB 0 ((l.drop k).take 8)), .slice A' N' C']) ∧ Hid (Below w.heap.size w w') := by
  refine (takeu_c (l.drop k) _ 8 w h (ho.drop k) (by rw [List.length_drop]; omega) (by omega) (by omega) (by rw [List.length_drop]; omega)).mono ?_
  rintro e w' ⟨A', C', rfl, h1, h2⟩
  exact ⟨A', _, C', rfl, Lib.hid h2⟩

def firstT (l : List Int) (w : World) (e : Ending) (w' : World) : Prop :=
  (match fsT l with
  | none => e = .returned (.tuple #[.int .i64 0, .slice none 0 0, .bool false])
  | some (k, n) => ∃ A C, e = .returned (.tuple #[.int .i64 k, .slice A n C, .bool true]) ∧ Bc w' (.slice A n C) ((l.drop 4).take n)) ∧ Below w.heap.size w w'

theorem firstT_no {l : List Int} {w w' : World} (h : fsT l = none) (hb : Below w.heap.size w w') : firstT l w (.returned (.tuple #[.int .i64 0, .slice none 0 0, .bool false])) w' := by
  unfold firstT
  rw [h]
  exact ⟨rfl, hb⟩
theorem firstT_yes {l : List Int} {w w' : World} {k : Int} {n : Nat} {A : Option Addr} {C : Nat} (h : fsT l = some (k, n)) (hc : Bc w' (.slice A n C) ((l.drop 4).take n)) (hb : Below w.heap.size w w') : firstT l w (.returned (.tuple #[.int .i64 k, .slice A n C, .bool true])) w' := by
  unfold firstT
  rw [h]
  exact ⟨⟨A, C, rfl, hc⟩, hb⟩

set_option maxHeartbeats 8000000 in
theorem first_c (l : List Int) (v : Value) (w : World) (h : Bc w v l) (ho : OkB l) (hl : l.length ≤ 1000000) :
    Calls Tryd.prog 73 #[v] w (firstT l w) := by
  obtain ⟨ad, cap, rfl, hcap⟩ := h.2
  by_cases h4 : l.length < 4
  · have HF := Lib.hid (fsT_short h4)
    have e0 : decide ((l.length : Int) < 4) = true := by simp; omega
    go_enter Tryd.func73, Tryd.ntmps73
    go_wp2
    go_ret3
    exact firstT_no HF.out (Below.refl _ _)
  · have h4' : 4 ≤ l.length := by omega
    have e0 : decide ((l.length : Int) < 4) = false := by simp; omega
    obtain ⟨hs1, hs2⟩ := sz_bound h4' ho
    obtain ⟨hk1, hk2⟩ := kd_bound h4' ho
    have HT1 := Lib.hid (fun W (hW : Bc W (.slice ad l.length cap) (l.drop 0)) => take_at l ad l.length cap 0 1 W hW ho (by omega) (by omega) (by omega) (by omega) hl)
    have HT2 := Lib.hid (fun W A N C (hW : Bc W (.slice A N C) (l.drop 1)) (hN : N + 1 = l.length) => take_at l A N C 1 1 W hW ho hN (by omega) (by omega) (by omega) hl)
    have HT3 := Lib.hid (fun W A N C (hW : Bc W (.slice A N C) (l.drop 2)) (hN : N + 2 = l.length) => take_at l A N C 2 2 W hW ho hN (by omega) (by omega) (by omega) hl)
    have HF := Lib.hid (fsT_long h4')
    have H := Lib.hid h
    have HO := Lib.hid ho
    rw [List.drop_zero] at HT1
    rw [hs1] at HT3
    have HK : unB 0 ((l.drop 1).take 1) = kd l := rfl
    rw [HK] at HT2
    generalize unB 0 (l.take 1) = a0 at HT1 HF
    generalize kd l = k0 at HT2 HF hk1 hk2
    generalize sz l = n0 at HT3 HF hs2
    clear hs1 HK h ho
    go_enter Tryd.func73, Tryd.ntmps73
    go_wp2_with fail
    refine (HT1.out w H.out).mono ?_
    rintro e w1 ⟨A1, N1, C1, rfl, hN1, P1, B1⟩
    clear HT1
    go_wp2_with fail
    refine (HT2.out w1 A1 N1 C1 P1.out hN1.out).mono ?_
    rintro e w2 ⟨A2, N2, C2, rfl, hN2, P2, B2⟩
    clear HT2
    go_wp2_with fail
    refine (HT3.out w2 A2 N2 C2 P2.out hN2.out).mono ?_
    rintro e w3 ⟨A3, N3, C3, rfl, hN3, P3, B3⟩
    have HB3 : Hid (Below w.heap.size w w3) := Lib.hid (bn (bn B1.out B2.out) B3.out)
    clear HT3 P1 P2 B1 B2 B3 hN1 hN2
    by_cases c1 : a0 = 71
    · subst c1
      by_cases c2 : 1 ≤ k0
      · have f2 : decide (k0 < 1) = false := by simp; omega
        by_cases c3 : n0 + 8 ≤ N3
        · have f3 : decide ((N3 : Int) < (n0 : Int) + 8) = false := by simp; omega
          have hN3' := hN3.out
          have hcap3 : N3 ≤ C3 := by
            obtain ⟨_, a, c, e, hc⟩ := P3.out
            simp only [Value.slice.injEq] at e
            obtain ⟨_, e2, rfl⟩ := e
            omega
          have hl4 : (l.drop (2 + 2)).length = N3 := by rw [List.length_drop]; omega
          obtain ⟨A4, C4, e4, p4⟩ := P3.out.piece n0 N3 (by omega) (by omega)
          obtain ⟨A5, C5, e5, p5⟩ := H.out.piece 0 (4 + n0) (by omega) (by omega)
          obtain ⟨A6, C6, e6, p6⟩ := P3.out.piece 0 n0 (by omega) (by omega)
          have q4 : Bc w3 (.slice A4 (N3 - n0) C4) (l.drop (4 + n0)) := by
            have := p4 w3 P3.out
            rwa [List.drop_drop, List.take_of_length_le (by rw [List.length_drop]; omega)] at this
          have q5 : ∀ W, Bc W (.slice ad l.length cap) l → Bc W (.slice A5 (4 + n0) C5) (l.take (4 + n0)) := fun W hW => by
            have := p5 W hW
            rwa [List.drop_zero] at this
          have q6 : ∀ W, Bc W (.slice A3 N3 C3) (l.drop (2 + 2)) → Bc W (.slice A6 n0 C6) ((l.drop 4).take n0) := fun W hW => by
            have := p6 W hW
            rwa [List.drop_zero] at this
          have r4 : ∀ W, (Instr.sliceAt 33 (.slice A3 N3 C3) (some (.int .i64 (n0 : Int))) none none).run Tryd.prog W = .ok (.slice A4 (N3 - n0) C4) W := fun W => by
            rw [← e4]
            exact slice_any_run A3 _ C3 _ _ _ _ W (by simp [Instr.sliceBounds, run_sliceBound_if, show n0 ≤ N3 by omega])
          have r5 : ∀ W, (Instr.sliceAt 33 (.slice ad l.length cap) none (some (.int .i64 (4 + (n0 : Int)))) none).run Tryd.prog W = .ok (.slice A5 (4 + n0) C5) W := fun W => by
            obtain ⟨N, hN, hN2⟩ : ∃ N : Nat, 4 + n0 = N ∧ (4 + (n0 : Int)) = (N : Int) := ⟨_, rfl, by omega⟩
            rw [hN2, show (.slice A5 (4 + n0) C5 : Value) = .slice A5 (4 + n0 - 0) C5 from rfl, ← e5, hN]
            exact slice_any_run ad _ cap _ _ _ _ W (by simp [Instr.sliceBounds, run_sliceBound_if, show N ≤ cap by omega])
          have r6 : ∀ W, (Instr.sliceAt 33 (.slice A3 N3 C3) none (some (.int .i64 (n0 : Int))) none).run Tryd.prog W = .ok (.slice A6 n0 C6) W := fun W => by
            rw [show (.slice A6 n0 C6 : Value) = .slice A6 (n0 - 0) C6 from rfl, ← e6]
            exact slice_any_run A3 _ C3 _ _ _ _ W (by simp [Instr.sliceBounds, run_sliceBound_if, show n0 ≤ C3 by omega])
          obtain ⟨N4, hN4⟩ : ∃ N4, N3 - n0 = N4 := ⟨_, rfl⟩
          obtain ⟨N5, hN5⟩ : ∃ N5, 4 + n0 = N5 := ⟨_, rfl⟩
          rw [hN4] at q4 r4
          have HQ5 := Lib.hid q5
          have HQ6 := Lib.hid q6
          have HTU := Lib.hid (takeu_at l A4 N4 C4 (4 + n0) w3 q4 HO.out (by omega) hl)
          have hc3 : n0 + 12 ≤ l.length := by omega
          rw [hN5] at r5 HQ5 HTU
          have HOF : Hid (∀ W, Bc W (.slice ad l.length cap) l → Calls Tryd.prog 53 #[.slice (some ⟨W.heap.size, 0, none⟩) 1 1] (W.alloc (.cells #[.slice A5 N5 C5] 33)) fun e w' => e = .returned (.int .u64 (fnv 14695981039346656037 (l.take N5))) ∧ W.alloc (.cells #[.slice A5 N5 C5] 33) = w') := Lib.hid (fun W hW => by
            have h := of_c [l.take N5] _ _ (pl_one_at (T := 33) (cap := 1) (w := W) (g := W.heap.size) rfl (HQ5.out W hW).1) (by simp) (by simp; omega)
            exact h)
          rw [hN5] at HF
          generalize unB 0 ((l.drop N5).take 8) = S at HTU HF
          generalize fnv 14695981039346656037 (l.take N5) = D at HOF HF
          have R4 := Lib.hid r4
          have R5 := Lib.hid r5
          clear hl4 e4 e5 e6 p4 p5 p6 q4 q5 q6 r4 r5 hN4 hN5 hN3' HQ5 hN3 hcap3
          go_wp2_with (refine wpList_slice_run rfl 33 _ _ _ rfl _ (R4.out _) ?_)
          refine HTU.out.mono ?_
          rintro e w4 ⟨A7, N7, C7, rfl, B4⟩
          have HB4 : Hid (Below w.heap.size w w4) := Lib.hid (bn HB3.out B4.out)
          have P4 := Lib.hid (P3.out.below B4.out)
          clear B4 HTU HB3 P3
          go_wp2_with (refine wpList_slice_run rfl 33 _ _ _ rfl _ (R5.out _) ?_)
          refine (HOF.out w4 (H.out.below HB4.out)).mono ?_
          rintro e w5 ⟨rfl, rfl⟩
          have HB5 : Hid (Below w.heap.size w (w4.alloc (.cells #[.slice A5 N5 C5] 33))) := Lib.hid (HB4.out.alloc HB4.out.size _)
          have P5 := Lib.hid (HQ6.out _ (P4.out.below (alloc_below _ (.cells #[.slice A5 N5 C5] 33))))
          clear HB4 P4 HOF R4 R5
          generalize w4.alloc (.cells #[.slice A5 N5 C5] 33) = W5 at HB5 P5 ⊢
          by_cases c4 : S = D
          · have f4 : (S != D) = false := by simpa using c4
            have HF2 := Lib.hid (HF.out.trans (if_pos ⟨trivial, c2, hc3, c4⟩))
            clear c4 HF
            go_wp2
            go_quiet (fail)
            go_wp2
            go_ret3
            exact firstT_yes HF2.out (P5.out.below (below_drewN (Below.refl _ _) nq)) (below_drewN HB5.out nq)
          · have f4 : (S != D) = true := by simpa using c4
            have HF2 := Lib.hid (HF.out.trans (if_neg (fun h => c4 h.2.2.2)))
            go_wp2
            go_ret3
            exact firstT_no HF2.out HB5.out
        · have f3 : decide ((N3 : Int) < (n0 : Int) + 8) = true := by simp; omega
          have HF2 := Lib.hid (HF.out.trans (if_neg (by have := hN3.out; omega)))
          go_wp2
          go_ret3
          exact firstT_no HF2.out HB3.out
      · have f2 : decide (k0 < 1) = true := by simp; omega
        have HF2 := Lib.hid (HF.out.trans (if_neg (by omega)))
        go_wp2
        go_ret3
        exact firstT_no HF2.out HB3.out
    · have f1 : (a0 != 71) = true := by simpa using c1
      have HF2 := Lib.hid (HF.out.trans (if_neg (by omega)))
      go_wp2
      go_ret3
      exact firstT_no HF2.out HB3.out
end Go.Proofs.YtcnpckdchjjeoaaDoor
