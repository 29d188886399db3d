/-
  around of the program, by contract.
-/
import Derived.Test.YtgdajnjfkokmdaaPstSearch
import Derived.Test.YtgdajnjfkokmdaaPstPut
namespace Go.Proofs.Ytgdajnjfkokmdaa
open Go.RowKit Go.Lib
set_option maxRecDepth 100000

def behindP (l : List Pv) (k : Ky) (i : Nat) : List Pv := if thereP l k i then l.drop (i + 1) else l.drop i
set_option maxHeartbeats 4000000 in
theorem around_c (l : List Pv) (ko ks : Int) (v : Value) (w : World) (h : PRd w v l) (hn : l.length ≤ 100000) (hr : Rise ((ps l).map Po.k)) :
    Calls Try.prog 46 #[v, .agg #[.int .i64 ko, .int .i64 ks]] w fun e w' => ∃ (A1 A2 : Option Addr) (N1 N2 C1 C2 i : Nat), e = .returned (.tuple #[.slice A1 N1 C1, .slice A2 N2 C2]) ∧ placeP l (ko, ks) i ∧ PRd w' (.slice A1 N1 C1) (l.take i) ∧ PRd w' (.slice A2 N2 C2) (behindP l (ko, ks) i) ∧ Below w.heap.size w w' := by
  have mixed : Try.prog.follows .mixedOrders = true := by kernel_rfl
  have hal := alloc_below w (.cells #[.int .i64 ko, .int .i64 ks] 34)
  have CS := Lib.hid (search_c l ko ks v _ (h.below hal) hn hr)
  have HP := Lib.hid h
  have HAL := Lib.hid hal
  obtain ⟨ad, cap, rfl, hcap, _⟩ := h
  clear hal hr
  go_enter Try.func46, Try.ntmps46
  go_wp2_with fail
  refine CS.out.mono ?_
  rintro e w2 ⟨i, hpl, rfl, b2⟩
  have HPL := Lib.hid hpl
  have hil := hpl.1
  have HB2 := Lib.hid (bn HAL.out b2)
  obtain ⟨A1, N1, C1, hV1⟩ : ∃ A1 N1 C1, sliced ad 0 i cap 3 = .slice A1 N1 C1 := sliced_is ..
  have r1 : ∀ W, (Instr.sliceAt 30 (.slice ad l.length cap) none (some (.int .i64 (i : Int))) none).run Try.prog W = .ok (.slice A1 N1 C1) W := fun W => by
    rw [← hV1]
    exact pslice_run ad _ cap _ _ _ _ W (by simp [Instr.sliceBounds, run_sliceBound_if, show i ≤ cap by omega])
  have HA : Hid (∀ W, Below w.heap.size w W → PRd W (.slice A1 N1 C1) (l.take i)) := Lib.hid (fun W hW => by
    have h := prd_sliced (HP.out.below hW) 0 i (by omega) hil
    rw [hV1] at h
    simpa using h)
  clear hV1 CS hpl b2
  cases ht : thereP l (ko, ks) i with
  | true =>
    have hi2 : i + 1 ≤ l.length := by
      unfold thereP at ht
      split at ht
      · omega
      · cases ht
    obtain ⟨A3, N3, C3, hV3⟩ : ∃ A3 N3 C3, sliced ad (i + 1) l.length cap 3 = .slice A3 N3 C3 := sliced_is ..
    have r3 : ∀ W, (Instr.sliceAt 30 (.slice ad l.length cap) (some (.int .i64 ((i : Int) + 1))) none none).run Try.prog W = .ok (.slice A3 N3 C3) W := fun W => by
      rw [← hV3]
      have h1 : ((i : Int) + 1) = ((i + 1 : Nat) : Int) := by omega
      rw [h1]
      exact pslice_run ad _ cap _ _ _ _ W (by simp [Instr.sliceBounds, run_sliceBound_if, go_sem]; omega)
    have HC : Hid (∀ W, Below w.heap.size w W → PRd W (.slice A3 N3 C3) (behindP l (ko, ks) i)) := Lib.hid (fun W hW => by
      have h := prd_sliced (HP.out.below hW) (i + 1) l.length hi2 (Nat.le_refl _)
      rw [hV3, List.take_of_length_le (by simp)] at h
      unfold behindP
      rw [if_pos ht]
      exact h)
    clear hV3 ht
    go_wp2_with fail
    go_quiet (fail)
    go_wp2
    go_ret2
    exact ⟨A1, A3, N1, N3, C1, C3, i, rfl, HPL.out, HA.out _ (below_drewN HB2.out _), HC.out _ (below_drewN HB2.out _), below_drewN HB2.out _⟩
  | false =>
    obtain ⟨A3, N3, C3, hV3⟩ : ∃ A3 N3 C3, sliced ad i l.length cap 3 = .slice A3 N3 C3 := sliced_is ..
    have r3 : ∀ W, (Instr.sliceAt 30 (.slice ad l.length cap) (some (.int .i64 (i : Int))) none none).run Try.prog W = .ok (.slice A3 N3 C3) W := fun W => by
      rw [← hV3]
      exact pslice_run ad _ cap _ _ _ _ W (by simp [Instr.sliceBounds, run_sliceBound_if, hil])
    have HC : Hid (∀ W, Below w.heap.size w W → PRd W (.slice A3 N3 C3) (behindP l (ko, ks) i)) := Lib.hid (fun W hW => by
      have h := prd_sliced (HP.out.below hW) i l.length hil (Nat.le_refl _)
      rw [hV3, List.take_of_length_le (by simp)] at h
      unfold behindP
      rw [if_neg (by rw [ht]; simp)]
      exact h)
    clear hV3 ht
    go_wp2_with fail
    go_quiet (fail)
    go_wp2
    go_ret2
    exact ⟨A1, A3, N1, N3, C1, C3, i, rfl, HPL.out, HA.out _ (below_drewN HB2.out _), HC.out _ (below_drewN HB2.out _), below_drewN HB2.out _⟩
end Go.Proofs.Ytgdajnjfkokmdaa
