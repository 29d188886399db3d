/-
  The chapter's own tree: Find by contract.
-/
import Derived.Test.YtchkadifjbmmpaaDoorTrAwk
namespace Go.Proofs.YtchkadifjbmmpaaDoor
open Go.RowKit Go.Lib Go.Maps
set_option maxRecDepth 100000
set_option linter.unusedSimpArgs false

/-- Where a Key stands first; -1. -/
def FindS (L : List R.Rc) (k : Ky) (n : Int) : Prop :=
  (n = -1 ∧ ∀ r ∈ L, kyR r ≠ k) ∨ ∃ i, ∃ h : i < L.length, n = (i : Int) ∧ kyR L[i] = k ∧ ∀ j, j < i → ∀ h : j < L.length, kyR L[j] ≠ k
set_option maxHeartbeats 16000000 in
theorem find_c (q : Nat) (L : List R.Rc) (ad : Option Addr) (cap : Nat) (ko ks : Int) (w : World) (hb : R.Bx 30 w q #[.slice ad L.length cap]) (h : R.Rl w (.slice ad L.length cap) L) (hl : L.length ≤ maxLen) :
    Calls Tryd.prog 37 #[.pointer (some ⟨q, 0, none⟩), .agg #[.int .i64 ko, .int .i64 ks]] w fun e w' => ∃ n, e = .returned (.int .i64 n) ∧ FindS L (ko, ks) n ∧ Below w.heap.size w w' := by
  have mixed : Tryd.prog.follows .mixedOrders = true := by kernel_rfl
  have hl2 := hl
  unfold maxLen at hl2
  have al := alloc_below w (.cells #[.int .i64 ko, .int .i64 ks] 32)
  obtain ⟨w1, hw1⟩ : ∃ w1, w1 = w.alloc (.cells #[.int .i64 ko, .int .i64 ks] 32) := ⟨_, rfl⟩
  have B1 : Hid (Below w.heap.size w w1) := Lib.hid (by rw [hw1]; exact al)
  have K1 : Hid (R.Bx 32 w1 w.heap.size #[.int .i64 ko, .int .i64 ks]) := Lib.hid (by rw [hw1]; exact R.Bx.new _ w _)
  have HW1 := Lib.hid hw1
  have HRL := Lib.hid h
  have HB := Lib.hid hb
  have S0 : Hid (Below w1.heap.size w1 w1) := Lib.hid (Below.refl _ _)
  have N0 : Hid (∀ j, j < 0 → ∀ h : j < L.length, kyR L[j] ≠ (ko, ks)) := Lib.hid (fun j hj => by omega)
  clear h hb hl al hw1
  go_enter Tryd.func37, Tryd.ntmps37
  go_wp2_with fail
  rw [← HW1.out]
  clear HW1
  go_loopw [5] (fun v5 wr => ∃ i : Nat, i ≤ L.length ∧ v5 = .int .i64 (i : Int) ∧ Hid (∀ j, j < i → ∀ h : j < L.length, kyR L[j] ≠ (ko, ks)) ∧ Hid (Below w1.heap.size w1 wr)) (fun v5 _ => L.length - (RowKit.intOf v5).toNat)
  case atStart => exact ⟨0, by omega, rfl, N0, S0⟩
  case round =>
    obtain ⟨i, hi, rfl, NI, HN⟩ := hrel
    clear N0 S0
    have BI : Hid (Below w.heap.size w wr) := Lib.hid (bn B1.out HN.out)
    have q0 := (HB.out.below BI.out).cell 0
    simp only [List.getElem?_toArray, List.getElem?_cons_zero] at q0
    have hlq := World.block_lt_of_cell? _ _ q0
    have k0 := (K1.out.below HN.out).cell 0
    have k1 := (K1.out.below HN.out).cell 1
    simp only [List.getElem?_toArray, List.getElem?_cons_zero, List.getElem?_cons_succ] at k0 k1
    have hlk := World.block_lt_of_cell? _ _ k0
    by_cases hp : i < L.length
    · have HP := Lib.hid hp
      obtain ⟨ad2, cap2, e, _, hc⟩ := (HRL.out.below BI.out).form
      simp only [Value.slice.injEq, true_and] at e
      obtain ⟨rfl, rfl⟩ := e
      obtain ⟨g, o, rfl, hrc⟩ := hc (by omega)
      obtain ⟨x0, x1, _, _, _⟩ := hrc i hp
      have hgl := World.block_lt_of_cell? _ _ x0
      have hkk : (kyR L[i] = (ko, ks)) ↔ (L[i].o = ko ∧ L[i].s = ks) := by unfold kyR; exact Prod.mk.injEq .. ▸ Iff.rfl
      have HKK := Lib.hid hkk
      clear hc hrc hkk
      have hkk := HKK.out
      clear HKK
      generalize L[i].o = xo at *
      generalize L[i].s = xs at *
      have HKK := Lib.hid hkk
      clear hkk
      by_cases he : xo = ko ∧ xs = ks
      · have hY := HKK.out.2 he
        have HRES : Hid (FindS L (ko, ks) (i : Int)) := Lib.hid (.inr ⟨i, HP.out, rfl, hY, NI.out⟩)
        obtain ⟨rfl, rfl⟩ := he
        clear hY
        go_wp2_with fail
        go_quiet (fail)
        go_wp2_with fail
        go_ret
        exact ⟨(i : Int), rfl, HRES.out, below_drewN BI.out _⟩
      · have hN : ¬ kyR L[i] = (ko, ks) := fun hh => he (HKK.out.1 hh)
        have HNN : Hid (∀ j, j < i + 1 → ∀ h : j < L.length, kyR L[j] ≠ (ko, ks)) := Lib.hid (fun j hj h => by
          by_cases hji : j = i
          · subst hji
            exact hN
          · exact NI.out j (by omega) h)
        clear hN
        by_cases h1 : xo = ko
        · subst h1
          have hb2 : (xs == ks) = false := by simpa using fun e => he ⟨rfl, e⟩
          clear he
          go_wp2_with fail
          go_quiet (fail)
          go_wp2_with fail
          go_roundw
          case rel => exact ⟨i + 1, HP.out, by go_num, HNN, Lib.hid (below_drewN HN.out _)⟩
          case measure => have := HP.out; simp [RowKit.intOf]; omega
        · have hb2 : (xo == ko) = false := by simpa using h1
          clear he h1
          go_wp2_with fail
          go_quiet (fail)
          go_wp2_with fail
          go_roundw
          case rel => exact ⟨i + 1, HP.out, by go_num, HNN, Lib.hid (below_drewN HN.out _)⟩
          case measure => have := HP.out; simp [RowKit.intOf]; omega
    · have hil : i = L.length := by omega
      subst hil
      have HRES : Hid (FindS L (ko, ks) (-1)) := Lib.hid (.inl ⟨rfl, fun r hr => by
        obtain ⟨j, hj, rfl⟩ := List.getElem_of_mem hr
        exact NI.out j hj hj⟩)
      go_wp2_with fail
      go_ret
      exact ⟨-1, rfl, HRES.out, BI.out⟩
end Go.Proofs.YtchkadifjbmmpaaDoor
