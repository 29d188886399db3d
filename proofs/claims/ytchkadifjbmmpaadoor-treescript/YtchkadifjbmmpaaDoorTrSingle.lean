/-
  single: is a Key among records once?
-/
import Derived.Test.YtchkadifjbmmpaaDoorTrAwk
namespace Go.Proofs.YtchkadifjbmmpaaDoor
open Go.RowKit Go.Lib Go.Maps
set_option maxRecDepth 100000
set_option linter.unusedSimpArgs false

def onceN (k : Ky) (l : List R.Rc) : Nat := (l.filter fun r => decide (kyR r = k)).length
theorem onceN_next (k : Ky) (l : List R.Rc) (i : Nat) (h : i < l.length) : onceN k (l.take (i + 1)) = onceN k (l.take i) + if kyR l[i] = k then 1 else 0 := by
  unfold onceN
  rw [List.take_succ_eq_append_getElem h, List.filter_append, List.length_append]
  by_cases hk : kyR l[i] = k
  · simp [hk]
  · simp [hk]
theorem onceN_le (k : Ky) (l : List R.Rc) : onceN k l ≤ l.length := List.length_filter_le _ _
set_option maxHeartbeats 8000000 in
theorem single_c (l : List R.Rc) (ad : Option Addr) (cap j : Nat) (hj : j < l.length) (w : World) (h : R.Rl w (.slice ad l.length cap) l) (hl : l.length ≤ maxLen) :
    Calls Tryd.prog 28 #[.slice ad l.length cap, .int .i64 (j : Int)] w fun e w' => e = .returned (.bool (decide (onceN (kyR l[j]) l = 1))) ∧ Below w.heap.size w w' := by
  have mixed : Tryd.prog.follows .mixedOrders = true := by kernel_rfl
  have hl2 := hl
  unfold maxLen at hl2
  obtain ⟨ad2, cap2, e, _, hc⟩ := id h.form
  simp only [Value.slice.injEq, true_and] at e
  obtain ⟨rfl, rfl⟩ := e
  obtain ⟨g, o, rfl, hrc⟩ := hc (by omega)
  obtain ⟨q0, q1, _, _, _⟩ := hrc j hj
  have HRL := Lib.hid h
  obtain ⟨kj, hkj⟩ : ∃ kj, kj = kyR l[j] := ⟨_, rfl⟩
  have HK : Hid (kj.1 = l[j].o ∧ kj.2 = l[j].s) := Lib.hid (by rw [hkj]; exact ⟨rfl, rfl⟩)
  have S0 : Hid (Below w.heap.size w w) := Lib.hid (Below.refl _ _)
  rw [← hkj]
  clear h hc hrc q0 q1 hkj hl
  go_enter Tryd.func28, Tryd.ntmps28
  go_wp2_with fail
  go_loopw [5, 6] (fun v5 v6 wr => ∃ k : Nat, k ≤ l.length ∧ v5 = .int .i64 ((onceN kj (l.take k) : Nat) : Int) ∧ v6 = .int .i64 (k : Int) ∧ Hid (Below w.heap.size w wr)) (fun _ v6 _ => l.length - (RowKit.intOf v6).toNat)
  case atStart => exact ⟨0, by omega, rfl, rfl, S0⟩
  case round =>
    obtain ⟨k, hk, rfl, rfl, HN⟩ := hrel
    have hle := onceN_le kj (l.take k)
    rw [List.length_take] at hle
    by_cases hp : k < l.length
    · have HP := Lib.hid hp
      obtain ⟨ad2, cap2, e, _, hc⟩ := (HRL.out.below HN.out).form
      simp only [Value.slice.injEq, true_and] at e
      obtain ⟨e, rfl⟩ := e
      obtain ⟨g', o', e', hrc⟩ := hc (by omega)
      rw [e'] at e
      simp only [Option.some.injEq, Addr.mk.injEq, and_true] at e
      obtain ⟨rfl, rfl⟩ := e
      obtain ⟨x0, x1, _, _, _⟩ := hrc k hp
      obtain ⟨q0, q1, _, _, _⟩ := hrc j hj
      have hgl' := World.block_lt_of_cell? _ _ x0
      clear hc hrc e'
      have HNX := Lib.hid (onceN_next kj l k hp)
      have hj1 : (j : Int) < (l.length : Int) := by omega
      generalize onceN kj (l.take k) = c at *
      have hkk : (kyR l[k] = kj) ↔ (l[k].o = l[j].o ∧ l[k].s = l[j].s) := by
        rw [← HK.out.1, ← HK.out.2]
        constructor
        · intro e
          rw [← e]
          exact ⟨rfl, rfl⟩
        · intro e
          exact Prod.ext e.1 e.2
      generalize l[k].o = xo at *
      generalize l[k].s = xs at *
      generalize l[j].o = yo at *
      generalize l[j].s = ys at *
      by_cases he : xo = yo ∧ xs = ys
      · obtain ⟨rfl, rfl⟩ := he
        have HE : Hid (onceN kj (l.take (k + 1)) = c + 1) := Lib.hid (by rw [HNX.out]; split <;> first | rfl | (rename_i hh; exact absurd (hkk.2 ⟨rfl, rfl⟩) hh))
        clear hkk
        go_wp2_with fail
        go_quiet (fail)
        go_wp2_with fail
        go_roundw
        case rel => exact ⟨k + 1, HP.out, by rw [HE.out]; go_num, by go_num, Lib.hid (below_drewN HN.out _)⟩
        case measure => have := HP.out; simp [RowKit.intOf]; omega
      · have HE : Hid (onceN kj (l.take (k + 1)) = c) := Lib.hid (by rw [HNX.out]; split <;> first | rfl | (rename_i hh; exact absurd (hkk.1 hh) he))
        clear hkk
        by_cases h1 : xo = yo
        · subst h1
          have hb : (xs == ys) = false := by simpa using fun e => he ⟨rfl, e⟩
          clear he
          go_wp2_with fail
          go_quiet (fail)
          go_wp2_with fail
          go_roundw
          case rel => exact ⟨k + 1, HP.out, by rw [HE.out], by go_num, Lib.hid (below_drewN HN.out _)⟩
          case measure => have := HP.out; simp [RowKit.intOf]; omega
        · have hb : (xo == yo) = false := by simpa using h1
          clear he h1
          go_wp2_with fail
          go_quiet (fail)
          go_wp2_with fail
          go_roundw
          case rel => exact ⟨k + 1, HP.out, by rw [HE.out], by go_num, Lib.hid (below_drewN HN.out _)⟩
          case measure => have := HP.out; simp [RowKit.intOf]; omega
    · have hkl : k = l.length := by omega
      subst hkl
      rw [List.take_length] at hle ⊢
      have hB := HN
      obtain ⟨c, hc⟩ : ∃ c, c = onceN kj l := ⟨_, rfl⟩
      rw [← hc] at hle ⊢
      by_cases h1 : c = 1
      · have hd : decide (onceN kj l = 1) = true := by rw [← hc]; simpa using h1
        have HD := Lib.hid hd
        clear hd hc
        subst h1
        go_wp2_with fail
        go_ret
        exact ⟨by rw [HD.out]; first | rfl | simp, hB.out⟩
      · have h2 : ¬ (c : Int) = 1 := by omega
        have hd : decide (onceN kj l = 1) = false := by rw [← hc]; simpa using h1
        have HD := Lib.hid hd
        clear hd hc
        go_wp2_with fail
        go_ret
        exact ⟨by rw [HD.out]; simp [h2], hB.out⟩
end Go.Proofs.YtchkadifjbmmpaaDoor
