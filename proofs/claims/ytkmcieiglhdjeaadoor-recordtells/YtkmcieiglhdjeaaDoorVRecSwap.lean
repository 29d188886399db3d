/-
  swapRange and rotate of package slices, at records, by contract.
-/
import Derived.Test.YtkmcieiglhdjeaaDoorVRecDat
import Derived.BigRegion
namespace Go.Proofs.YtkmcieiglhdjeaaDoor
open Go.RowKit Go.Lib
variable {bxr : Nat}

/-- What becomes of a row of one's own: it is d', and nothing else is turned. -/
def datT (bxr g n : Nat) (w : World) (Q : (Nat → Rc) → Prop) (e : Ending) (w' : World) : Prop :=
  e = .returned (.tuple #[]) ∧ (∃ d', Dx bxr w' g n d' ∧ Q d') ∧ w.grownBy w' (some g)

set_option maxHeartbeats 8000000 in
set_option maxRecDepth 100000 in
theorem swapRange_c (g n cap a b m : Nat) (d : Nat → Rc) (w : World) (h : Dx bxr w g n d) (hn : n ≤ 1000) (ha : a + m ≤ b) (hb : b + m ≤ n) :
    Calls Tryd.prog 47 #[.slice (some ⟨g, 0, none⟩) n cap, .int .i64 (a : Int), .int .i64 (b : Int), .int .i64 (m : Int), .func (.func 37) #[] #[.pointer (some ⟨bxr, 0, none⟩)]] w
      (datT bxr g n w fun d' => ∀ k, d' k = if a ≤ k ∧ k < a + m then d (k + (b - a)) else if b ≤ k ∧ k < b + m then d (k - (b - a)) else d k) := by
  have H := Lib.hid h
  clear h
  go_enter Tryd.func47, Tryd.ntmps47
  go_wp2
  go_loopw [10] (fun v10 wr => ∃ (k : Nat) (dk : Nat → Rc), k ≤ m ∧ v10 = .int .i64 (k : Int) ∧ Hid (∀ x, dk x = if a ≤ x ∧ x < a + k then d (x + (b - a)) else if b ≤ x ∧ x < b + k then d (x - (b - a)) else d x) ∧ Hid (Dx bxr wr g n dk) ∧ Hid (w.grownBy wr (some g))) (fun v10 _ => m - (RowKit.intOf v10).toNat)
  case atStart => exact ⟨0, d, by omega, rfl, Lib.hid (fun x => by rw [if_neg (by omega), if_neg (by omega)]), H, Lib.hid (grown_refl _ _)⟩
  case round =>
    obtain ⟨k, dk, hk, rfl, HK, HD, HG⟩ := hrel
    by_cases hp : k < m
    · have hia : a + k < n := by omega
      have hib : b + k < n := by omega
      have hlt := HD.out.lt
      have p0 := HD.out.c0 _ hia
      have p1 := HD.out.c1 _ hia
      have p2 := HD.out.c2 _ hia
      have p3 := HD.out.c3 _ hia
      have p4 := HD.out.c4 _ hia
      have q0 := HD.out.c0 _ hib
      have q1 := HD.out.c1 _ hib
      have q2 := HD.out.c2 _ hib
      have q3 := HD.out.c3 _ hib
      have q4 := HD.out.c4 _ hib
      have sf := HD.out.soft
      have HD2 := Lib.hid (HD.out.swap (a + k) (b + k) hia hib)
      have HG2 := Lib.hid (grown_put5 (grown_put5 HG.out (a + k) (dk (b + k))) (b + k) (dk (a + k)))
      have HK2 : Hid (∀ x, swF dk (a + k) (b + k) x = if a ≤ x ∧ x < a + (k + 1) then d (x + (b - a)) else if b ≤ x ∧ x < b + (k + 1) then d (x - (b - a)) else d x) := Lib.hid (fun x => by
        unfold swF
        rw [HK.out (a + k), HK.out (b + k), HK.out x]
        repeat' split
        all_goals first | rfl | (exfalso; omega) | (congr 1; omega))
      clear HD HG HK
      have HD3 : Hid (Dx bxr (put5 (put5 wr g (a + k) (dk (b + k))) g (b + k) (dk (a + k))) g n (swF dk (a + k) (b + k))) := HD2
      clear HD2
      have HD2 := HD3
      clear HD3
      generalize dk (a + k) = X at p0 p1 p2 p3 p4 HD2 HG2
      generalize dk (b + k) = Y at q0 q1 q2 q3 q4 HD2 HG2
      go_wp2_with fail
      go_region
      go_wp2
      go_roundw
      case rel => exact ⟨k + 1, swF dk (a + k) (b + k), hp, by go_num, HK2, Lib.hid HD2.out.drew, Lib.hid (grown_drew HG2.out)⟩
      case measure => simp [RowKit.intOf]; omega
    · have hkk : k = m := by omega
      subst hkk
      go_wp2
      go_end0
      exact ⟨rfl, ⟨dk, HD.out, HK.out⟩, HG.out⟩

/-- Two runs, exchanged as wholes. -/
def rotF (d : Nat → Rc) (m i j : Nat) : Nat → Rc := fun k => if m - i ≤ k ∧ k < m - i + j then d (k + i) else if m - i + j ≤ k ∧ k < m + j then d (k - j) else d k

set_option maxHeartbeats 8000000 in
set_option maxRecDepth 100000 in
theorem rotate_c (g n cap a m b : Nat) (d : Nat → Rc) (w : World) (h : Dx bxr w g n d) (hn : n ≤ 1000) (ham : a < m) (hmb : m < b) (hb : b ≤ n) :
    Calls Tryd.prog 46 #[.slice (some ⟨g, 0, none⟩) n cap, .int .i64 (a : Int), .int .i64 (m : Int), .int .i64 (b : Int), .func (.func 37) #[] #[.pointer (some ⟨bxr, 0, none⟩)]] w
      (datT bxr g n w fun d' => ∀ k, d' k = rotF d m (m - a) (b - m) k) := by
  have H := Lib.hid h
  clear h
  go_enter Tryd.func46, Tryd.ntmps46
  go_wp2
  go_loopw [10, 11] (fun v10 v11 wr => ∃ (i j : Nat) (dk : Nat → Rc), 0 < i ∧ 0 < j ∧ i ≤ m ∧ m + j ≤ n ∧ v10 = .int .i64 (i : Int) ∧ v11 = .int .i64 (j : Int) ∧ Hid (∀ k, rotF d m (m - a) (b - m) k = rotF dk m i j k) ∧ Hid (Dx bxr wr g n dk) ∧ Hid (w.grownBy wr (some g))) (fun v10 v11 _ => (RowKit.intOf v10).toNat + (RowKit.intOf v11).toNat)
  case atStart => exact ⟨m - a, b - m, d, by omega, by omega, by omega, by omega, by go_num, by go_num, Lib.hid (fun _ => rfl), H, Lib.hid (grown_refl _ _)⟩
  case round =>
    obtain ⟨i, j, dk, hi, hj, him, hjn, rfl, rfl, HK, HD, HG⟩ := hrel
    by_cases hij : i = j
    · have e0 : ((i : Int) != (j : Int)) = false := by simp [hij]
      have e1 : m - i + i ≤ m := by omega
      have hs := swapRange_c g n cap (m - i) m i dk wr HD.out hn e1 (by omega)
      rw [show ((m - i : Nat) : Int) = (m : Int) - (i : Int) from by omega] at hs
      have HS := Lib.hid hs
      clear hs
      have HIJ := Lib.hid hij
      clear hij
      go_wp2_with fail
      refine HS.out.mono ?_
      rintro e w2 ⟨rfl, ⟨d2, hd2, hq⟩, hg2⟩
      go_wp2
      go_end0
      refine ⟨rfl, ⟨d2, hd2, fun k => ?_⟩, grown_trans HG.out hg2⟩
      rw [HK.out k, hq k]
      unfold rotF
      have := HIJ.out
      repeat' split
      all_goals first | rfl | (exfalso; omega) | (congr 1; omega)
    · have e0 : ((i : Int) != (j : Int)) = true := by simp; omega
      by_cases hgt : j < i
      · have e1 : decide (j < i) = true := by simpa using hgt
        have hs := swapRange_c g n cap (m - i) m j dk wr HD.out hn (by omega) (by omega)
        rw [show ((m - i : Nat) : Int) = (m : Int) - (i : Int) from by omega] at hs
        have HS := Lib.hid hs
        clear hs
        go_wp2_with fail
        refine HS.out.mono ?_
        rintro e w2 ⟨rfl, ⟨d2, hd2, hq⟩, hg2⟩
        have HK2 : Hid (∀ k, rotF d m (m - a) (b - m) k = rotF d2 m (i - j) j k) := Lib.hid (fun k => by
          rw [HK.out k]
          unfold rotF
          rw [hq (k + (i - j)), hq (k - j), hq k]
          repeat' split
          all_goals first | rfl | (exfalso; omega) | (congr 1; omega))
        have HD2 := Lib.hid hd2
        have HG2 := Lib.hid (grown_trans HG.out hg2)
        clear hq hd2 hg2 HK HD HG HS
        go_wp2
        go_roundw
        case rel => exact ⟨i - j, j, d2, by omega, hj, by omega, hjn, by go_num, rfl, HK2, HD2, HG2⟩
        case measure => simp [RowKit.intOf]; omega
      · have e1 : decide (j < i) = false := by simpa using hgt
        have hs := swapRange_c g n cap (m - i) (m + j - i) i dk wr HD.out hn (by omega) (by omega)
        rw [show ((m - i : Nat) : Int) = (m : Int) - (i : Int) from by omega, show ((m + j - i : Nat) : Int) = (m : Int) + (j : Int) - (i : Int) from by omega] at hs
        have HS := Lib.hid hs
        clear hs
        go_wp2_with fail
        refine HS.out.mono ?_
        rintro e w2 ⟨rfl, ⟨d2, hd2, hq⟩, hg2⟩
        have HK2 : Hid (∀ k, rotF d m (m - a) (b - m) k = rotF d2 m i (j - i) k) := Lib.hid (fun k => by
          rw [HK.out k]
          unfold rotF
          rw [hq (k + i), hq (k - (j - i)), hq k]
          repeat' split
          all_goals first | rfl | (exfalso; omega) | (congr 1; omega))
        have HD2 := Lib.hid hd2
        have HG2 := Lib.hid (grown_trans HG.out hg2)
        clear hq hd2 hg2 HK HD HG HS
        go_wp2
        go_roundw
        case rel => exact ⟨i, j - i, d2, hi, by omega, him, by omega, rfl, by go_num, HK2, HD2, HG2⟩
        case measure => simp [RowKit.intOf]; omega
end Go.Proofs.YtkmcieiglhdjeaaDoor
