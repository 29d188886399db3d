/-
  symMerge of package slices, at records, where one run has one record, by contract.
-/
import Derived.Test.YtkmcieiglhdjeaaDoorVRecIns
namespace Go.Proofs.YtkmcieiglhdjeaaDoor
open Go.RowKit Go.Lib
variable {bxr : Nat}

theorem SMQ.self {d : Nat → Rc} {a b : Nat} (h : Srt d a b) : SMQ d a b d := ⟨fun _ _ => rfl, h, Cls.refl _⟩
theorem SMQ.congr {d d' d2 : Nat → Rc} {a b : Nat} (h : SMQ d a b d') (he : ∀ k, d2 k = d' k) : SMQ d a b d2 := by
  have : d2 = d' := funext he
  rw [this]
  exact h
theorem sm_left {d : Nat → Rc} {a m b i : Nat} (hm : m = a + 1) (him : m ≤ i) (hib : i ≤ b) (sr : Srt d m b) (h1 : ∀ k, m ≤ k → k < i → lessR (d k) (d a) = true) (h2 : ∀ k, i ≤ k → k < b → lessR (d k) (d a) = false) : SMQ d a b (rotF d m (m - a) (i - m)) := by
  refine merge_whole d (rotF d m (m - a) (i - m)) (rotF d m (m - a) (i - m)) _ (s := a) (m := m) (e := i) (mid := a + (i - m)) (Nat.le_refl _) (by omega) him hib rfl (fun p q hp hpq hq => by omega) sr
    (fun p q hp hp2 hq hq2 => by obtain rfl : p = a := by omega
                                 exact h1 q hq hq2) (fun p q hp hp2 _ _ => by omega) (fun _ => rfl) (SMQ.self ?_) (SMQ.self ?_)
  · intro p q hp hpq hq
    unfold rotF
    rw [if_pos (by omega), if_pos (by omega)]
    exact sr _ _ (by omega) (by omega) (by omega)
  · intro p q hp hpq hq
    unfold rotF
    rw [if_neg (show ¬ (m - (m - a) ≤ q ∧ q < m - (m - a) + (i - m)) by omega), if_neg (show ¬ (m - (m - a) ≤ p ∧ p < m - (m - a) + (i - m)) by omega), if_neg (show ¬ (m - (m - a) + (i - m) ≤ q ∧ q < m + (i - m)) by omega)]
    by_cases hp2 : p = a + (i - m)
    · rw [if_pos (by omega), show p - (i - m) = a from by omega]
      exact h2 q (by omega) hq
    · rw [if_neg (by omega)]
      exact sr p q (by omega) hpq hq
theorem sm_right {d : Nat → Rc} {a m b i : Nat} (hb : b = m + 1) (hai : a ≤ i) (him : i ≤ m) (sl : Srt d a m) (h1 : ∀ k, a ≤ k → k < i → lessR (d m) (d k) = false) (h2 : ∀ k, i ≤ k → k < m → lessR (d m) (d k) = true) : SMQ d a b (rotF d m (m - i) (b - m)) := by
  refine merge_whole d (rotF d m (m - i) (b - m)) (rotF d m (m - i) (b - m)) _ (s := i) (m := m) (e := b) (mid := i + (b - m)) hai him (by omega) (Nat.le_refl _) rfl sl (fun p q hp hpq hq => by omega)
    (fun p q hp hp2 hq hq2 => by obtain rfl : q = m := by omega
                                 exact h2 p hp hp2) (fun p q _ _ hq hq2 => by omega) (fun _ => rfl) (SMQ.self ?_) (SMQ.self ?_)
  · intro p q hp hpq hq
    unfold rotF
    rw [if_neg (show ¬ (m - (m - i) ≤ p ∧ p < m - (m - i) + (b - m)) by omega), if_neg (show ¬ (m - (m - i) + (b - m) ≤ p ∧ p < m + (b - m)) by omega)]
    by_cases hq2 : q = i
    · rw [if_pos (by omega), show q + (m - i) = m from by omega]
      exact h1 p hp (by omega)
    · rw [if_neg (by omega), if_neg (by omega)]
      exact sl p q hp hpq (by omega)
  · intro p q hp hpq hq
    unfold rotF
    rw [if_neg (by omega), if_pos (by omega), if_neg (by omega), if_pos (by omega)]
    exact sl _ _ (by omega) (by omega) (by omega)

set_option maxHeartbeats 16000000 in
set_option maxRecDepth 1000000 in
theorem sym_left (g n cap a m b : Nat) (d : Nat → Rc) (w : World) (h : Dx bxr w g n d) (hn : n ≤ 1000) (hm : m = a + 1) (hmb : m < b) (hb : b ≤ n) (sr : Srt d m b) :
    Calls Tryd.prog 44 #[.slice (some ⟨g, 0, none⟩) n cap, .int .i64 (a : Int), .int .i64 (m : Int), .int .i64 (b : Int), .func (.func 37) #[] #[.pointer (some ⟨bxr, 0, none⟩)]] w (datT bxr g n w (SMQ d a b)) := by
  have H := Lib.hid h
  have HSR := Lib.hid sr
  have HM := Lib.hid hm
  have t0 : ((m : Int) - (a : Int) == 1) = true := by rw [hm]; simp; omega
  have hma : a + 1 ≤ m := by omega
  clear h sr hm
  go_enter Tryd.func44, Tryd.ntmps44
  go_wp2
  go_loopw [10, 11] (fun v10 v11 wr => ∃ (i j : Nat), m ≤ i ∧ i ≤ j ∧ j ≤ b ∧ v10 = .int .i64 (i : Int) ∧ v11 = .int .i64 (j : Int) ∧ Hid (∀ k, m ≤ k → k < i → lessR (d k) (d a) = true) ∧ Hid (∀ k, j ≤ k → k < b → lessR (d k) (d a) = false) ∧ Hid (Dx bxr wr g n d) ∧ Hid (w.grownBy wr (some g))) (fun v10 v11 _ => (RowKit.intOf v11).toNat - (RowKit.intOf v10).toNat)
  case atStart => exact ⟨m, b, Nat.le_refl _, by omega, Nat.le_refl _, rfl, rfl, Lib.hid (fun k _ _ => by omega), Lib.hid (fun k _ _ => by omega), H, Lib.hid (grown_refl _ _)⟩
  case round =>
    obtain ⟨i, j, hmi, hij, hjb, rfl, rfl, HL, HR, HD, HG⟩ := hrel
    by_cases hp : i < j
    · have hp2 : decide (i < j) = true := by simpa using hp
      obtain ⟨x, hx⟩ : ∃ x, x = (i + j) / 2 := ⟨_, rfl⟩
      have hxi : i ≤ x := by omega
      have hxj : x < j := by omega
      have hz : ((i : Int) + (j : Int)) / 2 = (x : Int) := by omega
      have hxn : x < n := by omega
      have han : a < n := by omega
      have xz : (x : Int) < (n : Int) := by omega
      have az : (a : Int) < (n : Int) := by omega
      clear hx
      have hlt := HD.out.lt
      have HS : Hid (∀ W, Below wr.heap.size wr W → W.cell? ⟨g, x * 5, none⟩ = some (.int .i64 (d (x)).o) ∧ W.cell? ⟨g, x * 5 + 1, none⟩ = some (.int .i64 (d (x)).s) ∧ W.cell? ⟨g, x * 5 + 2, none⟩ = some (.int .i64 (d (x)).w) ∧ W.cell? ⟨g, x * 5 + 3, none⟩ = some (.int .i64 (d (x)).c) ∧ W.cell? ⟨g, x * 5 + 4, none⟩ = some (.string (d (x)).t) ∧ W.cell? ⟨g, a * 5, none⟩ = some (.int .i64 (d (a)).o) ∧ W.cell? ⟨g, a * 5 + 1, none⟩ = some (.int .i64 (d (a)).s) ∧ W.cell? ⟨g, a * 5 + 2, none⟩ = some (.int .i64 (d (a)).w) ∧ W.cell? ⟨g, a * 5 + 3, none⟩ = some (.int .i64 (d (a)).c) ∧ W.cell? ⟨g, a * 5 + 4, none⟩ = some (.string (d (a)).t)) := Lib.hid (fun W hb => by
        have hd := HD.out.below hb
        exact ⟨hd.c0 _ hxn, hd.c1 _ hxn, hd.c2 _ hxn, hd.c3 _ hxn, hd.c4 _ hxn, hd.c0 _ han, hd.c1 _ han, hd.c2 _ han, hd.c3 _ han, hd.c4 _ han⟩)
      have HCM := Lib.hid (fun (W : World) (hW : Below wr.heap.size wr W) => compare_c bxr (d (x)) (d (a)) W (HD.out.below hW).bx)
      have hneg := cmpR_neg (d (x)) (d (a))
      obtain ⟨X, hX⟩ : ∃ X, X = d (x) := ⟨_, rfl⟩
      obtain ⟨Y, hY⟩ : ∃ Y, Y = d (a) := ⟨_, rfl⟩
      rw [← hX, ← hY] at HS HCM hneg
      have HX := Lib.hid hX
      have HY := Lib.hid hY
      clear hX hY
      cases hL : lessR X Y
      · rw [hL] at hneg
        have HR2 : Hid (∀ k, x ≤ k → k < b → lessR (d k) (d a) = false) := Lib.hid (fun k hk hkb => by
          have h1 : Le (d a) (d x) := by rw [← HX.out, ← HY.out]; exact hL
          exact le_trans h1 (HSR.out.le (by omega) hk hkb))
        generalize cmpR X Y = N at HCM hneg
        go_wp2_with fail
        go_region_held3 (fun W => W.cell? ⟨g, x * 5, none⟩ = some (.int .i64 X.o) ∧ W.cell? ⟨g, x * 5 + 1, none⟩ = some (.int .i64 X.s) ∧ W.cell? ⟨g, x * 5 + 2, none⟩ = some (.int .i64 X.w) ∧ W.cell? ⟨g, x * 5 + 3, none⟩ = some (.int .i64 X.c) ∧ W.cell? ⟨g, x * 5 + 4, none⟩ = some (.string X.t) ∧ W.cell? ⟨g, a * 5, none⟩ = some (.int .i64 Y.o) ∧ W.cell? ⟨g, a * 5 + 1, none⟩ = some (.int .i64 Y.s) ∧ W.cell? ⟨g, a * 5 + 2, none⟩ = some (.int .i64 Y.w) ∧ W.cell? ⟨g, a * 5 + 3, none⟩ = some (.int .i64 Y.c) ∧ W.cell? ⟨g, a * 5 + 4, none⟩ = some (.string Y.t)) (exact HS.out _ (by first | assumption | exact (Below.refl _ _).drew | exact Below.refl _ _))
          (first
          | (go_at_call 37; refine (HCM.out _ (by first | assumption | exact (Below.refl _ _).drew | exact Below.refl _ _)).mono ?_; rintro e w5 ⟨rfl, b5⟩; have b5' : Below wr.heap.size wr w5 := bn (by first | assumption | exact (Below.refl _ _).drew | exact Below.refl _ _) b5; clear b5)
          | fail)
        go_wp2
        go_roundw
        case rel => exact ⟨i, x, hmi, hxi, by omega, rfl, rfl, HL, HR2, Lib.hid (HD.out.below b5'), Lib.hid (grown_next HG.out b5')⟩
        case measure => simp [RowKit.intOf]; omega
      · rw [hL] at hneg
        have HL2 : Hid (∀ k, m ≤ k → k < x + 1 → lessR (d k) (d a) = true) := Lib.hid (fun k hk hkx => by
          have h1 : lessR (d x) (d a) = true := by rw [← HX.out, ← HY.out]; exact hL
          exact less_of_le_less (HSR.out.le hk (by omega) (by omega)) h1)
        generalize cmpR X Y = N at HCM hneg
        go_wp2_with fail
        go_region_held3 (fun W => W.cell? ⟨g, x * 5, none⟩ = some (.int .i64 X.o) ∧ W.cell? ⟨g, x * 5 + 1, none⟩ = some (.int .i64 X.s) ∧ W.cell? ⟨g, x * 5 + 2, none⟩ = some (.int .i64 X.w) ∧ W.cell? ⟨g, x * 5 + 3, none⟩ = some (.int .i64 X.c) ∧ W.cell? ⟨g, x * 5 + 4, none⟩ = some (.string X.t) ∧ W.cell? ⟨g, a * 5, none⟩ = some (.int .i64 Y.o) ∧ W.cell? ⟨g, a * 5 + 1, none⟩ = some (.int .i64 Y.s) ∧ W.cell? ⟨g, a * 5 + 2, none⟩ = some (.int .i64 Y.w) ∧ W.cell? ⟨g, a * 5 + 3, none⟩ = some (.int .i64 Y.c) ∧ W.cell? ⟨g, a * 5 + 4, none⟩ = some (.string Y.t)) (exact HS.out _ (by first | assumption | exact (Below.refl _ _).drew | exact Below.refl _ _))
          (first
          | (go_at_call 37; refine (HCM.out _ (by first | assumption | exact (Below.refl _ _).drew | exact Below.refl _ _)).mono ?_; rintro e w5 ⟨rfl, b5⟩; have b5' : Below wr.heap.size wr w5 := bn (by first | assumption | exact (Below.refl _ _).drew | exact Below.refl _ _) b5; clear b5)
          | fail)
        go_wp2
        go_roundw
        case rel => exact ⟨x + 1, j, by omega, by omega, hjb, by go_num, rfl, HL2, HR, Lib.hid (HD.out.below b5'), Lib.hid (grown_next HG.out b5')⟩
        case measure => simp [RowKit.intOf]; omega
    · have hij2 : i = j := by omega
      subst hij2
      have HQ := Lib.hid (sm_left HM.out hmi hjb HSR.out HL.out HR.out)
      obtain ⟨w0, rfl⟩ : ∃ w0, w0 = wr := ⟨_, rfl⟩
      go_wp2
      go_loopw [13] (fun v13 w2 => ∃ (k : Nat) (dk : Nat → Rc), a ≤ k ∧ k + 1 ≤ i ∧ v13 = .int .i64 (k : Int) ∧ Hid (∀ y, dk y = rotF d m 1 (k - a) y) ∧ Hid (Dx bxr w2 g n dk) ∧ Hid (w.grownBy w2 (some g))) (fun v13 _ => i - (RowKit.intOf v13).toNat)
      case atStart => exact ⟨a, d, Nat.le_refl _, by omega, rfl, Lib.hid (fun y => by unfold rotF; rw [if_neg (by omega)]; split <;> simp), HD, HG⟩
      case round =>
        obtain ⟨k, dk, hak, hki, rfl, HK, HD, HG⟩ := hrel
        by_cases hp : k + 1 < i
        · have u1 : decide ((k : Int) < (i : Int) - 1) = true := by simp; omega
          have hkn : k < n := by omega
          have hkn1 : k + 1 < n := by omega
          have kz1 : (k : Int) + 1 < (n : Int) := by omega
          have kz0 : (0 : Int) ≤ (k : Int) + 1 := by omega
          have ke0 : ((k : Int) + 1).toNat = k + 1 := by omega
          have HK2 : Hid (∀ y, swF dk k (k + 1) y = rotF d m 1 (k + 1 - a) y) := Lib.hid (fun y => by
            unfold swF
            rw [HK.out k, HK.out (k + 1), HK.out y]
            have := HM.out
            unfold rotF
            repeat' split
            all_goals first | rfl | (exfalso; omega) | (congr 1; omega))
          clear HK
          have p0 := HD.out.c0 _ hkn
          have p1 := HD.out.c1 _ hkn
          have p2 := HD.out.c2 _ hkn
          have p3 := HD.out.c3 _ hkn
          have p4 := HD.out.c4 _ hkn
          have q0 := HD.out.c0 _ hkn1
          have q1 := HD.out.c1 _ hkn1
          have q2 := HD.out.c2 _ hkn1
          have q3 := HD.out.c3 _ hkn1
          have q4 := HD.out.c4 _ hkn1
          have sf := HD.out.soft
          have hlt := HD.out.lt
          have HD6 : Hid (Dx bxr (put5 (put5 wr g (k) (dk (k + 1))) g (k + 1) (dk (k))) g n (swF dk (k) (k + 1))) := Lib.hid (HD.out.swap (k) (k + 1) hkn hkn1)
          have HG6 := Lib.hid (grown_put5 (grown_put5 HG.out (k) (dk (k + 1))) (k + 1) (dk (k)))
          clear HD HG
          generalize dk (k) = X at p0 p1 p2 p3 p4 HD6 HG6
          generalize dk (k + 1) = Y at q0 q1 q2 q3 q4 HD6 HG6
          go_wp2_with fail
          go_region
          go_wp2
          go_roundw
          case rel => exact ⟨k + 1, swF dk k (k + 1), by omega, by omega, by go_num, HK2, Lib.hid HD6.out.drew, Lib.hid (grown_drew HG6.out)⟩
          case measure => simp [RowKit.intOf]; omega
        · have u1 : decide ((k : Int) < (i : Int) - 1) = false := by simp; omega
          go_wp2
          go_end0
          refine ⟨rfl, ⟨dk, HD.out, HQ.out.congr (fun y => ?_)⟩, HG.out⟩
          rw [HK.out y, show m - a = 1 from by have := HM.out; omega, show i - m = k - a from by have := HM.out; omega]

set_option maxHeartbeats 16000000 in
set_option maxRecDepth 1000000 in
theorem sym_right (g n cap a m b : Nat) (d : Nat → Rc) (w : World) (h : Dx bxr w g n d) (hn : n ≤ 1000) (ham : a < m) (hma : ¬ m - a = 1) (hbm : b = m + 1) (hb : b ≤ n) (sl : Srt d a m) :
    Calls Tryd.prog 44 #[.slice (some ⟨g, 0, none⟩) n cap, .int .i64 (a : Int), .int .i64 (m : Int), .int .i64 (b : Int), .func (.func 37) #[] #[.pointer (some ⟨bxr, 0, none⟩)]] w (datT bxr g n w (SMQ d a b)) := by
  have H := Lib.hid h
  have HSL := Lib.hid sl
  have HM := Lib.hid hbm
  have t0 : ((m : Int) - (a : Int) == 1) = false := by simp; omega
  have t1 : ((b : Int) - (m : Int) == 1) = true := by rw [hbm]; simp; omega
  have hmb : m + 1 ≤ b := by omega
  clear h sl hbm
  go_enter Tryd.func44, Tryd.ntmps44
  go_wp2
  go_loopw [14, 15] (fun v14 v15 wr => ∃ (i j : Nat), a ≤ i ∧ i ≤ j ∧ j ≤ m ∧ v14 = .int .i64 (i : Int) ∧ v15 = .int .i64 (j : Int) ∧ Hid (∀ k, a ≤ k → k < i → lessR (d m) (d k) = false) ∧ Hid (∀ k, j ≤ k → k < m → lessR (d m) (d k) = true) ∧ Hid (Dx bxr wr g n d) ∧ Hid (w.grownBy wr (some g))) (fun v14 v15 _ => (RowKit.intOf v15).toNat - (RowKit.intOf v14).toNat)
  case atStart => exact ⟨a, m, Nat.le_refl _, by omega, Nat.le_refl _, rfl, rfl, Lib.hid (fun k _ _ => by omega), Lib.hid (fun k _ _ => by omega), H, Lib.hid (grown_refl _ _)⟩
  case round =>
    obtain ⟨i, j, hai, hij, hjm, rfl, rfl, HL, HR, HD, HG⟩ := hrel
    by_cases hp : i < j
    · have hp2 : decide (i < j) = true := by simpa using hp
      obtain ⟨x, hx⟩ : ∃ x, x = (i + j) / 2 := ⟨_, rfl⟩
      have hxi : i ≤ x := by omega
      have hxj : x < j := by omega
      have hz : ((i : Int) + (j : Int)) / 2 = (x : Int) := by omega
      have hxn : x < n := by omega
      have hmn : m < n := by omega
      have xz : (x : Int) < (n : Int) := by omega
      have mz : (m : Int) < (n : Int) := by omega
      clear hx
      have hlt := HD.out.lt
      have HS : Hid (∀ W, Below wr.heap.size wr W → W.cell? ⟨g, m * 5, none⟩ = some (.int .i64 (d (m)).o) ∧ W.cell? ⟨g, m * 5 + 1, none⟩ = some (.int .i64 (d (m)).s) ∧ W.cell? ⟨g, m * 5 + 2, none⟩ = some (.int .i64 (d (m)).w) ∧ W.cell? ⟨g, m * 5 + 3, none⟩ = some (.int .i64 (d (m)).c) ∧ W.cell? ⟨g, m * 5 + 4, none⟩ = some (.string (d (m)).t) ∧ W.cell? ⟨g, x * 5, none⟩ = some (.int .i64 (d (x)).o) ∧ W.cell? ⟨g, x * 5 + 1, none⟩ = some (.int .i64 (d (x)).s) ∧ W.cell? ⟨g, x * 5 + 2, none⟩ = some (.int .i64 (d (x)).w) ∧ W.cell? ⟨g, x * 5 + 3, none⟩ = some (.int .i64 (d (x)).c) ∧ W.cell? ⟨g, x * 5 + 4, none⟩ = some (.string (d (x)).t)) := Lib.hid (fun W hb => by
        have hd := HD.out.below hb
        exact ⟨hd.c0 _ hmn, hd.c1 _ hmn, hd.c2 _ hmn, hd.c3 _ hmn, hd.c4 _ hmn, hd.c0 _ hxn, hd.c1 _ hxn, hd.c2 _ hxn, hd.c3 _ hxn, hd.c4 _ hxn⟩)
      have HCM := Lib.hid (fun (W : World) (hW : Below wr.heap.size wr W) => compare_c bxr (d (m)) (d (x)) W (HD.out.below hW).bx)
      have hneg := cmpR_neg (d (m)) (d (x))
      obtain ⟨X, hX⟩ : ∃ X, X = d (m) := ⟨_, rfl⟩
      obtain ⟨Y, hY⟩ : ∃ Y, Y = d (x) := ⟨_, rfl⟩
      rw [← hX, ← hY] at HS HCM hneg
      have HX := Lib.hid hX
      have HY := Lib.hid hY
      clear hX hY
      cases hL : lessR X Y
      · rw [hL] at hneg
        have HL2 : Hid (∀ k, a ≤ k → k < x + 1 → lessR (d m) (d k) = false) := Lib.hid (fun k hk hkx => by
          have h1 : Le (d x) (d m) := by rw [← HX.out, ← HY.out]; exact hL
          exact le_trans (HSL.out.le hk (by omega) (by omega)) h1)
        generalize cmpR X Y = N at HCM hneg
        go_wp2_with fail
        go_region_held3 (fun W => W.cell? ⟨g, m * 5, none⟩ = some (.int .i64 X.o) ∧ W.cell? ⟨g, m * 5 + 1, none⟩ = some (.int .i64 X.s) ∧ W.cell? ⟨g, m * 5 + 2, none⟩ = some (.int .i64 X.w) ∧ W.cell? ⟨g, m * 5 + 3, none⟩ = some (.int .i64 X.c) ∧ W.cell? ⟨g, m * 5 + 4, none⟩ = some (.string X.t) ∧ W.cell? ⟨g, x * 5, none⟩ = some (.int .i64 Y.o) ∧ W.cell? ⟨g, x * 5 + 1, none⟩ = some (.int .i64 Y.s) ∧ W.cell? ⟨g, x * 5 + 2, none⟩ = some (.int .i64 Y.w) ∧ W.cell? ⟨g, x * 5 + 3, none⟩ = some (.int .i64 Y.c) ∧ W.cell? ⟨g, x * 5 + 4, none⟩ = some (.string Y.t)) (exact HS.out _ (by first | assumption | exact (Below.refl _ _).drew | exact Below.refl _ _))
          (first
          | (go_at_call 37; refine (HCM.out _ (by first | assumption | exact (Below.refl _ _).drew | exact Below.refl _ _)).mono ?_; rintro e w5 ⟨rfl, b5⟩; have b5' : Below wr.heap.size wr w5 := bn (by first | assumption | exact (Below.refl _ _).drew | exact Below.refl _ _) b5; clear b5)
          | fail)
        go_wp2
        go_roundw
        case rel => exact ⟨x + 1, j, by omega, by omega, hjm, by go_num, rfl, HL2, HR, Lib.hid (HD.out.below b5'), Lib.hid (grown_next HG.out b5')⟩
        case measure => simp [RowKit.intOf]; omega
      · rw [hL] at hneg
        have HR2 : Hid (∀ k, x ≤ k → k < m → lessR (d m) (d k) = true) := Lib.hid (fun k hk hkm => by
          have h1 : lessR (d m) (d x) = true := by rw [← HX.out, ← HY.out]; exact hL
          exact less_of_less_le h1 (HSL.out.le (by omega) hk hkm))
        generalize cmpR X Y = N at HCM hneg
        go_wp2_with fail
        go_region_held3 (fun W => W.cell? ⟨g, m * 5, none⟩ = some (.int .i64 X.o) ∧ W.cell? ⟨g, m * 5 + 1, none⟩ = some (.int .i64 X.s) ∧ W.cell? ⟨g, m * 5 + 2, none⟩ = some (.int .i64 X.w) ∧ W.cell? ⟨g, m * 5 + 3, none⟩ = some (.int .i64 X.c) ∧ W.cell? ⟨g, m * 5 + 4, none⟩ = some (.string X.t) ∧ W.cell? ⟨g, x * 5, none⟩ = some (.int .i64 Y.o) ∧ W.cell? ⟨g, x * 5 + 1, none⟩ = some (.int .i64 Y.s) ∧ W.cell? ⟨g, x * 5 + 2, none⟩ = some (.int .i64 Y.w) ∧ W.cell? ⟨g, x * 5 + 3, none⟩ = some (.int .i64 Y.c) ∧ W.cell? ⟨g, x * 5 + 4, none⟩ = some (.string Y.t)) (exact HS.out _ (by first | assumption | exact (Below.refl _ _).drew | exact Below.refl _ _))
          (first
          | (go_at_call 37; refine (HCM.out _ (by first | assumption | exact (Below.refl _ _).drew | exact Below.refl _ _)).mono ?_; rintro e w5 ⟨rfl, b5⟩; have b5' : Below wr.heap.size wr w5 := bn (by first | assumption | exact (Below.refl _ _).drew | exact Below.refl _ _) b5; clear b5)
          | fail)
        go_wp2
        go_roundw
        case rel => exact ⟨i, x, hai, hxi, by omega, rfl, rfl, HL, HR2, Lib.hid (HD.out.below b5'), Lib.hid (grown_next HG.out b5')⟩
        case measure => simp [RowKit.intOf]; omega
    · have hij2 : i = j := by omega
      subst hij2
      have HQ := Lib.hid (sm_right HM.out hai hjm HSL.out HL.out HR.out)
      obtain ⟨w0, rfl⟩ : ∃ w0, w0 = wr := ⟨_, rfl⟩
      go_wp2
      go_loopw [17] (fun v17 w2 => ∃ (k : Nat) (dk : Nat → Rc), i ≤ k ∧ k ≤ m ∧ v17 = .int .i64 (k : Int) ∧ Hid (∀ y, dk y = rotF d m (m - k) 1 y) ∧ Hid (Dx bxr w2 g n dk) ∧ Hid (w.grownBy w2 (some g))) (fun v17 _ => (RowKit.intOf v17).toNat)
      case atStart => exact ⟨m, d, by omega, Nat.le_refl _, rfl, Lib.hid (fun y => by
          unfold rotF
          repeat' split
          all_goals first | rfl | (exfalso; omega) | (congr 1; omega)), HD, HG⟩
      case round =>
        obtain ⟨k, dk, hik, hkm, rfl, HK, HD, HG⟩ := hrel
        by_cases hp : i < k
        · obtain ⟨kp, rfl⟩ : ∃ kp, k = kp + 1 := ⟨k - 1, by omega⟩
          have u1 : decide (i < kp + 1) = true := by simpa using hp
          have u2 : decide ((i : Int) < (kp : Int) + 1) = true := by simp; omega
          have hkn : kp < n := by omega
          have hkn1 : kp + 1 < n := by omega
          have kz1 : (kp : Int) + 1 < (n : Int) := by omega
          have kz : (kp : Int) < (n : Int) := by omega
          have kz0 : (0 : Int) ≤ (kp : Int) + 1 := by omega
          have ke0 : ((kp : Int) + 1).toNat = kp + 1 := by omega
          have kw : IntKind.i64.wrap (kp : Int) = (kp : Int) := by rw [IntKind.wrap_i64]; omega
          have HK2 : Hid (∀ y, swF dk (kp + 1) kp y = rotF d m (m - kp) 1 y) := Lib.hid (fun y => by
            unfold swF
            rw [HK.out kp, HK.out (kp + 1), HK.out y]
            unfold rotF
            repeat' split
            all_goals first | rfl | (exfalso; omega) | (congr 1; omega))
          clear HK
          have p0 := HD.out.c0 _ hkn1
          have p1 := HD.out.c1 _ hkn1
          have p2 := HD.out.c2 _ hkn1
          have p3 := HD.out.c3 _ hkn1
          have p4 := HD.out.c4 _ hkn1
          have q0 := HD.out.c0 _ hkn
          have q1 := HD.out.c1 _ hkn
          have q2 := HD.out.c2 _ hkn
          have q3 := HD.out.c3 _ hkn
          have q4 := HD.out.c4 _ hkn
          have sf := HD.out.soft
          have hlt := HD.out.lt
          have HD6 : Hid (Dx bxr (put5 (put5 wr g (kp + 1) (dk (kp))) g (kp) (dk (kp + 1))) g n (swF dk (kp + 1) (kp))) := Lib.hid (HD.out.swap (kp + 1) (kp) hkn1 hkn)
          have HG6 := Lib.hid (grown_put5 (grown_put5 HG.out (kp + 1) (dk (kp))) (kp) (dk (kp + 1)))
          clear HD HG
          generalize dk (kp + 1) = X at p0 p1 p2 p3 p4 HD6 HG6
          generalize dk (kp) = Y at q0 q1 q2 q3 q4 HD6 HG6
          go_wp2_with fail
          go_region
          go_wp2
          go_roundw
          case rel => exact ⟨kp, swF dk (kp + 1) kp, by omega, by omega, by go_num, HK2, Lib.hid HD6.out.drew, Lib.hid (grown_drew HG6.out)⟩
          case measure => simp [RowKit.intOf]
        · have u1 : decide (i < k) = false := by simpa using hp
          go_wp2
          go_end0
          refine ⟨rfl, ⟨dk, HD.out, HQ.out.congr (fun y => ?_)⟩, HG.out⟩
          rw [HK.out y, show b - m = 1 from by have := HM.out; omega, show i = k from by omega]
end Go.Proofs.YtkmcieiglhdjeaaDoor
