/-
  insertionSort of package slices, at records, by contract.
-/
import Derived.Test.YtkmcieiglhdjeaaDoorVRecOrd
namespace Go.Proofs.YtkmcieiglhdjeaaDoor
open Go.RowKit Go.Lib
variable {bxr : Nat}

theorem swap_cls (d : Nat → Rc) {a j b : Nat} (h1 : a ≤ j) (h2 : j + 2 ≤ b) (hl : lessR (d (j + 1)) (d j) = true) : Cls (seg d a b) (seg (swF d (j + 1) j) a b) := by
  have h := rot_cls d (s := j) (m := j + 1) (e := j + 2) h1 (by omega) (by omega) h2 (fun p q hp hp2 hq hq2 => by
    obtain rfl : p = j := by omega
    obtain rfl : q = p + 1 := by omega
    exact hl)
  have e : seg (swF d (j + 1) j) a b = seg (rotF d (j + 1) (j + 1 - j) (j + 2 - (j + 1))) a b := seg_congr (fun k _ _ => by
    unfold swF rotF
    repeat' split
    all_goals first | rfl | (exfalso; omega) | (congr 1; omega))
  rw [e]
  exact h

/-- What stands between two rounds of the inner loop. -/
structure InsQ (d : Nat → Rc) (a b i j : Nat) (dj : Nat → Rc) : Prop where
  out : ∀ k, k < a ∨ b ≤ k → dj k = d k
  srt : ∀ p q, a ≤ p → p < q → q ≤ i → q ≠ j → Le (dj p) (dj q)
  cls : Cls (seg d a b) (seg dj a b)
theorem InsQ.step {d dj : Nat → Rc} {a b i jp : Nat} (h : InsQ d a b i (jp + 1) dj) (haj : a ≤ jp) (hji : jp + 1 ≤ i) (hib : i < b) (hl : lessR (dj (jp + 1)) (dj jp) = true) : InsQ d a b i jp (swF dj (jp + 1) jp) := by
  refine ⟨fun k hk => ?_, fun p q hp hpq hq hqj => ?_, h.cls.trans (swap_cls dj haj (by omega) hl)⟩
  · unfold swF
    rw [if_neg (by omega), if_neg (by omega)]
    exact h.out k hk
  · unfold swF
    rw [if_neg hqj]
    by_cases h1 : q = jp + 1
    · rw [if_pos h1]
      by_cases h2 : p = jp
      · rw [if_pos h2]
        exact le_of_less hl
      · rw [if_neg h2, if_neg (by omega)]
        exact h.srt p jp hp (by omega) (by omega) (by omega)
    · rw [if_neg h1]
      by_cases h2 : p = jp
      · rw [if_pos h2]
        exact h.srt (jp + 1) q (by omega) (by omega) hq h1
      · rw [if_neg h2]
        by_cases h3 : p = jp + 1
        · rw [if_pos h3]
          exact h.srt jp q haj (by omega) hq h1
        · rw [if_neg h3]
          exact h.srt p q hp hpq hq h1
theorem InsQ.done {d dj : Nat → Rc} {a b i j : Nat} (h : InsQ d a b i j dj) (hs : j = a ∨ (a < j ∧ Le (dj (j - 1)) (dj j))) : Srt dj a (i + 1) := by
  intro p q hp hpq hq
  by_cases hqj : q = j
  · rcases hs with hs | hs
    · omega
    · by_cases hpj : p = j - 1
      · rw [hpj, hqj]; exact hs.2
      · rw [hqj]
        exact le_trans (h.srt p (j - 1) hp (by omega) (by omega) (by omega)) hs.2
  · exact h.srt p q hp hpq (by omega) hqj

set_option maxHeartbeats 8000000 in
set_option maxRecDepth 100000 in
theorem ins_c (g n cap a b : Nat) (d : Nat → Rc) (w : World) (h : Dx bxr w g n d) (hn : n ≤ 1000) (hab : a ≤ b) (hb : b ≤ n) :
    Calls Tryd.prog 43 #[.slice (some ⟨g, 0, none⟩) n cap, .int .i64 (a : Int), .int .i64 (b : Int), .func (.func 37) #[] #[.pointer (some ⟨bxr, 0, none⟩)]] w (datT bxr g n w (SMQ d a b)) := by
  have H := Lib.hid h
  clear h
  go_enter Tryd.func43, Tryd.ntmps43
  go_wp2
  go_loopw [8] (fun v8 wr => ∃ (i : Nat) (dk : Nat → Rc), a < i ∧ (i ≤ b ∨ i = a + 1) ∧ v8 = .int .i64 (i : Int) ∧ Hid (∀ k, k < a ∨ b ≤ k → dk k = d k) ∧ Hid (Srt dk a i) ∧ Hid (Cls (seg d a b) (seg dk a b)) ∧ Hid (Dx bxr wr g n dk) ∧ Hid (w.grownBy wr (some g))) (fun v8 _ => b + 1 - (RowKit.intOf v8).toNat)
  case atStart => exact ⟨a + 1, d, by omega, .inr rfl, by go_num, Lib.hid (fun _ _ => rfl), Lib.hid (fun p q hp hpq hq => by omega), Lib.hid (Cls.refl _), H, Lib.hid (grown_refl _ _)⟩
  case round =>
    obtain ⟨i, dk, hai, hib, rfl, HO, HSr, HC, HD, HG⟩ := hrel
    by_cases hp : i < b
    · have hp2 : decide (i < b) = true := by simpa using hp
      have HQ : Hid (InsQ d a b i i dk) := Lib.hid ⟨HO.out, fun p q hp hpq hq hqj => HSr.out p q hp hpq (by omega), HC.out⟩
      obtain ⟨w0, rfl⟩ : ∃ w0, w0 = wr := ⟨_, rfl⟩
      clear HO HSr HC
      go_wp2
      go_loopw [9] (fun v9 w2 => ∃ (j : Nat) (dj : Nat → Rc), a ≤ j ∧ j ≤ i ∧ v9 = .int .i64 (j : Int) ∧ Hid (InsQ d a b i j dj) ∧ Hid (Dx bxr w2 g n dj) ∧ Hid (w.grownBy w2 (some g))) (fun v9 _ => (RowKit.intOf v9).toNat)
      case atStart => exact ⟨i, dk, by omega, Nat.le_refl _, rfl, HQ, HD, HG⟩
      case round =>
        obtain ⟨j, dj, haj, hji, rfl, HQ, HD, HG⟩ := hrel
        by_cases hja : a < j
        · obtain ⟨jp, rfl⟩ : ∃ jp, j = jp + 1 := ⟨j - 1, by omega⟩
          have t1 : decide (a < jp + 1) = true := by simpa using hja
          have t2 : decide ((a : Int) < (jp : Int) + 1) = true := by simp; omega
          have hj1 : jp + 1 < n := by omega
          have hj0 : jp < n := by omega
          have hlt := HD.out.lt
          have hwp : IntKind.i64.wrap (jp : Int) = (jp : Int) := by rw [IntKind.wrap_i64]; omega
          have jz : (jp : Int) + 1 < (n : Int) := by omega
          have jz1 : (jp : Int) < (n : Int) := by omega
          have jz0 : (0 : Int) ≤ (jp : Int) + 1 := by omega
          have je0 : ((jp : Int) + 1).toNat = jp + 1 := by omega
          have HS : Hid (∀ W, Below wr.heap.size wr W → W.cell? ⟨g, (jp + 1) * 5, none⟩ = some (.int .i64 (dj (jp + 1)).o) ∧ W.cell? ⟨g, (jp + 1) * 5 + 1, none⟩ = some (.int .i64 (dj (jp + 1)).s) ∧ W.cell? ⟨g, (jp + 1) * 5 + 2, none⟩ = some (.int .i64 (dj (jp + 1)).w) ∧ W.cell? ⟨g, (jp + 1) * 5 + 3, none⟩ = some (.int .i64 (dj (jp + 1)).c) ∧ W.cell? ⟨g, (jp + 1) * 5 + 4, none⟩ = some (.string (dj (jp + 1)).t) ∧ W.cell? ⟨g, jp * 5, none⟩ = some (.int .i64 (dj jp).o) ∧ W.cell? ⟨g, jp * 5 + 1, none⟩ = some (.int .i64 (dj jp).s) ∧ W.cell? ⟨g, jp * 5 + 2, none⟩ = some (.int .i64 (dj jp).w) ∧ W.cell? ⟨g, jp * 5 + 3, none⟩ = some (.int .i64 (dj jp).c) ∧ W.cell? ⟨g, jp * 5 + 4, none⟩ = some (.string (dj jp).t)) := Lib.hid (fun W hb => by
            have hd := HD.out.below hb
            exact ⟨hd.c0 _ hj1, hd.c1 _ hj1, hd.c2 _ hj1, hd.c3 _ hj1, hd.c4 _ hj1, hd.c0 _ hj0, hd.c1 _ hj0, hd.c2 _ hj0, hd.c3 _ hj0, hd.c4 _ hj0⟩)
          have HCM := Lib.hid (fun (W : World) (hW : Below wr.heap.size wr W) => compare_c bxr (dj (jp + 1)) (dj jp) W (HD.out.below hW).bx)
          have hneg := cmpR_neg (dj (jp + 1)) (dj jp)
          obtain ⟨X, hX⟩ : ∃ X, X = dj (jp + 1) := ⟨_, rfl⟩
          obtain ⟨Y, hY⟩ : ∃ Y, Y = dj jp := ⟨_, rfl⟩
          rw [← hX, ← hY] at HS HCM hneg
          have HX := Lib.hid hX
          have HY := Lib.hid hY
          clear hX hY
          cases hL : lessR X Y
          · rw [hL] at hneg
            have HSR : Hid (Srt dj a (i + 1)) := Lib.hid (HQ.out.done (.inr ⟨hja, by rw [Nat.add_sub_cancel, ← HX.out, ← HY.out]; exact hL⟩))
            generalize cmpR X Y = N at HCM hneg
            go_wp2_with fail
            go_region_held3 (fun W => W.cell? ⟨g, (jp + 1) * 5, none⟩ = some (.int .i64 X.o) ∧ W.cell? ⟨g, (jp + 1) * 5 + 1, none⟩ = some (.int .i64 X.s) ∧ W.cell? ⟨g, (jp + 1) * 5 + 2, none⟩ = some (.int .i64 X.w) ∧ W.cell? ⟨g, (jp + 1) * 5 + 3, none⟩ = some (.int .i64 X.c) ∧ W.cell? ⟨g, (jp + 1) * 5 + 4, none⟩ = some (.string X.t) ∧ W.cell? ⟨g, jp * 5, none⟩ = some (.int .i64 Y.o) ∧ W.cell? ⟨g, jp * 5 + 1, none⟩ = some (.int .i64 Y.s) ∧ W.cell? ⟨g, jp * 5 + 2, none⟩ = some (.int .i64 Y.w) ∧ W.cell? ⟨g, jp * 5 + 3, none⟩ = some (.int .i64 Y.c) ∧ W.cell? ⟨g, jp * 5 + 4, none⟩ = some (.string Y.t)) (exact HS.out _ (by first | assumption | exact (Below.refl _ _).drew | exact Below.refl _ _))
              (first
              | (go_at_call 37; refine (HCM.out _ (by first | assumption | exact (Below.refl _ _).drew | exact Below.refl _ _)).mono ?_; rintro e w5 ⟨rfl, b5⟩; have b5' : Below wr.heap.size wr w5 := bn (by first | assumption | exact (Below.refl _ _).drew | exact Below.refl _ _) b5; clear b5)
              | fail)
            go_wp2
            go_roundw
            case rel => exact ⟨i + 1, dj, by omega, .inl hp, by go_num, Lib.hid HQ.out.out, HSR, Lib.hid HQ.out.cls, Lib.hid (HD.out.below b5'), Lib.hid (grown_next HG.out b5')⟩
            case measure => simp [RowKit.intOf]; omega
          · rw [hL] at hneg
            have HQ2 : Hid (InsQ d a b i jp (swF dj (jp + 1) jp)) := Lib.hid (HQ.out.step (by omega) hji hp (by rw [← HX.out, ← HY.out]; exact hL))
            generalize cmpR X Y = N at HCM hneg
            go_wp2_with fail
            go_region_held3 (fun W => W.cell? ⟨g, (jp + 1) * 5, none⟩ = some (.int .i64 X.o) ∧ W.cell? ⟨g, (jp + 1) * 5 + 1, none⟩ = some (.int .i64 X.s) ∧ W.cell? ⟨g, (jp + 1) * 5 + 2, none⟩ = some (.int .i64 X.w) ∧ W.cell? ⟨g, (jp + 1) * 5 + 3, none⟩ = some (.int .i64 X.c) ∧ W.cell? ⟨g, (jp + 1) * 5 + 4, none⟩ = some (.string X.t) ∧ W.cell? ⟨g, jp * 5, none⟩ = some (.int .i64 Y.o) ∧ W.cell? ⟨g, jp * 5 + 1, none⟩ = some (.int .i64 Y.s) ∧ W.cell? ⟨g, jp * 5 + 2, none⟩ = some (.int .i64 Y.w) ∧ W.cell? ⟨g, jp * 5 + 3, none⟩ = some (.int .i64 Y.c) ∧ W.cell? ⟨g, jp * 5 + 4, none⟩ = some (.string Y.t)) (exact HS.out _ (by first | assumption | exact (Below.refl _ _).drew | exact Below.refl _ _))
              (first
              | (go_at_call 37; refine (HCM.out _ (by first | assumption | exact (Below.refl _ _).drew | exact Below.refl _ _)).mono ?_; rintro e w5 ⟨rfl, b5⟩; have b5' : Below wr.heap.size wr w5 := bn (by first | assumption | exact (Below.refl _ _).drew | exact Below.refl _ _) b5; clear b5)
              | fail)
            have HD5 := HD.out.below b5'
            have p0 := HD5.c0 _ hj1
            have p1 := HD5.c1 _ hj1
            have p2 := HD5.c2 _ hj1
            have p3 := HD5.c3 _ hj1
            have p4 := HD5.c4 _ hj1
            have q0 := HD5.c0 _ hj0
            have q1 := HD5.c1 _ hj0
            have q2 := HD5.c2 _ hj0
            have q3 := HD5.c3 _ hj0
            have q4 := HD5.c4 _ hj0
            have sf := HD5.soft
            have hlt5 := HD5.lt
            have HD6 := Lib.hid (HD5.swap (jp + 1) jp hj1 hj0)
            have HG6 := Lib.hid (grown_put5 (grown_put5 (grown_next HG.out b5') (jp + 1) (dj jp)) jp (dj (jp + 1)))
            have HD7 : Hid (Dx bxr (put5 (put5 w5 g (jp + 1) (dj jp)) g jp (dj (jp + 1))) g n (swF dj (jp + 1) jp)) := HD6
            rw [← HX.out, ← HY.out] at HD7 HG6
            rw [← HX.out] at p0 p1 p2 p3 p4
            rw [← HY.out] at q0 q1 q2 q3 q4
            clear HD5 HD6 b5' HCM HS
            go_wp2_with fail
            go_region
            go_wp2
            go_roundw
            case rel => exact ⟨jp, swF dj (jp + 1) jp, by omega, by omega, by go_num, HQ2, Lib.hid HD7.out.drew, Lib.hid (grown_drew HG6.out)⟩
            case measure => simp [RowKit.intOf]
        · have hja' : j = a := by omega
          subst hja'
          have t1 : decide (j < j) = false := by simp
          have t2 : decide ((j : Int) < (j : Int)) = false := by simp
          have HSR : Hid (Srt dj j (i + 1)) := Lib.hid (HQ.out.done (.inl rfl))
          go_wp2_with fail
          go_quiet (fail)
          go_wp2
          go_roundw
          case rel => exact ⟨i + 1, dj, by omega, .inl hp, by go_num, Lib.hid HQ.out.out, HSR, Lib.hid HQ.out.cls, Lib.hid (HD.out.below (below_drewN (Below.refl _ _) nq)), Lib.hid (grown_next HG.out (below_drewN (Below.refl _ _) nq))⟩
          case measure => simp [RowKit.intOf]; omega
    · have hp2 : decide (i < b) = false := by simpa using hp
      go_wp2
      go_end0
      refine ⟨rfl, ⟨dk, HD.out, HO.out, ?_, HC.out⟩, HG.out⟩
      rcases hib with h | h
      · exact HSr.out.sub (Nat.le_refl _) (by omega)
      · exact HSr.out.sub (Nat.le_refl _) (by omega)
end Go.Proofs.YtkmcieiglhdjeaaDoor
