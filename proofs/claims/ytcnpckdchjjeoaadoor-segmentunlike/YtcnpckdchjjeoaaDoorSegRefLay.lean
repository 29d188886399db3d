/-
  Chapter 8's own Lay, by contract.
-/
import Derived.Test.YtcnpckdchjjeoaaDoorSegLay
namespace Go.Proofs.YtcnpckdchjjeoaaDoor
open Go.RowKit Go.Lib
set_option maxRecDepth 100000

set_option maxHeartbeats 4000000 in
theorem reflaye_c (e : En) (a b : Value) (w : World) (ha : Nl w a e.v) (hb : Nl w b e.w) (hv : e.v.length ≤ 1000000) (hw : e.w.length ≤ 1000000) (hs : e.r.t.size ≤ 9223372036854775807) (hT : Tabs w) :
    Calls Tryd.prog 10 #[.agg #[.int .i64 e.k, a, b, .int .i64 e.r.o, .int .i64 e.r.s, .int .i64 e.r.w, .int .i64 e.r.c, .string e.r.t]] w (layeT e w) := by
  have HX := Lib.hid (Bx.new 30 w #[.int .i64 e.k, a, b, .int .i64 e.r.o, .int .i64 e.r.s, .int .i64 e.r.w, .int .i64 e.r.c, .string e.r.t])
  have hA := Lib.hid (alloc_below w (.cells #[.int .i64 e.k, a, b, .int .i64 e.r.o, .int .i64 e.r.s, .int .i64 e.r.w, .int .i64 e.r.c, .string e.r.t] 30))
  obtain ⟨W1, hW1⟩ : ∃ W1, W1 = w.alloc (.cells #[.int .i64 e.k, a, b, .int .i64 e.r.o, .int .i64 e.r.s, .int .i64 e.r.w, .int .i64 e.r.c, .string e.r.t] 30) := ⟨_, rfl⟩
  rw [← hW1] at HX hA
  have hz : W1.heap.size = w.heap.size + 1 := by rw [hW1]; simp
  have HC := Lib.hid (any_c e a b W1 (ha.below hA.out) (hb.below hA.out) hv hw hs (hT.below hA.out))
  obtain ⟨ad1, cap1, rfl, _⟩ := ha.form
  obtain ⟨ad2, cap2, rfl, _⟩ := hb.form
  unfold layeT
  cases hm : someE e
  · rw [hm] at HC
    clear ha hb hv hw hs hT hm
    go_enter Tryd.func10, Tryd.ntmps10
    go_wp2_with fail
    rw [← hW1]
    refine HC.out.mono ?_
    rintro x w1 ⟨rfl, b1⟩
    go_wp2
    go_ret2
    exact ⟨_, rfl, BRow.nil _ _, bn hA.out b1⟩
  · rw [hm] at HC
    have hok := bodyE_okF hm
    have hlen := bodyE_len hm
    obtain ⟨l1, l2, l3, _, _⟩ := someE_len hm
    have CL : Hid (∀ W u, Bl W u (bodyE e) → Calls Tryd.prog 33 #[.int .i64 e.k, u] W fun x w' => ∃ A N C, x = .returned (.tuple #[.slice A N C, .int .i64 0]) ∧ Hid (BRow w' W.heap.size (.slice A N C) (layE e)) ∧ Hid (Below W.heap.size W w')) := Lib.hid (fun W u hu => (reflay_c e.k (bodyE e) u W hu (by unfold maxLen; omega)).mono (by
      rintro x w' ⟨A, N, C, h1, h2, h3⟩
      rw [if_pos hok] at h1 h2
      exact ⟨A, N, C, h1, Lib.hid h2, Lib.hid h3⟩))
    have hT1 := Lib.hid hT
    have hHa := Lib.hid ha
    have hHb := Lib.hid hb
    clear ha hb hv hw hT hm hok
    by_cases k1 : e.k = 1
    · have f1 : (e.k == 1) = true := by simpa using k1
      have hbody : bodyE e = vecB e.v ++ vecB e.w := by unfold bodyE; rw [if_pos k1]
      rw [hbody] at CL
      clear hbody k1 l3
      go_enter Tryd.func10, Tryd.ntmps10
      go_wp2_with fail
      rw [← hW1]
      refine HC.out.mono ?_
      rintro x w1 ⟨rfl, b1⟩
      have HX1 := Lib.hid (HX.out.below b1)
      have HB1 := Lib.hid (bn hA.out b1)
      clear b1 HX HC
      have hl := HX1.out.lt
      obtain ⟨c0, c1, c2, c3, c4, c5, c6, c7⟩ := HX1.out.eight
      have CV : Hid (∀ W, Below w1.heap.size w1 W → Calls Tryd.prog 31 #[.slice none 0 0, .slice ad1 e.v.length cap1] W (rowB w1.heap.size ([] ++ vecB e.v) W)) := Lib.hid (fun W hW =>
        refvec_c [] e.v _ ad1 cap1 W w1.heap.size (BRow.nil _ _) (fun w' h' => hHa.out.below (HB1.out.trans ((hW.trans h').mono HB1.out.size))) (by omega) (by simp) hW.size)
      have CV2 : Hid (∀ W v, Below w1.heap.size w1 W → BRow W w1.heap.size v (vecB e.v) → Calls Tryd.prog 31 #[v, .slice ad2 e.w.length cap2] W (rowB w1.heap.size (vecB e.v ++ vecB e.w) W)) := Lib.hid (fun W v hW hv =>
        refvec_c (vecB e.v) e.w _ ad2 cap2 W w1.heap.size hv (fun w' h' => hHb.out.below (HB1.out.trans ((hW.trans h').mono HB1.out.size))) (by omega) (by rw [vecB_len]; omega) hW.size)
      have HS : Hid (∀ w' : World, Below w1.heap.size w1 w' → w'.cell? ⟨w.heap.size, 1, none⟩ = some (.slice ad1 e.v.length cap1) ∧ w'.cell? ⟨w.heap.size, 2, none⟩ = some (.slice ad2 e.w.length cap2)) := Lib.hid (fun w' h' => by
        obtain ⟨c0, c1, c2, _⟩ := (HX1.out.below h').eight
        exact ⟨c1, c2⟩)
      go_wp2_with fail
      clear c0 c1 c2 c3 c4 c5 c6 c7
      go_region_held3 (fun w' => w'.cell? ⟨w.heap.size, 1, none⟩ = some (.slice ad1 e.v.length cap1) ∧ w'.cell? ⟨w.heap.size, 2, none⟩ = some (.slice ad2 e.w.length cap2)) (exact HS.out _ (by first | assumption | exact (Below.refl _ _).drew | exact Below.refl _ _))
        (first
        | (go_at_call 31; refine (CV2.out _ _ (by first | assumption | exact (Below.refl _ _).drew | exact Below.refl _ _) h1row).mono ?_; rintro x w3 ⟨v3, rfl, h3row, b3⟩; have b3' : Below w1.heap.size w1 w3 := Below.trans (by first | assumption | exact (Below.refl _ _).drew | exact Below.refl _ _) b3; clear b3)
        | (go_at_call 31; refine (CV.out _ (by first | assumption | exact (Below.refl _ _).drew | exact Below.refl _ _)).mono ?_; rintro x w2 ⟨v2, rfl, h1row, b2⟩; have b2' : Below w1.heap.size w1 w2 := Below.trans (by first | assumption | exact (Below.refl _ _).drew | exact Below.refl _ _) b2; clear b2)
        | fail)
      have hx3 := HX1.out.below b3'
      have hl3 := hx3.lt
      obtain ⟨c0, c1, c2, c3, c4, c5, c6, c7⟩ := hx3.eight
      have H3 := Lib.hid h3row
      have HB3 := Lib.hid (bn HB1.out b3')
      clear h3row b3' b2' h1row
      go_wp2_with fail
      refine (CL.out _ _ H3.out.nl).mono ?_
      rintro x w4 ⟨A4, N4, C4, rfl, h4, b4⟩
      go_wp2
      go_ret2
      exact ⟨_, rfl, h4.out.mono HB3.out.size, bn HB3.out b4.out⟩
    · have f1 : (e.k == 1) = false := by simpa using k1
      by_cases k2 : e.k = 2
      · have f2 : (e.k == 2) = true := by simpa using k2
        have hbody : bodyE e = layL e.r := by unfold bodyE; rw [if_neg k1, if_pos k2]
        rw [hbody] at CL
        have CR : Hid (∀ W, Below w.heap.size w W → Calls Tryd.prog 32 #[.agg #[.int .i64 e.r.o, .int .i64 e.r.s, .int .i64 e.r.w, .int .i64 e.r.c, .string e.r.t]] W fun x w' => ∃ v, x = .returned (.tuple #[v, .int .i64 0]) ∧ BRow w' W.heap.size v (layL e.r) ∧ Below W.heap.size W w') := Lib.hid (fun W h => (rcreflay_c e.r W hs (hT1.out.below h)).mono (by
          unfold rclayT
          rw [l3 k2]
          exact fun _ _ h => h))
        clear hbody k1 k2 l3
        go_enter Tryd.func10, Tryd.ntmps10
        go_wp2_with fail
        rw [← hW1]
        refine HC.out.mono ?_
        rintro x w1 ⟨rfl, b1⟩
        have HX1 := Lib.hid (HX.out.below b1)
        have HB1 := Lib.hid (bn hA.out b1)
        clear b1 HX HC
        have hl := HX1.out.lt
        obtain ⟨c0, c1, c2, c3, c4, c5, c6, c7⟩ := HX1.out.eight
        go_wp2_with fail
        refine (CR.out _ HB1.out).mono ?_
        rintro x w3 ⟨v3, rfl, h3, b3⟩
        have hx3 := HX1.out.below b3
        have H3 := Lib.hid h3
        have HB3 := Lib.hid (bn HB1.out b3)
        clear h3 c0 c1 c2 c3 c4 c5 c6 c7 b3 hl
        have hl3 := hx3.lt
        obtain ⟨c0, c1, c2, c3, c4, c5, c6, c7⟩ := hx3.eight
        go_wp2_with fail
        refine (CL.out _ _ H3.out.nl).mono ?_
        rintro x w4 ⟨A4, N4, C4, rfl, h4, b4⟩
        go_wp2
        go_ret2
        exact ⟨_, rfl, h4.out.mono HB3.out.size, bn HB3.out b4.out⟩
      · have f2 : (e.k == 2) = false := by simpa using k2
        have hbody : bodyE e = vecB e.w := by unfold bodyE; rw [if_neg k1, if_neg k2]
        rw [hbody] at CL
        clear hbody k1 k2 l3
        go_enter Tryd.func10, Tryd.ntmps10
        go_wp2_with fail
        rw [← hW1]
        refine HC.out.mono ?_
        rintro x w1 ⟨rfl, b1⟩
        have HX1 := Lib.hid (HX.out.below b1)
        have HB1 := Lib.hid (bn hA.out b1)
        clear b1 HX HC
        have hl := HX1.out.lt
        obtain ⟨c0, c1, c2, c3, c4, c5, c6, c7⟩ := HX1.out.eight
        have CV := Lib.hid (refvec_c [] e.w _ ad2 cap2 w1 w1.heap.size (BRow.nil _ _) (fun w' h' => hHb.out.below (bn HB1.out h')) (by omega) (by simp) (Nat.le_refl _))
        go_wp2_with fail
        refine CV.out.mono ?_
        rintro x w3 ⟨v3, rfl, h3, b3⟩
        have hx3 := HX1.out.below b3
        have H3 := Lib.hid h3
        have HB3 := Lib.hid (bn HB1.out b3)
        clear h3 c0 c1 c2 c3 c4 c5 c6 c7 b3 hl
        have hl3 := hx3.lt
        obtain ⟨c0, c1, c2, c3, c4, c5, c6, c7⟩ := hx3.eight
        go_wp2_with fail
        refine (CL.out _ _ H3.out.nl).mono ?_
        rintro x w4 ⟨A4, N4, C4, rfl, h4, b4⟩
        go_wp2
        go_ret2
        exact ⟨_, rfl, h4.out.mono HB3.out.size, bn HB3.out b4.out⟩
end Go.Proofs.YtcnpckdchjjeoaaDoor
