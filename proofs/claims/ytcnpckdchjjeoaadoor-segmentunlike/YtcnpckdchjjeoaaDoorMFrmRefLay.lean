/-
  Chapter 6's own Lay, by contract.
-/
import Derived.Test.YtcnpckdchjjeoaaDoorMFrmLay
namespace Go.Proofs.YtcnpckdchjjeoaaDoor
open Go.RowKit Go.Lib
set_option maxRecDepth 100000
theorem brow_two (w : World) (x y : Int) : BRow (w.alloc (.cells #[.int .u8 x, .int .u8 y] 5)) w.heap.size (.slice (some ⟨w.heap.size, 0, none⟩) 2 2) [x, y] :=
  ⟨rfl, .inr ⟨w.heap.size, 2, _, rfl, Nat.le_refl _, heap_alloc_new w _, Nat.le_refl _, by unfold maxLen; omega, rfl, rfl⟩⟩
theorem hd_two (k : Int) (h1 : 1 ≤ k) (h2 : k ≤ 255) : numB 71 1 ++ numB k 1 = [71, k] := by
  simp [numB]; omega

set_option maxHeartbeats 8000000 in
theorem reflay_c (k : Int) (b : List Int) (u : Value) (w : World) (hu : Bl w u b) (hl : b.length ≤ maxLen) :
    Calls Tryd.prog 33 #[.int .i64 k, u] w (layT k b w) := by
  have HU := Lib.hid hu
  obtain ⟨ad, cap, rfl, _⟩ := hu.form
  unfold maxLen at hl
  clear hu
  by_cases h1 : 1 ≤ k
  · have e1 : decide (k < 1) = false := by simp; omega
    by_cases h2 : k ≤ 255
    · have e2 : decide (255 < k) = false := by simp; omega
      by_cases h3 : b.length ≤ 65535
      · have e3 : decide ((65535 : Int) < (b.length : Int)) = false := by simp; omega
        have e4 : decide (65535 < b.length) = false := by simp; omega
        have e5 : IntKind.u8.wrap k = k := by rw [IntKind.wrap_u8]; omega
        have HX := Lib.hid (show okF k b = true by simp [okF]; omega)
        have HD := Lib.hid (hd_two k h1 h2)
        go_enter Tryd.func33, Tryd.ntmps33
        go_wp2_with fail
        refine (refnum_c [71, k] _ (b.length : Int) 2 _ w.heap.size (brow_two w 71 k) (by decide) (by simp) (by simp)).mono ?_
        rintro e w4 ⟨v4, rfl, h4', b4⟩
        have HB4 : Hid (Below w.heap.size w w4) := Lib.hid ((alloc_below _ _).trans b4)
        have H4 := Lib.hid h4'
        clear h4' b4
        obtain ⟨A5, N5, C5, w5, happ, h5, b5⟩ := bapp_run _ b v4 (.slice ad b.length cap) w4 33 w.heap.size H4.out (HU.out.below HB4.out) (by simp [numB_len]; omega) HB4.out.size
        have HB5 : Hid (Below w.heap.size w w5) := Lib.hid (HB4.out.trans b5)
        have H5 : Hid (BRow w5 w.heap.size (.slice A5 N5 C5) (hdF k b)) := Lib.hid (by unfold hdF; rw [HD.out]; exact h5)
        have HAPP := Lib.hid happ
        clear happ h5 b5 H4
        go_wp2_with (at_builtin; refine wpList_append_run rfl _ _ 33 rfl _ _ HAPP.out ?_)
        refine (seal_c (hdF k b) _ w5 H5.out.nl (by rw [hdF_len]; omega)).mono ?_
        rintro e w6 ⟨v6, rfl, h6, b6⟩
        have HB6 : Hid (Below w.heap.size w w6) := Lib.hid (bn HB5.out b6)
        obtain ⟨A7, N7, C7, w7, happ, h7, b7⟩ := bapp_run _ _ (.slice A5 N5 C5) v6 w6 33 w.heap.size (H5.out.below b6) h6.nl (by rw [hdF_len, numB_len]; omega) HB6.out.size
        have HB7 : Hid (Below w.heap.size w w7) := Lib.hid (HB6.out.trans b7)
        have H7 := Lib.hid h7
        have HAPP := Lib.hid happ
        clear happ h7 b7 h6 b6 HB6 HB5 HB4 H5
        go_wp2_with (at_builtin; refine wpList_append_run rfl _ _ 33 rfl _ _ HAPP.out ?_)
        go_ret2
        exact layT_yes HX.out H7.out HB7.out
      · have e3 : decide ((65535 : Int) < (b.length : Int)) = true := by simp; omega
        have e4 : decide (65535 < b.length) = true := by simp; omega
        have HX := Lib.hid (show okF k b = false by simp [okF]; omega)
        go_enter Tryd.func33, Tryd.ntmps33
        go_wp2
        go_ret2
        exact layT_no HX.out (Below.refl _ _)
    · have e2 : decide (255 < k) = true := by simp; omega
      have HX := Lib.hid (show okF k b = false by simp [okF]; omega)
      go_enter Tryd.func33, Tryd.ntmps33
      go_wp2
      go_ret2
      exact layT_no HX.out (Below.refl _ _)
  · have e1 : decide (k < 1) = true := by simp; omega
    have HX := Lib.hid (show okF k b = false by simp [okF]; omega)
    go_enter Tryd.func33, Tryd.ntmps33
    go_wp2
    go_ret2
    exact layT_no HX.out (Below.refl _ _)
end Go.Proofs.YtcnpckdchjjeoaaDoor
