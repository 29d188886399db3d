/-
  awake, by contract: what every program answers that is one.
-/
import Derived.Test.YtkgenjiccidfgaaFrmMath
import Derived.Lib.SlBytesConst
namespace Go.Proofs.Ytkgenjiccidfgaa
open Go.RowKit Go.Lib

/-- A marked row of two bytes, just laid. -/
theorem bl_marked2 (w : World) (T : TypeId) (fr : Nat × Nat) (cap : Nat) (x y : Int) : Bl (w.alloc (.cells #[.int .u8 x, .int .u8 y] T fr)) (.slice (some ⟨w.heap.size, 0, none⟩) 2 cap) [x, y] :=
  .inr ⟨⟨w.heap.size, 0, none⟩, cap, rfl, fun _ => ⟨w.heap.size, 0, rfl, fun k hk => by
    match k, hk with
    | 0, _ => exact cell_of_row _ _ 0 _ _ _ (heap_alloc_new w _)
    | 1, _ => exact cell_of_row _ _ 1 _ _ _ (heap_alloc_new w _)⟩⟩
/-- append to nothing, of a frame and once more, as two steps whose answers are known. -/
theorem app2_run (l m : List Int) (u v : Value) (w : World) (ty ty' : TypeId) (hu : Bl w u l) (hv : Bl w v m) (hn : l.length + m.length ≤ 1000000) :
    ∃ A N C w1, (Builtin.append_ #[22, 22] ty #[.slice none 0 0, u]).run Try.prog w = .ok (.slice A N C) w1 ∧ Below w.heap.size w w1 ∧
      ∃ A' N' C' w2, (Builtin.append_ #[22, 22] ty' #[.slice A N C, v]).run Try.prog w1 = .ok (.slice A' N' C') w2 ∧ BRow w2 w.heap.size (.slice A' N' C') (l ++ m) ∧ N' = (l ++ m).length ∧ Below w.heap.size w w2 := by
  obtain ⟨A, N, C, w1, r1, h1, b1⟩ := bapp_run [] l (.slice none 0 0) u w ty w.heap.size (BRow.nil _ _) hu (by simp; omega) (Nat.le_refl _)
  obtain ⟨A', N', C', w2, r2, h2, b2⟩ := bapp_run _ m (.slice A N C) v w1 ty' w.heap.size h1 (hv.below b1) (by simpa using hn) b1.size
  rw [List.nil_append] at h2
  refine ⟨A, N, C, w1, r1, b1, A', N', C', w2, r2, h2, ?_, b1.trans b2⟩
  obtain ⟨a, c, e, _⟩ := h2.bc.2
  simp only [Value.slice.injEq] at e
  exact e.2.1

theorem okab : okF 3 [97, 98] = true := by decide
theorem okno : okF 0 [] = false := by decide
theorem BRow.len {w : World} {B N C : Nat} {A : Option Addr} {l : List Int} (h : BRow w B (.slice A N C) l) : N = l.length := by
  obtain ⟨a, c, e, _⟩ := h.bc.2
  simp only [Value.slice.injEq] at e
  exact e.2.1

set_option maxHeartbeats 8000000 in
theorem awake_c (w : World) : Calls Try.prog 8 #[] w fun e w' => e = .returned (.bool true) ∧ Below w.heap.size w w' := by
  have hcv : (convert 22 22 (.slice (some ⟨w.heap.size, 0, none⟩) 2 2)).run Try.prog (w.alloc (.cells #[.int .u8 97, .int .u8 98] 5)) = .ok (.slice (some ⟨w.heap.size, 0, none⟩) 2 2) (w.alloc (.cells #[.int .u8 97, .int .u8 98] 5 (2, 3))) := run_convert_bytes_const (P := Try.prog) w 22 5 #[.int .u8 97, .int .u8 98] 2 2 Try.underlying22 Try.underlying5
  have HO := Lib.hid (layF_ok (k := 3) (b := [97, 98]) (by intro x hx; simp at hx; omega))
  have HNX : Hid (nxT (layF 3 [97, 98]) 0 = some (3, 2) ∧ nxL (layF 3 [97, 98]) 0 (some (3, 2)) = [97, 98]) := Lib.hid (by
    have := lay_next (a := []) (t := []) okab
    simpa using this)
  have HCN : Hid (cnt (layF 3 [97, 98] ++ layF 3 [97, 98]) = (2, 28)) := Lib.hid (by
    have h1 := lay_count (t := layF 3 [97, 98]) okab
    have h2 := lay_count (t := []) okab
    rw [List.append_nil, cnt_no (l := []) rfl] at h2
    rw [h1, h2]
    rfl)
  have HLEN : Hid ((layF 3 [97, 98]).length = 14) := Lib.hid (by rw [layF_len]; rfl)
  go_enter Try.func8, Try.ntmps8
  go_wp2_with fail
  refine (lay_c 3 [97, 98] _ _ (bl_marked2 w _ _ _ _ _) (by simp [maxLen])).mono ?_
  rintro e w1 hT
  unfold layT at hT
  rw [okab] at hT
  obtain ⟨A1, N1, C1, rfl, h1, b1⟩ := hT
  have HB1 : Hid (Below w.heap.size w w1) := Lib.hid ((alloc_below _ _).trans (b1.mono (by simp)))
  have hn1 : N1 = 14 := by rw [BRow.len h1]; exact HLEN.out
  subst hn1
  have H1 : Hid (BRow w1 w.heap.size (.slice A1 14 C1) (layF 3 [97, 98])) := Lib.hid (h1.mono (by simp))
  clear h1 b1 hcv
  go_wp2_with fail
  refine (next_c _ _ 0 w1 H1.out.bc HO.out (by rw [HLEN.out]; decide)).mono ?_
  rintro e w2 hT
  unfold nextT at hT
  rw [HNX.out.1, HNX.out.2] at hT
  obtain ⟨v2, rfl, h2, b2⟩ := hT
  have HB2 : Hid (Below w.heap.size w w2) := Lib.hid (bn HB1.out b2)
  have H12 := Lib.hid (H1.out.below b2)
  obtain ⟨A2, C2, rfl, _⟩ := h2.nl.form
  have H2 : Hid (BRow w2 w.heap.size (.slice A2 2 C2) [97, 98]) := Lib.hid (h2.mono HB1.out.size)
  clear h2 b2 HB1 H1 HNX
  obtain ⟨A3, N3, C3, w3, r3, b3, A4, N4, C4, w4, r4, h4, hN4, b4⟩ := app2_run _ _ _ _ w2 22 22 H12.out.nl H12.out.nl (by rw [HLEN.out]; decide)
  have HR3 := Lib.hid r3
  have HR4 := Lib.hid r4
  have H4 := Lib.hid h4
  have HB4 : Hid (Below w.heap.size w w4) := Lib.hid (bn HB2.out b4)
  have H24 := Lib.hid (H2.out.below b4)
  clear r3 b3 r4 h4 hN4 b4 HB2 H2
  go_wp2_with (at_builtin; first | (refine wpList_append_run rfl _ _ 22 rfl _ _ HR3.out ?_; clear HR3) | refine wpList_append_run rfl _ _ 22 rfl _ _ HR4.out ?_)
  refine (count_c _ _ w4 H4.out.bc (HO.out.append HO.out) (by rw [List.length_append, HLEN.out]; decide)).mono ?_
  rintro e w5 hT
  unfold countT at hT
  rw [HCN.out] at hT
  obtain ⟨rfl, b5⟩ := hT
  have HB5 : Hid (Below w.heap.size w w5) := Lib.hid (bn HB4.out b5)
  have H25 := Lib.hid (H24.out.below b5)
  clear b5 HB4 H24 HR4 H4 HCN
  go_wp2_with fail
  refine (lay_c 0 [] (.slice none 0 0) w5 (.inl ⟨rfl, rfl⟩) (by simp)).mono ?_
  rintro e w6 hT
  unfold layT at hT
  rw [okno] at hT
  obtain ⟨A6, N6, C6, rfl, h6, b6⟩ := hT
  have HB6 : Hid (Below w.heap.size w w6) := Lib.hid (bn HB5.out b6)
  have hcv2 : (convert 22 9 (.slice A2 2 C2)).run Try.prog w6 = .ok (.string ⟨#[97, 98]⟩) w6 := conv_run (H25.out.below b6).nl (by decide)
  clear h6 b6 H25 HB5 H12
  go_wp2
  go_ret
  exact ⟨rfl, HB6.out⟩
end Go.Proofs.Ytkgenjiccidfgaa
