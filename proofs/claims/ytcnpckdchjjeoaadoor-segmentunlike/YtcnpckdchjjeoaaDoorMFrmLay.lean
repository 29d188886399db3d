/-
  Lay, and chapter 6's own Lay, by contract.
-/
import Derived.Test.YtcnpckdchjjeoaaDoorMFrmNext
namespace Go.Proofs.YtcnpckdchjjeoaaDoor
open Go.RowKit Go.Lib
set_option maxRecDepth 100000
theorem bapp_run (l m : List Int) (v u : Value) (w : World) (ty : TypeId) (B : Nat) (h : BRow w B v l) (hu : Bl w u m) (hn : l.length + m.length ≤ 1000000) (hB : B ≤ w.heap.size) :
    ∃ A N C w1, (Builtin.append_ #[33, 33] ty #[v, u]).run Tryd.prog w = .ok (.slice A N C) w1 ∧ BRow w1 B (.slice A N C) (l ++ m) ∧ Below B w w1 := by
  rcases hu with ⟨rfl, rfl⟩ | ⟨ad, cap, rfl, hu⟩
  · obtain ⟨a, c, rfl, hc⟩ := h.bc.2
    have hc' : ¬ c < l.length := by omega
    refine ⟨a, _, c, w, ?_, by rw [List.append_nil]; exact h, Below.refl _ _⟩
    cases a <;> simp [hc', Builtin.append_, go_sem, run_underlying Tryd.underlying33]
  · obtain ⟨i0, hi, hz0, hz1, hz2⟩ := info_parts byteInfo
    obtain ⟨v', w', h1, h2, h3, _, _⟩ := run_append_own_at (P := Tryd.prog) w B 33 ty 5 i0 (.int .u8 0) 1 1 Tryd.underlying33 hi hz0 hz1 hz2 rfl (by decide) v l.length (bys l) h ad m.length cap (bys m) (by rw [bys_len, Nat.mul_one]) (Bl.news hu) (bys_one m) (by unfold maxLen; omega) (by omega) hB
    have hr : BRow w' B v' (l ++ m) := by
      unfold BRow
      rw [List.length_append, show bys (l ++ m) = bys l ++ bys m by simp [bys]]
      exact h2
    obtain ⟨a, c, rfl, _⟩ := hr.nl.form
    exact ⟨a, _, c, w', h1, hr, below_of_grown h3 hB (fun g hg => (World.ownsRow.lt h g hg).1)⟩

def hdF (k : Int) (b : List Int) : List Int := ((numB 71 1 ++ numB k 1) ++ numB (b.length : Int) 2) ++ b
def layF (k : Int) (b : List Int) : List Int := hdF k b ++ numB (fnv 14695981039346656037 (hdF k b)) 8
def okF (k : Int) (b : List Int) : Bool := decide (1 ≤ k) && (decide (k ≤ 255) && decide (b.length ≤ 65535))
theorem hdF_len (k : Int) (b : List Int) : (hdF k b).length = b.length + 4 := by simp [hdF, numB_len]; omega
theorem layF_len (k : Int) (b : List Int) : (layF k b).length = b.length + 12 := by simp [layF, hdF_len, numB_len]
def layT (k : Int) (b : List Int) (w : World) (e : Ending) (w' : World) : Prop :=
  ∃ A N C, e = .returned (.tuple #[.slice A N C, .int .i64 (if okF k b then 0 else 2)]) ∧ BRow w' w.heap.size (.slice A N C) (if okF k b then layF k b else []) ∧ Below w.heap.size w w'
theorem layT_no {k : Int} {b : List Int} {w w' : World} (h : okF k b = false) (hb : Below w.heap.size w w') : layT k b w (.returned (.tuple #[.slice none 0 0, .int .i64 2])) w' := by
  unfold layT
  rw [h]
  exact ⟨_, _, _, rfl, BRow.nil _ _, hb⟩
theorem layT_yes {k : Int} {b : List Int} {w w' : World} {v : Value} (h : okF k b = true) (hv : BRow w' w.heap.size v (layF k b)) (hb : Below w.heap.size w w') : layT k b w (.returned (.tuple #[v, .int .i64 0])) w' := by
  unfold layT
  rw [h]
  obtain ⟨a, c, rfl, _⟩ := hv.nl.form
  exact ⟨_, _, _, rfl, hv, hb⟩

set_option maxHeartbeats 8000000 in
theorem lay_c (k : Int) (b : List Int) (u : Value) (w : World) (hu : Bl w u b) (hl : b.length ≤ maxLen) :
    Calls Tryd.prog 28 #[.int .i64 k, u] w (layT k b w) := by
  have HU := Lib.hid hu
  obtain ⟨ad, cap, rfl, _⟩ := hu.form
  unfold maxLen at hl
  clear hu
  by_cases h1 : 1 ≤ k
  · have e1 : decide (k < 1) = false := by simp; omega
    by_cases h2 : k ≤ 255
    · have e2 : decide (255 < k) = false := by simp; omega
      by_cases h3 : b.length ≤ 65535
      · have e3 : decide ((65535 : Int) < (b.length : Int)) = false := by simp; omega
        have e4 : decide (65535 < b.length) = false := by simp; omega
        have HX := Lib.hid (show okF k b = true by simp [okF]; omega)
        obtain ⟨i0, hi, hz0, hz1, hz2⟩ := info_parts byteInfo
        have HI := Lib.hid hi
        have HZ0 := Lib.hid hz0
        have HZ1 := Lib.hid hz1
        have hb8 : i0.bytes * (b.length + 12) ≤ 281474976710656 := by rw [hz2]; omega
        clear hi hz0 hz1 hz2
        go_enter Tryd.func28, Tryd.ntmps28
        go_wp2_with fail
        refine (length_c ad b.length cap w (by omega)).mono ?_
        rintro e w0 ⟨rfl, rfl⟩
        go_wp2_with (refine wpList_make_own _ rfl _ _ 33 rfl w.heap.size 5 i0 (.int .u8 0) 1 Tryd.underlying33 HI.out HZ0.out HZ1.out .i64 .i64 _ (b.length + 12) rfl rfl (by omega) hb8 (by unfold maxLen; omega) (by simp) ?_; intro w1 hown1 hgr1)
        have HB1 : Hid (Below w.heap.size w w1) := Lib.hid (below_of_grown hgr1 (Nat.le_refl _) (by intro g hg; cases hg))
        have HO1 : Hid (BRow w1 w.heap.size (.slice (some ⟨w.heap.size, 0, none⟩) 0 (b.length + 12)) []) := Lib.hid (by simpa [BRow, bys] using hown1)
        clear hown1 hgr1
        refine (put_c [] _ 71 1 w1 w.heap.size HO1.out (by decide) (by simp) HB1.out.size).mono ?_
        rintro e w2 ⟨v2, rfl, h2', b2⟩
        have HB2 : Hid (Below w.heap.size w w2) := Lib.hid (HB1.out.trans b2)
        have H2 := Lib.hid h2'
        clear h2' b2 HB1 HO1
        go_wp2_with fail
        refine (put_c _ _ k 1 w2 w.heap.size H2.out (by decide) (by simp [numB_len]) HB2.out.size).mono ?_
        rintro e w3 ⟨v3, rfl, h3', b3⟩
        have HB3 : Hid (Below w.heap.size w w3) := Lib.hid (HB2.out.trans b3)
        have H3 := Lib.hid h3'
        clear h3' b3 HB2 H2
        go_wp2_with fail
        refine (put_c _ _ (b.length : Int) 2 w3 w.heap.size H3.out (by decide) (by simp [numB_len]) HB3.out.size).mono ?_
        rintro e w4 ⟨v4, rfl, h4', b4⟩
        have HB4 : Hid (Below w.heap.size w w4) := Lib.hid (HB3.out.trans b4)
        have H4 := Lib.hid h4'
        clear h4' b4 HB3 H3
        obtain ⟨A5, N5, C5, w5, happ, h5, b5⟩ := bapp_run _ b v4 (.slice ad b.length cap) w4 33 w.heap.size H4.out (HU.out.below HB4.out) (by simp [numB_len]; omega) HB4.out.size
        have HB5 : Hid (Below w.heap.size w w5) := Lib.hid (HB4.out.trans b5)
        have H5 : Hid (BRow w5 w.heap.size (.slice A5 N5 C5) (hdF k b)) := Lib.hid (by simpa [hdF] using h5)
        have HAPP := Lib.hid happ
        clear happ h5 b5 H4
        go_wp2_with (at_builtin; refine wpList_append_run rfl _ _ 33 rfl _ _ HAPP.out ?_)
        have HB6 : Hid (Below w.heap.size w (w5.alloc (.cells #[.slice A5 N5 C5] 33))) := Lib.hid (HB5.out.alloc HB5.out.size _)
        have H6 := Lib.hid (H5.out.below (alloc_below w5 (.cells #[.slice A5 N5 C5] 33)))
        have HOF := Lib.hid (of_c [hdF k b] _ _ (pl_one_at (T := 33) (cap := 1) (w := w5) (g := w5.heap.size) rfl H5.out.nl) (by simp) (by simp [hdF_len]; omega))
        clear HAPP HB4 HB5 H5
        refine HOF.out.mono ?_
        rintro e w6 ⟨rfl, rfl⟩
        clear HOF
        go_wp2_with fail
        refine (putu_c _ _ (fnvs 14695981039346656037 [hdF k b]) 8 _ w.heap.size H6.out (by decide) (by rw [hdF_len]; omega) HB6.out.size).mono ?_
        rintro e w7 ⟨v7, rfl, h7, b7⟩
        go_wp2
        go_ret2
        exact layT_yes HX.out h7 (HB6.out.trans b7)
      · have e3 : decide ((65535 : Int) < (b.length : Int)) = true := by simp; omega
        have e4 : decide (65535 < b.length) = true := by simp; omega
        have HX := Lib.hid (show okF k b = false by simp [okF]; omega)
        go_enter Tryd.func28, Tryd.ntmps28
        go_wp2
        go_ret2
        exact layT_no HX.out (Below.refl _ _)
    · have e2 : decide (255 < k) = true := by simp; omega
      have HX := Lib.hid (show okF k b = false by simp [okF]; omega)
      go_enter Tryd.func28, Tryd.ntmps28
      go_wp2
      go_ret2
      exact layT_no HX.out (Below.refl _ _)
  · have e1 : decide (k < 1) = true := by simp; omega
    have HX := Lib.hid (show okF k b = false by simp [okF]; omega)
    go_enter Tryd.func28, Tryd.ntmps28
    go_wp2
    go_ret2
    exact layT_no HX.out (Below.refl _ _)
end Go.Proofs.YtcnpckdchjjeoaaDoor
