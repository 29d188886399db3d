/-
  FrameBack: the walk.
-/
import Derived.Test.YtkgenjiccidfgaaFrmBackNo
namespace Go.Proofs.Ytkgenjiccidfgaa
open Go.RowKit Go.Lib

set_option maxHeartbeats 16000000 in
set_option maxRecDepth 100000 in
theorem back_yes (k : Int) (b a : List Int) (u v : Value) (c n by_ : Int) (w : World) (hu : Bl w u b) (hv : Bl w v a) (hob : OkB b) (hoa : OkB a) (hb : b.length ≤ 300) (ha : a.length ≤ 300) (hby : 0 ≤ by_ ∧ by_ < 256) (hok : okF k b = true) :
    Calls Try.prog 5 #[.int .i64 k, u, v, .int .i64 c, .int .i64 n, .int .u8 by_] w fun e w' => e = .returned (.bool true) ∧ Below w.heap.size w w' := by
  have HLY := Lib.hid (lay_c k b u w hu (by unfold maxLen; omega))
  have HU := Lib.hid hu
  have HV := Lib.hid hv
  obtain ⟨ad1, cap1, rfl, _⟩ := hu.form
  obtain ⟨ad2, cap2, rfl, _⟩ := hv.form
  have HOK := Lib.hid hok
  have HOF := Lib.hid (layF_ok (k := k) hob)
  have HOA := Lib.hid hoa
  have HOB := Lib.hid hob
  have HLEN := Lib.hid (layF_len k b)
  clear hu hv hok hob hoa
  have e1 : decide ((300 : Int) < (b.length : Int)) = false := by simp; omega
  have e2 : decide (300 < b.length) = false := by simp; omega
  have e3 : decide ((300 : Int) < (a.length : Int)) = false := by simp; omega
  have e4 : decide (300 < a.length) = false := by simp; omega
  go_enter Try.func5, Try.ntmps5
  go_wp2_with fail
  refine HLY.out.mono ?_
  rintro e w1 hT
  unfold layT at hT
  rw [HOK.out] at hT
  obtain ⟨A1, N1, C1, rfl, h1, b1⟩ := hT
  have hN1 := BRow.len h1
  rw [if_pos rfl, HLEN.out] at hN1
  have f1 : ((N1 : Int) != (b.length : Int) + 12) = false := by simp; omega
  have HN1 := Lib.hid hN1
  have HB1 := Lib.hid b1
  have H1 : Hid (BRow w1 w.heap.size (.slice A1 N1 C1) (layF k b)) := Lib.hid h1
  clear h1 b1 HLY hN1
  obtain ⟨A3, N3, C3, w3, r3, b3, A4, N4, C4, w4, r4, h4, hN4, b4⟩ := app2_run a (layF k b) (.slice ad2 a.length cap2) (.slice A1 N1 C1) w1 22 22 (HV.out.below HB1.out) H1.out.nl (by rw [HLEN.out]; omega)
  have HR3 := Lib.hid r3
  have HR4 := Lib.hid r4
  have HB4 : Hid (Below w.heap.size w w4) := Lib.hid (bn HB1.out b4)
  have H14 := Lib.hid (H1.out.below b4)
  have HNX : Hid (∀ W, BRow W w1.heap.size (.slice A4 N4 C4) (a ++ layF k b) → Calls Try.prog 14 #[.slice A4 N4 C4, .int .i64 (a.length : Int)] W fun e w' => ∃ A N C, e = .returned (.tuple #[.int .i64 k, .slice A N C, .int .i64 ((a.length : Int) + ((b.length : Int) + 12)), .bool true]) ∧ BRow w' W.heap.size (.slice A N C) b ∧ Below W.heap.size W w') := Lib.hid (fun W hW => by
    obtain ⟨q1, q2⟩ := lay_next (a := a) (t := []) HOK.out
    rw [List.append_nil] at q1 q2
    exact next_yes q1 q2 (HOA.out.append HOF.out) (by rw [List.length_append, HLEN.out]; omega) _ W hW.bc)
  have H4 := Lib.hid h4
  clear r3 r4 b3 b4 h4 hN4
  go_wp2_with (at_builtin; first | (refine wpList_append_run rfl _ _ 22 rfl _ _ HR3.out ?_; clear HR3) | refine wpList_append_run rfl _ _ 22 rfl _ _ HR4.out ?_)
  refine (HNX.out w4 H4.out).mono ?_
  rintro e w5 ⟨A5, N5, C5, rfl, h5, b5⟩
  have HB5 : Hid (Below w.heap.size w w5) := Lib.hid (bn HB4.out b5)
  have H15 := Lib.hid (H14.out.below b5)
  have H5 := Lib.hid h5
  clear b5 h5 HNX H4 HR4 HB4 H14 H1 HB1
  have hN1p : (0 : Int) < (N1 : Int) ∧ (N1 : Int) ≤ 4294967296 := by have := HN1.out; omega
  go_wp2_with fail
  refine (low_c c (N1 : Int) w5 hN1p.1 hN1p.2).mono ?_
  rintro e w6 ⟨c0, rfl, hc0, hc1, rfl⟩
  obtain ⟨c0, rfl⟩ : ∃ q : Nat, c0 = ((q : Nat) : Int) := ⟨c0.toNat, by omega⟩
  have hc1' : c0 < N1 := by omega
  obtain ⟨A6, C6, e6, p6⟩ := H15.out.bc.piece 0 c0 (by omega) (by rw [HLEN.out]; have := HN1.out; omega)
  have hcap1 : N1 ≤ C1 := by
    obtain ⟨_, q, d, ee, hd⟩ := H15.out.bc
    simp only [Value.slice.injEq] at ee
    obtain ⟨_, ee, rfl⟩ := ee
    omega
  have R6 : Hid (∀ W, (Instr.sliceAt 22 (.slice A1 N1 C1) none (some (.int .i64 (c0 : Int))) none).run Try.prog W = .ok (.slice A6 c0 C6) W) := Lib.hid (fun W => by
    rw [show (.slice A6 c0 C6 : Value) = .slice A6 (c0 - 0) C6 from rfl, ← e6]
    exact slice_any_run A1 _ C1 _ _ _ _ W (by simp [Instr.sliceBounds, run_sliceBound_if, show c0 ≤ C1 by omega]))
  have HNO : Hid (Calls Try.prog 14 #[.slice A6 c0 C6, .int .i64 0] w5 fun e w' => ∃ A N C, e = .returned (.tuple #[.int .i64 0, .slice A N C, .int .i64 0, .bool false]) ∧ Below w5.heap.size w5 w') := Lib.hid (by
    have hp := p6 w5 H15.out.bc
    rw [List.drop_zero] at hp
    exact next_no (by rw [nxT_zero]; exact lay_cut HOK.out (by rw [HLEN.out]; have := HN1.out; omega)) (HOF.out.take _) (by rw [List.length_take, HLEN.out]; omega) _ w5 hp)
  clear e6 p6 hc0 hc1 hcap1
  go_wp2_with (refine wpList_slice_run rfl 22 _ _ _ rfl _ (R6.out _) ?_)
  refine HNO.out.mono ?_
  rintro e w7 ⟨A7, N7, C7, rfl, b7⟩
  have HB7 : Hid (Below w.heap.size w w7) := Lib.hid (bn HB5.out b7)
  have H17 := Lib.hid (H15.out.below b7)
  have H57 := Lib.hid (H5.out.below b7)
  clear b7 HNO R6 HB5 H15 H5
  have HSM := Lib.hid (bsame_c b b _ _ w7 H57.out.nl (HU.out.below HB7.out) (by omega))
  rw [sameB_self] at HSM
  have f2 : ((a.length : Int) + ((b.length : Int) + 12) != (a.length : Int) + (N1 : Int)) = false := by have := HN1.out; simp; omega
  go_wp2_with fail
  refine HSM.out.mono ?_
  rintro e w8 ⟨rfl, b8⟩
  have HB8 : Hid (Below w.heap.size w w8) := Lib.hid (bn HB7.out b8)
  have H18 := Lib.hid (H17.out.below b8)
  clear b8 HB7 H17 H57 HSM
  go_wp2_with fail
  refine (low_c n (N1 : Int) w8 hN1p.1 hN1p.2).mono ?_
  rintro e w9 ⟨n0, rfl, hn0, hn1, rfl⟩
  obtain ⟨n0, rfl⟩ : ∃ q : Nat, n0 = ((q : Nat) : Int) := ⟨n0.toNat, by omega⟩
  have hnl : n0 < (layF k b).length := by rw [HLEN.out]; have := HN1.out; omega
  clear hn0 hn1 f2
  by_cases g0 : by_ = 0
  · subst g0
    go_wp2_with fail
    refine (awake_c w8).mono ?_
    rintro e w5 ⟨rfl, b5⟩
    go_wp2
    go_ret
    exact ⟨rfl, bn HB8.out b5⟩
  · have g0' : (by_ == 0) = false := by simpa using g0
    by_cases g2 : n0 = 2
    · subst g2
      go_wp2_with fail
      refine (awake_c w8).mono ?_
      rintro e w5 ⟨rfl, b5⟩
      go_wp2
      go_ret
      exact ⟨rfl, bn HB8.out b5⟩
    · have g2' : ((n0 : Int) == 2) = false := by simp; omega
      by_cases g3 : n0 = 3
      · subst g3
        go_wp2_with fail
        refine (awake_c w8).mono ?_
        rintro e w5 ⟨rfl, b5⟩
        go_wp2
        go_ret
        exact ⟨rfl, bn HB8.out b5⟩
      · have g3' : ((n0 : Int) == 3) = false := by simp; omega
        obtain ⟨A9, N9, C9, w9, r9, h9, b9⟩ := bapp_run [] (layF k b) (.slice none 0 0) (.slice A1 N1 C1) w8 22 w8.heap.size (BRow.nil _ _) H18.out.nl (by simp only [List.length_nil]; rw [HLEN.out]; omega) (Nat.le_refl _)
        rw [List.nil_append] at h9
        have hN9 := BRow.len h9
        obtain ⟨g, cap9, e9, hg1, hg2⟩ := h9.form (by omega)
        simp only [Value.slice.injEq] at e9
        obtain ⟨rfl, e92, rfl⟩ := e9
        clear e92
        have h9' : BRow w9 w8.heap.size (.slice (some ⟨g, 0, none⟩) (layF k b).length C9) (layF k b) := by rw [← hN9]; exact h9
        have hcl := h9'.at n0 hnl
        have hfr := h9'.soft n0
        have hst := h9'.set n0 (bits .xor .u8 (layF k b)[n0] by_)
        obtain ⟨hX1, hX2⟩ := xor_byte (HOF.out _ (List.getElem_mem hnl)) hby g0
        have hsp := lay_spoilt HOK.out HOB.out hnl g2 g3 hX1 hX2
        have hok2 : OkB ((layF k b).set n0 (bits .xor .u8 (layF k b)[n0] by_)) := fun x hx => by
          rcases List.mem_or_eq_of_mem_set hx with hx | rfl
          · exact HOF.out x hx
          · exact hX1
        generalize (layF k b)[n0] = z at hcl hst hsp hok2 hX1 hX2
        have HB9 : Hid (Below w.heap.size w (w9.setCell ⟨g, n0, none⟩ (.int .u8 (bits .xor .u8 z by_)))) := Lib.hid ((bn HB8.out b9).setCell (by show w.heap.size ≤ g; have := HB8.out.size; omega) _)
        have HNO : Hid (Calls Try.prog 14 #[.slice (some ⟨g, 0, none⟩) N9 C9, .int .i64 0] (w9.setCell ⟨g, n0, none⟩ (.int .u8 (bits .xor .u8 z by_))) fun e w' => ∃ A N C, e = .returned (.tuple #[.int .i64 0, .slice A N C, .int .i64 0, .bool false]) ∧ Below (w9.setCell ⟨g, n0, none⟩ (.int .u8 (bits .xor .u8 z by_))).heap.size (w9.setCell ⟨g, n0, none⟩ (.int .u8 (bits .xor .u8 z by_))) w') := Lib.hid (by
          refine next_no (by rw [nxT_zero]; exact hsp) hok2 (by rw [List.length_set, HLEN.out]; omega) _ _ ?_
          have := hst.bc
          rw [List.length_set, ← hN9] at this
          exact this)
        have HAPP := Lib.hid r9
        have i1 : (n0 : Int) < (N9 : Int) := by omega
        have i2 : n0 < N9 := by omega
        clear h9 h9' hst hsp hok2 hX1 hX2 b9 r9 hN9 hnl hc1'
        go_wp2_with (at_builtin; refine wpList_append_run rfl _ _ 22 rfl _ _ HAPP.out ?_)
        refine HNO.out.mono ?_
        rintro e w10 ⟨A10, N10, C10, rfl, b10⟩
        have HB10 : Hid (Below w.heap.size w w10) := Lib.hid (bn HB9.out b10)
        clear b10 HB9 HNO HAPP hcl hfr
        go_wp2_with fail
        refine (awake_c w10).mono ?_
        rintro e w5 ⟨rfl, b5⟩
        go_wp2
        go_ret
        exact ⟨rfl, bn HB10.out b5⟩
end Go.Proofs.Ytkgenjiccidfgaa
