/-
  FrameUnlike: the walk.
-/
import Derived.Test.YtkgenjiccidfgaaFrmBackNo
namespace Go.Proofs.Ytkgenjiccidfgaa
open Go.RowKit Go.Lib

theorem sameB_false {a b : List Int} (h : a ≠ b) : sameB a b = false := by
  cases e : sameB a b
  · rfl
  · exact absurd ((sameB_iff a b).1 e) h

set_option maxHeartbeats 16000000 in
set_option maxRecDepth 100000 in
theorem unlike_long (k o : Int) (b m : List Int) (ad1 ad2 : Option Addr) (cap1 cap2 : Nat) (w : World) (h : 300 < b.length ∨ 300 < m.length) (hb : b.length ≤ maxLen) (hm : m.length ≤ maxLen) :
    Calls Try.prog 7 #[.int .i64 k, .slice ad1 b.length cap1, .int .i64 o, .slice ad2 m.length cap2] w fun e w' => e = .returned (.bool true) ∧ Below w.heap.size w w' := by
  unfold maxLen at hm hb
  by_cases h1 : 300 < b.length
  · have e1 : decide ((300 : Int) < (b.length : Int)) = true := by simp; omega
    have e2 : decide (300 < b.length) = true := by simp; omega
    go_enter Try.func7, Try.ntmps7
    go_wp2_with fail
    refine (awake_c w).mono ?_
    rintro e w5 ⟨rfl, b5⟩
    go_wp2
    go_ret
    exact ⟨rfl, b5⟩
  · have e1 : decide ((300 : Int) < (b.length : Int)) = false := by simp; omega
    have e2 : decide (300 < b.length) = false := by simp; omega
    have e3 : decide ((300 : Int) < (m.length : Int)) = true := by simp; omega
    have e4 : decide (300 < m.length) = true := by simp; omega
    go_enter Try.func7, Try.ntmps7
    go_wp2_with fail
    refine (awake_c w).mono ?_
    rintro e w5 ⟨rfl, b5⟩
    go_wp2
    go_ret
    exact ⟨rfl, b5⟩

/-- Behind the first byte: wherever it ends, not where the first one does. -/
theorem next_shift {k : Int} {b t : List Int} (hok : okF k b = true) (hob : OkB b) (ho : OkB (layF k b ++ t)) (hl : (layF k b ++ t).length ≤ 1000000) (v : Value) (w : World) (h : Bc w v (layF k b ++ t)) :
    Calls Try.prog 14 #[v, .int .i64 1] w fun e w' => ∃ K A N C E B, e = .returned (.tuple #[.int .i64 K, .slice A N C, .int .i64 E, .bool B]) ∧ E ≠ (b.length : Int) + 12 ∧ Below w.heap.size w w' := by
  refine (next_c _ v 1 w h ho hl).mono ?_
  rintro e w' ⟨v1, rfl, h1, h2⟩
  obtain ⟨A, C, rfl, _⟩ := h1.nl.form
  refine ⟨_, A, _, C, _, _, rfl, ?_, h2⟩
  have e1 : nxT (layF k b ++ t) 1 = fsT ((layF k b ++ t).drop 1) := by
    unfold nxT
    rw [if_pos (by rw [List.length_append, layF_len]; omega)]
    rfl
  rw [e1]
  cases hf : fsT ((layF k b ++ t).drop 1) with
  | none => show (0 : Int) ≠ _; omega
  | some p =>
    obtain ⟨q, n⟩ := p
    have := lay_shift hok hob hf
    show (1 : Int) + ((n : Int) + 12) ≠ _
    omega

set_option maxHeartbeats 16000000 in
set_option maxRecDepth 100000 in
theorem unlike_some (k o : Int) (b m : List Int) (u v : Value) (w : World) (hu : Bl w u b) (hv : Bl w v m) (hob : OkB b) (hom : OkB m) (hb : b.length ≤ 300) (hm : m.length ≤ 300) :
    Calls Try.prog 7 #[.int .i64 k, u, .int .i64 o, v] w fun e w' => e = .returned (.bool true) ∧ Below w.heap.size w w' := by
  have HU := Lib.hid hu
  have HV := Lib.hid hv
  obtain ⟨ad1, cap1, rfl, _⟩ := hu.form
  obtain ⟨ad2, cap2, rfl, _⟩ := hv.form
  have HOB := Lib.hid hob
  have HOM := Lib.hid hom
  clear hu hv hob hom
  have e1 : decide ((300 : Int) < (b.length : Int)) = false := by simp; omega
  have e2 : decide (300 < b.length) = false := by simp; omega
  have e3 : decide ((300 : Int) < (m.length : Int)) = false := by simp; omega
  have e4 : decide (300 < m.length) = false := by simp; omega
  go_enter Try.func7, Try.ntmps7
  go_wp2_with fail
  refine (low_c k 255 w (by omega) (by omega)).mono ?_
  rintro e w1 ⟨x, rfl, hx0, hx1, rfl⟩
  go_wp2_with fail
  refine (low_c o 255 w (by omega) (by omega)).mono ?_
  rintro e w1 ⟨y, rfl, hy0, hy1, rfl⟩
  obtain ⟨k', hk'⟩ : ∃ k' : Int, 1 + x = k' := ⟨_, rfl⟩
  obtain ⟨o', ho'⟩ : ∃ o' : Int, 1 + y = o' := ⟨_, rfl⟩
  have HOK1 : Hid (okF k' b = true) := Lib.hid (okF_of (by omega) (by omega) (by omega))
  have HOK2 : Hid (okF o' m = true) := Lib.hid (okF_of (by omega) (by omega) (by omega))
  go_wp2_with fail
  clear hk' ho' hx0 hx1 hy0 hy1
  refine (lay_c k' b _ w HU.out (by unfold maxLen; omega)).mono ?_
  rintro e w1 hT
  unfold layT at hT
  rw [HOK1.out] at hT
  obtain ⟨A1, N1, C1, rfl, h1, b1⟩ := hT
  have HL1 := Lib.hid (layF_len k' b)
  have HL2 := Lib.hid (layF_len o' m)
  have hN1 := BRow.len h1
  rw [if_pos rfl, HL1.out] at hN1
  have HN1 := Lib.hid hN1
  have HB1 := Lib.hid b1
  have H1 : Hid (BRow w1 w.heap.size (.slice A1 N1 C1) (layF k' b)) := Lib.hid h1
  clear h1 b1 hN1
  go_wp2_with fail
  refine (lay_c o' m _ w1 (HV.out.below HB1.out) (by unfold maxLen; omega)).mono ?_
  rintro e w2 hT
  unfold layT at hT
  rw [HOK2.out] at hT
  obtain ⟨A2, N2, C2, rfl, h2, b2⟩ := hT
  have hN2 := BRow.len h2
  rw [if_pos rfl, HL2.out] at hN2
  have HN2 := Lib.hid hN2
  have HB2 : Hid (Below w.heap.size w w2) := Lib.hid (bn HB1.out b2)
  have H12 := Lib.hid (H1.out.below b2)
  have H2 : Hid (BRow w2 w1.heap.size (.slice A2 N2 C2) (layF o' m)) := Lib.hid h2
  have f1 : ((N1 : Int) != (b.length : Int) + 12) = false := by have := HN1.out; simp; omega
  have f2 : ((N2 : Int) != (m.length : Int) + 12) = false := by simp; omega
  clear h2 b2 hN2 HB1 H1
  have HSM := Lib.hid (bsame_c _ _ _ _ w2 H12.out.nl H2.out.nl (by rw [HL1.out]; omega))
  rw [lay_inj HOK1.out HOK2.out] at HSM
  go_wp2_with fail
  refine HSM.out.mono ?_
  rintro e w3 ⟨rfl, b3⟩
  have HB3 : Hid (Below w.heap.size w w3) := Lib.hid (bn HB2.out b3)
  have H13 := Lib.hid (H12.out.below b3)
  have H23 := Lib.hid (H2.out.below b3)
  clear b3 HB2 H12 H2 HSM
  by_cases hk : k' = o'
  focus
    have g1 : (k' == o') = true := by simpa using hk
    rw [g1, Bool.true_and]
    obtain ⟨S, hS⟩ : ∃ S, sameB b m = S := ⟨_, rfl⟩
    have g2 : (S != S) = false := by cases S <;> rfl
    have HS2 := Lib.hid (bsame_c b m _ _ w3 (HU.out.below HB3.out) (HV.out.below HB3.out) (by omega))
    rw [hS] at HS2 ⊢
    clear hS hk
    go_wp2_with fail
    refine HS2.out.mono ?_
    rintro e w4 ⟨rfl, b4⟩
    have HB4 : Hid (Below w.heap.size w w4) := Lib.hid (bn HB3.out b4)
    have H14 := Lib.hid (H13.out.below b4)
    have H24 := Lib.hid (H23.out.below b4)
    clear b4 HB3 H13 H23 HS2
  rotate_left
  focus
    have g1 : (k' == o') = false := by simpa using hk
    rw [g1, Bool.false_and]
    obtain ⟨w4, rfl⟩ : ∃ w4, w4 = w3 := ⟨_, rfl⟩
    have HB4 := HB3
    have H14 := H13
    have H24 := H23
    clear HB3 H13 H23 hk
  all_goals
    obtain ⟨A5, N5, C5, w5, r5, b5, A6, N6, C6, w6, r6, h6, hN6, b6⟩ := app2_run (layF k' b) (layF o' m) (.slice A1 N1 C1) (.slice A2 N2 C2) w4 22 22 H14.out.nl H24.out.nl (by rw [HL1.out, HL2.out]; omega)
    have HR5 := Lib.hid r5
    have HR6 := Lib.hid r6
    have HB6 : Hid (Below w.heap.size w w6) := Lib.hid (bn HB4.out b6)
    have H6 := Lib.hid h6
    have HN6 : Hid (N6 = (b.length + 12) + (m.length + 12)) := Lib.hid (by rw [hN6, List.length_append, HL1.out, HL2.out])
    have HOO : Hid (OkB (layF k' b ++ layF o' m)) := Lib.hid ((layF_ok HOB.out).append (layF_ok HOM.out))
    have HLO : Hid ((layF k' b ++ layF o' m).length ≤ 1000000) := Lib.hid (by rw [List.length_append, HL1.out, HL2.out]; omega)
    have HX1 : Hid (∀ W, Bc W (.slice A6 N6 C6) (layF k' b ++ layF o' m) → Calls Try.prog 14 #[.slice A6 N6 C6, .int .i64 0] W fun e w' => ∃ A N C, e = .returned (.tuple #[.int .i64 k', .slice A N C, .int .i64 ((b.length : Int) + 12), .bool true]) ∧ BRow w' W.heap.size (.slice A N C) b ∧ Below W.heap.size W w') := Lib.hid (fun W hW => by
      obtain ⟨q1, q2⟩ := lay_next (a := []) (t := layF o' m) HOK1.out
      simp only [List.nil_append, List.length_nil] at q1 q2
      have := next_yes q1 q2 HOO.out HLO.out _ W hW
      rw [show ((0 : Nat) : Int) + ((b.length : Int) + 12) = (b.length : Int) + 12 by omega] at this
      exact this)
    have HX2 : Hid (∀ W, Bc W (.slice A6 N6 C6) (layF k' b ++ layF o' m) → Calls Try.prog 14 #[.slice A6 N6 C6, .int .i64 (N1 : Int)] W fun e w' => ∃ A N C, e = .returned (.tuple #[.int .i64 o', .slice A N C, .int .i64 (N6 : Int), .bool true]) ∧ BRow w' W.heap.size (.slice A N C) m ∧ Below W.heap.size W w') := Lib.hid (fun W hW => by
      obtain ⟨q1, q2⟩ := lay_next (a := layF k' b) (t := []) HOK2.out
      rw [List.append_nil, HL1.out, ← HN1.out] at q1 q2
      have := next_yes q1 q2 HOO.out HLO.out _ W hW
      rw [show (N1 : Int) + ((m.length : Int) + 12) = (N6 : Int) by have := HN1.out; have := HN6.out; omega] at this
      exact this)
    have HX3 := Lib.hid (fun W hW => next_shift HOK1.out HOB.out HOO.out HLO.out (.slice A6 N6 C6) W hW)
    clear r5 r6 b5 b6 h6 hN6
    go_wp2_with (at_builtin; first | (refine wpList_append_run rfl _ _ 22 rfl _ _ HR5.out ?_; clear HR5) | refine wpList_append_run rfl _ _ 22 rfl _ _ HR6.out ?_)
    refine (HX1.out w6 H6.out.bc).mono ?_
    rintro e w7 ⟨A7, N7, C7, rfl, h7, b7⟩
    have HB7 : Hid (Below w.heap.size w w7) := Lib.hid (bn HB6.out b7)
    have H67 := Lib.hid (H6.out.below b7)
    have H7 := Lib.hid h7
    clear h7 b7 HB6 H6 HX1 HR6 HB4 H14 H24
    go_wp2_with fail
    refine (HX2.out w7 H67.out.bc).mono ?_
    rintro e w8 ⟨A8, N8, C8, rfl, h8, b8⟩
    have HB8 : Hid (Below w.heap.size w w8) := Lib.hid (bn HB7.out b8)
    have H68 := Lib.hid (H67.out.below b8)
    have H78 := Lib.hid (H7.out.below b8)
    have H8 := Lib.hid h8
    clear h8 b8 HB7 H67 H7 HX2
    go_wp2_with fail
    refine (HX3.out w8 H68.out.bc).mono ?_
    rintro e w9 ⟨K9, A9, N9, C9, E9, B9, rfl, hE9, b9⟩
    have HB9 : Hid (Below w.heap.size w w9) := Lib.hid (bn HB8.out b9)
    have H79 := Lib.hid (H78.out.below b9)
    have H89 := Lib.hid (H8.out.below b9)
    have f3 : (E9 != (N1 : Int)) = true := by have := HN1.out; simp; omega
    have f4 : ((b.length : Int) + 12 == (N1 : Int)) = true := by have := HN1.out; simp; omega
    have HSA := Lib.hid (bsame_c b b _ _ w9 H79.out.nl (HU.out.below HB9.out) (by omega))
    rw [sameB_self] at HSA
    clear b9 hE9 HB8 H68 H78 H8 HX3
    go_wp2_with fail
    refine HSA.out.mono ?_
    rintro e w10 ⟨rfl, b10⟩
    have HB10 : Hid (Below w.heap.size w w10) := Lib.hid (bn HB9.out b10)
    have HSC := Lib.hid (bsame_c m m _ _ w10 (H89.out.below b10).nl (HV.out.below HB10.out) (by omega))
    rw [sameB_self] at HSC
    clear b10 HB9 HSA H79 H89
    go_wp2_with fail
    refine HSC.out.mono ?_
    rintro e w11 ⟨rfl, b11⟩
    have HB11 : Hid (Below w.heap.size w w11) := Lib.hid (bn HB10.out b11)
    clear b11 HB10 HSC
    go_wp2_with fail
    refine (awake_c w11).mono ?_
    rintro e w12 ⟨rfl, b12⟩
    go_wp2
    go_ret
    exact ⟨rfl, bn HB11.out b12⟩
end Go.Proofs.Ytkgenjiccidfgaa
