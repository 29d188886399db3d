/-
  FrameRows: the walk.
-/
import Derived.Test.YtkgenjiccidfgaaFrmBackNo
namespace Go.Proofs.Ytkgenjiccidfgaa
open Go.RowKit Go.Lib

theorem rowsF_len (k : Int) : ∀ s : List (List Int), (∀ p ∈ s, p.length ≤ 100) → (rowsF k s).length ≤ 112 * s.length
  | [], _ => by simp [rowsF]
  | b :: s, h => by
    have h1 := h b (List.mem_cons_self ..)
    have h2 := rowsF_len k s (fun p hp => h p (List.mem_cons_of_mem _ hp))
    rw [rowsF, List.length_append, layF_len, List.length_cons]
    omega
theorem rowsF_ok (k : Int) : ∀ s : List (List Int), (∀ p ∈ s, OkB p) → OkB (rowsF k s)
  | [], _ => fun x hx => by simp [rowsF] at hx
  | b :: s, h => (layF_ok (h b (List.mem_cons_self ..))).append (rowsF_ok k s (fun p hp => h p (List.mem_cons_of_mem _ hp)))
theorem rowsF_take (k : Int) (s : List (List Int)) (i : Nat) (hi : i < s.length) : rowsF k (s.take (i + 1)) = rowsF k (s.take i) ++ layF k s[i] := by
  rw [List.take_succ_eq_append_getElem hi, rowsF_append, rowsF, rowsF, List.append_nil]

set_option maxHeartbeats 16000000 in
set_option maxRecDepth 100000 in
theorem rows_long (bs : List (List Int)) (k : Int) (t : List Int) (ad1 ad2 : Option Addr) (cap1 cap2 : Nat) (w : World) (h : 12 < bs.length ∨ 100 < t.length) (hb : bs.length ≤ maxLen) (ht : t.length ≤ maxLen) :
    Calls Try.prog 6 #[.slice ad1 bs.length cap1, .int .i64 k, .slice ad2 t.length cap2] w fun e w' => e = .returned (.bool true) ∧ Below w.heap.size w w' := by
  unfold maxLen at hb ht
  by_cases h1 : 12 < bs.length
  · have e1 : decide ((12 : Int) < (bs.length : Int)) = true := by simp; omega
    have e2 : decide (12 < bs.length) = true := by simp; omega
    go_enter Try.func6, Try.ntmps6
    go_wp2_with fail
    refine (awake_c w).mono ?_
    rintro e w5 ⟨rfl, b5⟩
    go_wp2
    go_ret
    exact ⟨rfl, b5⟩
  · have e1 : decide ((12 : Int) < (bs.length : Int)) = false := by simp; omega
    have e2 : decide (12 < bs.length) = false := by simp; omega
    have e3 : decide ((100 : Int) < (t.length : Int)) = true := by simp; omega
    have e4 : decide (100 < t.length) = true := by simp; omega
    go_enter Try.func6, Try.ntmps6
    go_wp2_with fail
    refine (awake_c w).mono ?_
    rintro e w5 ⟨rfl, b5⟩
    go_wp2
    go_ret
    exact ⟨rfl, b5⟩

set_option maxHeartbeats 16000000 in
set_option maxRecDepth 100000 in
theorem rows_some (bs : List (List Int)) (k : Int) (t : List Int) (v u : Value) (w : World) (hv : Pl w v bs) (hu : Bc w u t) (hob : ∀ p ∈ bs, OkB p ∧ p.length ≤ maxLen) (hot : OkB t) (hb : bs.length ≤ 12) (ht : t.length ≤ 100) :
    Calls Try.prog 6 #[v, .int .i64 k, u] w fun e w' => e = .returned (.bool true) ∧ Below w.heap.size w w' := by
  have HU := Lib.hid hu
  obtain ⟨ad1, cap1, rfl, k1⟩ := hv
  obtain ⟨ad2, cap2, rfl, _⟩ := hu.2
  have HP := Lib.hid k1
  have HOB := Lib.hid hob
  have HOT := Lib.hid hot
  clear hu k1 hob hot
  have e1 : decide ((12 : Int) < (bs.length : Int)) = false := by simp; omega
  have e2 : decide (12 < bs.length) = false := by simp; omega
  have e3 : decide ((100 : Int) < (t.length : Int)) = false := by simp; omega
  have e4 : decide (100 < t.length) = false := by simp; omega
  go_enter Try.func6, Try.ntmps6
  go_wp2_with fail
  refine (low_c k 255 w (by omega) (by omega)).mono ?_
  rintro e w1 ⟨x, rfl, hx0, hx1, rfl⟩
  obtain ⟨k', hk'⟩ : ∃ k' : Int, 1 + x = k' := ⟨_, rfl⟩
  have HK : Hid (1 ≤ k' ∧ k' ≤ 255) := Lib.hid (by omega)
  go_wp2
  clear hk' hx0 hx1
  go_loopw [7, 8] (fun v7 v8 wr => ∃ (i : Nat) (A : Option Addr) (N C : Nat), i ≤ bs.length ∧ v8 = .int .i64 (i : Int) ∧ v7 = .slice A N C ∧ Hid (∀ p ∈ bs.take i, p.length ≤ 100) ∧ Hid (BRow wr w.heap.size (.slice A N C) (rowsF k' (bs.take i))) ∧ Hid (Below w.heap.size w wr)) (fun _ v8 _ => bs.length - (RowKit.intOf v8).toNat)
  case atStart => exact ⟨0, none, 0, 0, by omega, rfl, rfl, Lib.hid (fun p hp => by simp at hp), Lib.hid (BRow.nil _ _), Lib.hid (Below.refl _ _)⟩
  case round =>
    obtain ⟨i, A, N, C, hi, rfl, rfl, HS, HR, HB⟩ := hrel
    by_cases hp : i < bs.length
    · obtain ⟨g1, o1, rfl, c1⟩ := HP.out (by omega)
      obtain ⟨q, c11, hq⟩ := c1 i hp
      have hgl : g1 < w.heap.size := World.block_lt_of_cell? w _ c11
      have d11 := (HB.out.cell (p := ⟨g1, o1 + i, none⟩) hgl).trans c11
      have hgl1 : g1 < wr.heap.size := Nat.lt_of_lt_of_le hgl HB.out.size
      have hq1 := hq.below HB.out
      have hxo := HOB.out _ (List.getElem_mem hp)
      have HTK := Lib.hid (rowsF_take k' bs i hp)
      have HTB : Hid (bs[i].length ≤ 100 → ∀ p ∈ bs.take (i + 1), p.length ≤ 100) := Lib.hid (fun hb p hpm => by
        rw [List.take_succ_eq_append_getElem hp, List.mem_append, List.mem_singleton] at hpm
        rcases hpm with hpm | rfl
        · exact HS.out p hpm
        · exact hb)
      have j1 : (i : Int) < (bs.length : Int) := by omega
      clear c1
      generalize bs[i] = z at hq hq1 hxo HTK HTB
      obtain ⟨hzo, hzl⟩ := hxo
      unfold maxLen at hzl
      have HZO := Lib.hid hzo
      have HQ1 := Lib.hid hq1
      obtain ⟨aq, cq, rfl, _⟩ := hq.form
      by_cases hz : z.length ≤ 100
      · have g1' : decide ((100 : Int) < (z.length : Int)) = false := by simp; omega
        have g2' : decide (100 < z.length) = false := by simp; omega
        have HOK : Hid (okF k' z = true) := Lib.hid (okF_of HK.out.1 HK.out.2 (by omega))
        have HLY := Lib.hid (lay_c k' z _ wr HQ1.out (by unfold maxLen; omega))
        clear hq hq1 hzo
        go_wp2_with fail
        refine HLY.out.mono ?_
        rintro e w1 hT
        unfold layT at hT
        rw [HOK.out] at hT
        obtain ⟨A1, N1, C1, rfl, h1, b1⟩ := hT
        have hN1 := BRow.len h1
        rw [if_pos rfl, layF_len] at hN1
        have f1 : ((N1 : Int) != (z.length : Int) + 12) = false := by simp; omega
        have d12 := (b1.cell (p := ⟨g1, o1 + i, none⟩) hgl1).trans d11
        have hgl2 : g1 < w1.heap.size := Nat.lt_of_lt_of_le hgl1 b1.size
        have HB1 : Hid (Below w.heap.size w w1) := Lib.hid (bn HB.out b1)
        obtain ⟨A3, N3, C3, w3, r3, h3, b3⟩ := bapp_run _ (layF k' z) (.slice A N C) (.slice A1 N1 C1) w1 22 w.heap.size (HR.out.below b1) h1.nl (by
          have h5 := rowsF_len k' (bs.take i) HS.out
          rw [layF_len]
          rw [List.length_take] at h5
          omega) HB1.out.size
        rw [← HTK.out] at h3
        have H3 := Lib.hid h3
        have HR3 := Lib.hid r3
        have HB3 : Hid (Below w.heap.size w w3) := Lib.hid (HB1.out.trans b3)
        have HT2 := Lib.hid (HTB.out hz)
        clear h1 b1 h3 r3 b3 hN1 HLY HR HB HB1 HTB HTK d11 c11 hgl hgl1
        go_wp2_with (at_builtin; refine wpList_append_run rfl _ _ 22 rfl _ _ HR3.out ?_)
        go_roundw
        case rel => exact ⟨i + 1, A3, N3, C3, hp, by go_num, rfl, HT2, H3, HB3⟩
        case measure => simp [RowKit.intOf]; omega
      · have g1' : decide ((100 : Int) < (z.length : Int)) = true := by simp; omega
        have g2' : decide (100 < z.length) = true := by simp; omega
        go_wp2_with fail
        refine (awake_c wr).mono ?_
        rintro e w5 ⟨rfl, b5⟩
        go_wp2
        go_ret
        exact ⟨rfl, bn HB.out b5⟩
    · have hii : i = bs.length := by omega
      subst hii
      have hall : Hid (BRow wr w.heap.size (.slice A N C) (rowsF k' bs)) := Lib.hid (by have := HR.out; rwa [List.take_of_length_le (Nat.le_refl _)] at this)
      have HS2 : Hid (∀ p ∈ bs, p.length ≤ 100) := Lib.hid (by have := HS.out; rwa [List.take_of_length_le (Nat.le_refl _)] at this)
      have HOKS : Hid (∀ p ∈ bs, okF k' p = true) := Lib.hid (fun p hp => okF_of HK.out.1 HK.out.2 (by have := HS2.out p hp; omega))
      have HLN : Hid ((rowsF k' bs).length ≤ 2000) := Lib.hid (by have := rowsF_len k' bs HS2.out; omega)
      have HOR : Hid (OkB (rowsF k' bs)) := Lib.hid (rowsF_ok k' bs (fun p hp => (HOB.out p hp).1))
      have hNN : N = (rowsF k' bs).length := BRow.len hall.out
      have HNN := Lib.hid hNN
      have HC1 : Hid (Calls Try.prog 16 #[.slice A N C] wr fun e w' => e = .returned (.tuple #[.int .i64 (bs.length : Int), .int .i64 (N : Int)]) ∧ Below wr.heap.size wr w') := Lib.hid (by
        have h1 := count_c _ _ wr hall.out.bc HOR.out (by have := HLN.out; omega)
        have h2 := rows_count (k := k') bs [] HOKS.out rfl
        rw [List.append_nil] at h2
        unfold countT at h1
        rw [h2] at h1
        rw [hNN] at h1 ⊢
        exact h1)
      clear hNN HR HS hp hi
      go_wp2_with fail
      refine HC1.out.mono ?_
      rintro e w1 ⟨rfl, b1⟩
      have HB1 : Hid (Below w.heap.size w w1) := Lib.hid (bn HB.out b1)
      have H1 := Lib.hid (hall.out.below b1)
      clear b1 HB hall HC1
      cases hf : fsT t with
      | none =>
        have HNX := Lib.hid (next_no (by rw [nxT_zero]; exact hf) HOT.out (by omega) _ w1 (HU.out.below HB1.out))
        have HCT := Lib.hid (rows_count (k := k') bs t HOKS.out hf)
        clear hf
        go_wp2_with fail
        refine HNX.out.mono ?_
        rintro e w2 ⟨A2, N2, C2, rfl, b2⟩
        have HB2 : Hid (Below w.heap.size w w2) := Lib.hid (bn HB1.out b2)
        have H2 := Lib.hid (H1.out.below b2)
        obtain ⟨A5, N5, C5, w5, r5, b5, A6, N6, C6, w6, r6, h6, hN6, b6⟩ := app2_run (rowsF k' bs) t (.slice A N C) (.slice ad2 t.length cap2) w2 22 22 H2.out.nl (HU.out.below HB2.out).1 (by have := HLN.out; omega)
        have HR5 := Lib.hid r5
        have HR6 := Lib.hid r6
        have HB6 : Hid (Below w.heap.size w w6) := Lib.hid (bn HB2.out b6)
        have HC2 : Hid (Calls Try.prog 16 #[.slice A6 N6 C6] w6 fun e w' => e = .returned (.tuple #[.int .i64 (bs.length : Int), .int .i64 (N : Int)]) ∧ Below w6.heap.size w6 w') := Lib.hid (by
          have h1 := count_c _ _ w6 h6.bc (HOR.out.append HOT.out) (by rw [List.length_append]; have := HLN.out; omega)
          unfold countT at h1
          rw [HCT.out] at h1
          rw [HNN.out]
          exact h1)
        clear r5 r6 b5 b6 h6 hN6 b2 HNX H1 HB1 HB2 H2
        go_wp2_with (at_builtin; first | (refine wpList_append_run rfl _ _ 22 rfl _ _ HR5.out ?_; clear HR5) | refine wpList_append_run rfl _ _ 22 rfl _ _ HR6.out ?_)
        refine HC2.out.mono ?_
        rintro e w7 ⟨rfl, b7⟩
        have HB7 : Hid (Below w.heap.size w w7) := Lib.hid (bn HB6.out b7)
        clear b7 HB6 HC2 HR6
        go_wp2_with fail
        refine (awake_c w7).mono ?_
        rintro e w8 ⟨rfl, b8⟩
        go_wp2
        go_ret
        exact ⟨rfl, bn HB7.out b8⟩
      | some p =>
        obtain ⟨q, n⟩ := p
        have HNX := Lib.hid (next_yes (by rw [nxT_zero]; exact hf) rfl HOT.out (by omega) _ w1 (HU.out.below HB1.out))
        clear hf
        go_wp2_with fail
        refine HNX.out.mono ?_
        rintro e w2 ⟨A2, N2, C2, rfl, h2, b2⟩
        have HB2 : Hid (Below w.heap.size w w2) := Lib.hid (bn HB1.out b2)
        have H2 := Lib.hid (H1.out.below b2)
        obtain ⟨A5, N5, C5, w5, r5, b5, A6, N6, C6, w6, r6, h6, hN6, b6⟩ := app2_run (rowsF k' bs) t (.slice A N C) (.slice ad2 t.length cap2) w2 22 22 H2.out.nl (HU.out.below HB2.out).1 (by have := HLN.out; omega)
        have HR5 := Lib.hid r5
        have HR6 := Lib.hid r6
        have HB6 : Hid (Below w.heap.size w w6) := Lib.hid (bn HB2.out b6)
        have HC2 : Hid (Calls Try.prog 16 #[.slice A6 N6 C6] w6 fun e w' => ∃ x y, e = .returned (.tuple #[.int .i64 x, .int .i64 y]) ∧ Below w6.heap.size w6 w') := Lib.hid (by
          refine (count_c _ _ w6 h6.bc (HOR.out.append HOT.out) (by rw [List.length_append]; have := HLN.out; omega)).mono ?_
          rintro e w' ⟨rfl, hb⟩
          exact ⟨_, _, rfl, hb⟩)
        clear r5 r6 b5 b6 h6 hN6 b2 h2 HNX H1 HB1 HB2 H2
        go_wp2_with (at_builtin; first | (refine wpList_append_run rfl _ _ 22 rfl _ _ HR5.out ?_; clear HR5) | refine wpList_append_run rfl _ _ 22 rfl _ _ HR6.out ?_)
        refine HC2.out.mono ?_
        rintro e w7 ⟨x7, y7, rfl, b7⟩
        have HB7 : Hid (Below w.heap.size w w7) := Lib.hid (bn HB6.out b7)
        clear b7 HB6 HC2 HR6
        go_wp2_with fail
        refine (awake_c w7).mono ?_
        rintro e w8 ⟨rfl, b8⟩
        go_wp2
        go_ret
        exact ⟨rfl, bn HB7.out b8⟩
end Go.Proofs.Ytkgenjiccidfgaa
