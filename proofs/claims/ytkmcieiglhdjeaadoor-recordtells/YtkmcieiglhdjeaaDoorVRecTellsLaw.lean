/-
  RecordTells, as a call: it answers true.
-/
import Derived.Test.YtkmcieiglhdjeaaDoorVRecRefWalk
import Derived.Test.YtkmcieiglhdjeaaDoorVRecOrd1
namespace Go.Proofs.YtkmcieiglhdjeaaDoor
open Go.RowKit Go.Lib

/-- Two records that have just been laid. -/
theorem rl_two (w : World) (B : Nat) (hB : B = w.heap.size) (a b : Rc) : Rl (w.alloc (.cells #[.int .i64 a.o, .int .i64 a.s, .int .i64 a.w, .int .i64 a.c, .string a.t, .int .i64 b.o, .int .i64 b.s, .int .i64 b.w, .int .i64 b.c, .string b.t] 27)) (.slice (some ⟨B, 0, none⟩) 2 2) [a, b] := by
  subst hB
  have h : ∀ k, (w.alloc (.cells #[.int .i64 a.o, .int .i64 a.s, .int .i64 a.w, .int .i64 a.c, .string a.t, .int .i64 b.o, .int .i64 b.s, .int .i64 b.w, .int .i64 b.c, .string b.t] 27)).cell? ⟨w.heap.size, k, none⟩ = #[.int .i64 a.o, .int .i64 a.s, .int .i64 a.w, .int .i64 a.c, .string a.t, .int .i64 b.o, .int .i64 b.s, .int .i64 b.w, .int .i64 b.c, .string b.t][k]? := fun k => cell_of_row _ w.heap.size k _ _ _ (heap_alloc_new w _)
  refine .inr ⟨_, 2, rfl, Nat.le_refl _, fun _ => ⟨w.heap.size, 0, rfl, fun k hk => ?_⟩⟩
  have hk2 : k < 2 := hk
  match k, hk2 with
  | 0, _ => exact ⟨h 0, h 1, h 2, h 3, h 4⟩
  | 1, _ => exact ⟨h 5, h 6, h 7, h 8, h 9⟩

set_option maxHeartbeats 8000000 in
set_option maxRecDepth 100000 in
theorem tells_great (a b : Rc) (l : List Rc) (v : Value) (w : World) (hT : Tabs w) (h : Rl w v l) (hl : l.length ≤ maxLen) (hg : greatB [a, b] 2 = true ∨ (greatB [a, b] 2 = false ∧ greatB l 30 = true)) :
    Calls Tryd.prog 3 #[.agg #[.int .i64 a.o, .int .i64 a.s, .int .i64 a.w, .int .i64 a.c, .string a.t], .agg #[.int .i64 b.o, .int .i64 b.s, .int .i64 b.w, .int .i64 b.c, .string b.t], v] w fun e w' => e = .returned (.bool true) ∧ Below w.heap.size w w' := by
  have HT := Lib.hid hT
  have HV := Lib.hid h
  obtain ⟨ad, cap, rfl, _⟩ := h.form
  have HG1 := Lib.hid (fun (W : World) (B : Nat) (hB : B = W.heap.size) => great_c [a, b] _ 2 _ (rl_two W B hB a b) (by decide) (by unfold maxLen; simp))
  have HG2 := Lib.hid (fun W (hb : Below w.heap.size w W) => great_c l _ 30 W (HV.out.below hb) (by decide) hl)
  have B3 : Hid (Below w.heap.size w ((w.alloc (.cells #[.int .i64 a.o, .int .i64 a.s, .int .i64 a.w, .int .i64 a.c, .string a.t] 27)).alloc (.cells #[.int .i64 b.o, .int .i64 b.s, .int .i64 b.w, .int .i64 b.c, .string b.t] 27))) := Lib.hid (below_two _ _ _)
  clear h hT
  rcases hg with hg | ⟨hg, hg2⟩
  · rw [hg] at HG1
    go_enter Tryd.func3, Tryd.ntmps3
    go_wp2_with fail
    refine (HG1.out _ _ (by simp)).mono ?_
    rintro e w1 ⟨rfl, b1⟩
    have B1 := Lib.hid (bn (bn B3.out (alloc_below _ _)) b1)
    clear b1
    go_wp2_with fail
    refine (awake_c w1 (HT.out.below B1.out)).mono ?_
    rintro e w2 ⟨rfl, b2⟩
    go_wp2
    go_ret
    exact ⟨rfl, bn B1.out b2⟩
  · rw [hg] at HG1
    rw [hg2] at HG2
    go_enter Tryd.func3, Tryd.ntmps3
    go_wp2_with fail
    refine (HG1.out _ _ (by simp)).mono ?_
    rintro e w1 ⟨rfl, b1⟩
    have B1 := Lib.hid (bn (bn B3.out (alloc_below _ _)) b1)
    clear b1
    go_wp2_with fail
    refine (HG2.out _ B1.out).mono ?_
    rintro e w2 ⟨rfl, b2⟩
    have B2 := Lib.hid (bn B1.out b2)
    clear b2
    go_wp2_with fail
    refine (awake_c w2 (HT.out.below B2.out)).mono ?_
    rintro e w3 ⟨rfl, b3⟩
    go_wp2
    go_ret
    exact ⟨rfl, bn B2.out b3⟩

set_option maxHeartbeats 16000000 in
set_option maxRecDepth 1000000 in
theorem tells_few (a b : Rc) (l : List Rc) (v : Value) (w : World) (hT : Tabs w) (h : Rl w v l) (hza : a.t.size ≤ 9223372036854775807) (hg : greatB [a, b] 2 = false) (hg2 : greatB l 30 = false) :
    Calls Tryd.prog 3 #[.agg #[.int .i64 a.o, .int .i64 a.s, .int .i64 a.w, .int .i64 a.c, .string a.t], .agg #[.int .i64 b.o, .int .i64 b.s, .int .i64 b.w, .int .i64 b.c, .string b.t], v] w fun e w' => e = .returned (.bool true) ∧ Below w.heap.size w w' := by
  have hl : l.length ≤ 30 := (greatB_no hg2).1
  have HT := Lib.hid hT
  have HV := Lib.hid h
  obtain ⟨ad, cap, rfl, hcap, _⟩ := h.form
  have HG1 := Lib.hid (fun (W : World) (B : Nat) (hB : B = W.heap.size) => great_c [a, b] _ 2 _ (rl_two W B hB a b) (by decide) (by unfold maxLen; simp))
  have HG2 := Lib.hid (fun W (hb : Below w.heap.size w W) => great_c l _ 30 W (HV.out.below hb) (by decide) (by unfold maxLen; omega))
  rw [hg] at HG1
  rw [hg2] at HG2
  have B3 : Hid (Below w.heap.size w ((w.alloc (.cells #[.int .i64 a.o, .int .i64 a.s, .int .i64 a.w, .int .i64 a.c, .string a.t] 27)).alloc (.cells #[.int .i64 b.o, .int .i64 b.s, .int .i64 b.w, .int .i64 b.c, .string b.t] 27))) := Lib.hid (below_two _ _ _)
  have XA := Lib.hid ((Bx.new 27 w #[.int .i64 a.o, .int .i64 a.s, .int .i64 a.w, .int .i64 a.c, .string a.t]).alloc (.cells #[.int .i64 b.o, .int .i64 b.s, .int .i64 b.w, .int .i64 b.c, .string b.t] 27))
  have XB : Hid (Bx 27 ((w.alloc (.cells #[.int .i64 a.o, .int .i64 a.s, .int .i64 a.w, .int .i64 a.c, .string a.t] 27)).alloc (.cells #[.int .i64 b.o, .int .i64 b.s, .int .i64 b.w, .int .i64 b.c, .string b.t] 27)) (w.heap.size + 1) #[.int .i64 b.o, .int .i64 b.s, .int .i64 b.w, .int .i64 b.c, .string b.t]) := Lib.hid (by have h := Bx.new 27 (w.alloc (.cells #[.int .i64 a.o, .int .i64 a.s, .int .i64 a.w, .int .i64 a.c, .string a.t] 27)) #[.int .i64 b.o, .int .i64 b.s, .int .i64 b.w, .int .i64 b.c, .string b.t]; simpa using h)
  clear h hT hg hg2
  go_enter Tryd.func3, Tryd.ntmps3
  go_wp2_with fail
  refine (HG1.out _ _ (by simp)).mono ?_
  rintro e w1 ⟨rfl, b1⟩
  have B1 := Lib.hid (bn (bn B3.out (alloc_below _ _)) b1)
  have XA1 := Lib.hid ((XA.out.below (alloc_below _ _)).below b1)
  have XB1 := Lib.hid ((XB.out.below (alloc_below _ _)).below b1)
  clear b1
  go_wp2_with fail
  refine (HG2.out _ B1.out).mono ?_
  rintro e w2 ⟨rfl, b2⟩
  have B2 := Lib.hid (bn B1.out b2)
  have XA2 := Lib.hid (XA1.out.below b2)
  have XB2 := Lib.hid (XB1.out.below b2)
  clear b2 XA XB XA1 XB1 B1 B3 HG1 HG2
  go_wp2_with fail
  refine (rlend_c l _ w2 (HV.out.below B2.out) (by omega)).mono ?_
  rintro e w3 ⟨gI, rfl, hLe, hgI, b3⟩
  have B3 := Lib.hid (bn B2.out b3)
  have XA3 := Lib.hid (XA2.out.below b3)
  have XB3 := Lib.hid (XB2.out.below b3)
  have HLE0 := Lib.hid hLe
  clear b3 hLe XA2 XB2
  go_wp2_with fail
  refine (sort_c l _ w3 HLE0.out.rl (by omega)).mono ?_
  rintro e W0 ⟨g, d, rfl, hgw, hD, hS, b4⟩
  have HD := Lib.hid hD
  have HSS := Lib.hid hS
  have B4 := Lib.hid (bn B3.out b4)
  have XA4 := Lib.hid (XA3.out.below b4)
  have XB4 := Lib.hid (XB3.out.below b4)
  have HLE1 := Lib.hid (HLE0.out.below b4)
  have hgne : gI < g := Nat.lt_of_lt_of_le HLE0.out.lt hgw
  have hws : w.heap.size ≤ g := Nat.le_trans B3.out.size hgw
  clear hD hS b4 XA3 XB3 HLE0
  have hsl : (seg d 0 l.length).length = l.length := by rw [seg_len]; omega
  have HSL := Lib.hid hsl
  clear hsl
  have HC : Hid (∀ W : World, Below W0.heap.size W0 W → (fun W => W.cell? ⟨w.heap.size, 0, none⟩ = some (.int .i64 a.o) ∧ W.cell? ⟨w.heap.size, 1, none⟩ = some (.int .i64 a.s) ∧ W.cell? ⟨w.heap.size, 2, none⟩ = some (.int .i64 a.w) ∧ W.cell? ⟨w.heap.size, 3, none⟩ = some (.int .i64 a.c) ∧ W.cell? ⟨w.heap.size, 4, none⟩ = some (.string a.t) ∧ W.cell? ⟨w.heap.size + 1, 0, none⟩ = some (.int .i64 b.o) ∧ W.cell? ⟨w.heap.size + 1, 1, none⟩ = some (.int .i64 b.s) ∧ W.cell? ⟨w.heap.size + 1, 2, none⟩ = some (.int .i64 b.w) ∧ W.cell? ⟨w.heap.size + 1, 3, none⟩ = some (.int .i64 b.c) ∧ W.cell? ⟨w.heap.size + 1, 4, none⟩ = some (.string b.t)) W) := Lib.hid (fun W hb => by
    obtain ⟨c0, c1, c2, c3, c4⟩ := (XA4.out.below hb).five
    obtain ⟨d0, d1, d2, d3, d4⟩ := (XB4.out.below hb).five
    exact ⟨c0, c1, c2, c3, c4, d0, d1, d2, d3, d4⟩)
  have HRS := Lib.hid (fun W (hb : Below W0.heap.size W0 W) => refsort_c l _ W (HV.out.below (bn B4.out hb)) (by omega))
  have HSM := Lib.hid (fun (W : World) (vR : Value) (hb : Below W0.heap.size W0 W) (hr : Rl W vR (seg d 0 l.length)) => samel_c (seg d 0 l.length) _ vR W ((HD.out.below hb).rl) hr (by have := HSL.out; omega))
  have HKP := Lib.hid (fun W (hb : Below W0.heap.size W0 W) => rkept_c l gI _ W (HLE1.out.below hb) (HV.out.below (bn B4.out hb)) (by omega))
  have HMA := Lib.hid (fun W (hb : Below W0.heap.size W0 W) => may_c a W hza (HT.out.below (bn B4.out hb)))
  have HRM := Lib.hid (fun W (hb : Below W0.heap.size W0 W) => refmay_c a W hza (HT.out.below (bn B4.out hb)))
  have HSA := Lib.hid (fun W => same_c a b W)
  have HRA := Lib.hid (fun W => refsame_c a b W)
  have HLE := Lib.hid (fun W => less_c a b W)
  have HRE := Lib.hid (fun W => refless_c a b W)
  have HBE := Lib.hid (fun W => before_c a.o a.s b.o b.s W)
  have HRB := Lib.hid (fun W => refbefore_c a.o a.s b.o b.s W)
  generalize mayR a = M1 at HMA HRM
  generalize sameR a b = M2 at HSA HRA
  generalize lessR a b = M3 at HLE HRE
  generalize befB a.o a.s b.o b.s = M4 at HBE HRB
  have e1 : (M1 == M1) = true := by simp
  have e2 : (M2 == M2) = true := by simp
  have e3 : (M3 == M3) = true := by simp
  have e4 : (M4 == M4) = true := by simp
  go_wp2_with fail
  go_region_held3 (fun W => W.cell? ⟨w.heap.size, 0, none⟩ = some (.int .i64 a.o) ∧ W.cell? ⟨w.heap.size, 1, none⟩ = some (.int .i64 a.s) ∧ W.cell? ⟨w.heap.size, 2, none⟩ = some (.int .i64 a.w) ∧ W.cell? ⟨w.heap.size, 3, none⟩ = some (.int .i64 a.c) ∧ W.cell? ⟨w.heap.size, 4, none⟩ = some (.string a.t) ∧ W.cell? ⟨w.heap.size + 1, 0, none⟩ = some (.int .i64 b.o) ∧ W.cell? ⟨w.heap.size + 1, 1, none⟩ = some (.int .i64 b.s) ∧ W.cell? ⟨w.heap.size + 1, 2, none⟩ = some (.int .i64 b.w) ∧ W.cell? ⟨w.heap.size + 1, 3, none⟩ = some (.int .i64 b.c) ∧ W.cell? ⟨w.heap.size + 1, 4, none⟩ = some (.string b.t)) (exact HC.out _ (by first | assumption | exact (Below.refl _ _).drew | exact Below.refl _ _))
    (first
    | (go_at_call 10; refine (HRS.out _ (by first | assumption | exact (Below.refl _ _).drew | exact Below.refl _ _)).mono ?_; rintro e w5 ⟨vR, mR, rfl, hrow, hso, b5⟩; have b5' : Below W0.heap.size W0 w5 := bn (by first | assumption | exact (Below.refl _ _).drew | exact Below.refl _ _) b5; have HRR : Hid (Rl w5 vR (seg d 0 l.length)) := Lib.hid (by rw [Sorts.unique HSS.out hso]; exact hrow.rl); clear hrow hso; clear b5)
    | (go_at_call 9; refine (HSM.out _ _ (by first | assumption | exact (Below.refl _ _).drew | exact Below.refl _ _) HRR.out).mono ?_; rintro e w5 ⟨rfl, b5⟩; have b5' : Below W0.heap.size W0 w5 := bn (by first | assumption | exact (Below.refl _ _).drew | exact Below.refl _ _) b5; clear HRR; clear b5)
    | (go_at_call 11; refine (HKP.out _ (by first | assumption | exact (Below.refl _ _).drew | exact Below.refl _ _)).mono ?_; rintro e w5 ⟨rfl, b5⟩; have b5' : Below W0.heap.size W0 w5 := bn (by first | assumption | exact (Below.refl _ _).drew | exact Below.refl _ _) b5; clear b5)
    | (go_at_call 12; refine (HMA.out _ (by first | assumption | exact (Below.refl _ _).drew | exact Below.refl _ _)).mono ?_; rintro e w5 ⟨rfl, b5⟩; have b5' : Below W0.heap.size W0 w5 := bn (by first | assumption | exact (Below.refl _ _).drew | exact Below.refl _ _) b5; clear b5)
    | (go_at_call 13; refine (HRM.out _ (by first | assumption | exact (Below.refl _ _).drew | exact Below.refl _ _)).mono ?_; rintro e w5 ⟨rfl, b5⟩; have b5' : Below W0.heap.size W0 w5 := bn (by first | assumption | exact (Below.refl _ _).drew | exact Below.refl _ _) b5; clear b5)
    | (go_at_call 14; refine (HSA.out _).mono ?_; rintro e w5 ⟨rfl, b5⟩; have b5' : Below W0.heap.size W0 w5 := bn (by first | assumption | exact (Below.refl _ _).drew | exact Below.refl _ _) b5; clear b5)
    | (go_at_call 15; refine (HRA.out _).mono ?_; rintro e w5 ⟨rfl, b5⟩; have b5' : Below W0.heap.size W0 w5 := bn (by first | assumption | exact (Below.refl _ _).drew | exact Below.refl _ _) b5; clear b5)
    | (go_at_call 16; refine (HLE.out _).mono ?_; rintro e w5 ⟨rfl, b5⟩; have b5' : Below W0.heap.size W0 w5 := bn (by first | assumption | exact (Below.refl _ _).drew | exact Below.refl _ _) b5; clear b5)
    | (go_at_call 17; refine (HRE.out _).mono ?_; rintro e w5 ⟨rfl, b5⟩; have b5' : Below W0.heap.size W0 w5 := bn (by first | assumption | exact (Below.refl _ _).drew | exact Below.refl _ _) b5; clear b5)
    | (go_at_call 18; refine (HBE.out _).mono ?_; rintro e w5 ⟨rfl, b5⟩; have b5' : Below W0.heap.size W0 w5 := bn (by first | assumption | exact (Below.refl _ _).drew | exact Below.refl _ _) b5; clear b5)
    | (go_at_call 19; refine (HRB.out _).mono ?_; rintro e w5 ⟨rfl, b5⟩; have b5' : Below W0.heap.size W0 w5 := bn (by first | assumption | exact (Below.refl _ _).drew | exact Below.refl _ _) b5; clear b5)
    | fail)
  have B5 := Lib.hid (bn B4.out b5')
  have HD5 := Lib.hid (HD.out.below b5')
  have HLE5 := Lib.hid (HLE1.out.below b5')
  clear b5' HC HRS HSM HKP HMA HRM HSA HRA HLE HRE HBE HRB XA4 XB4 HLE1 HD e1 e2 e3 e4
  go_wp2_with fail
  refine (rover_c g l.length d w5 HD5.out (by omega)).mono ?_
  rintro e w6 ⟨rfl, hg6⟩
  have B6 := Lib.hid (B5.out.trans (below_of_grown hg6 B5.out.size (fun x hx => by cases hx; exact hws)))
  have HK6 := Lib.hid (rkept_c l gI _ w6 (HLE5.out.far hg6 (by intro hx; cases hx; omega)) (HV.out.below B6.out) (by omega))
  clear hg6
  go_wp2_with fail
  refine HK6.out.mono ?_
  rintro e w7 ⟨rfl, b7⟩
  have B7 := Lib.hid (bn B6.out b7)
  clear b7
  go_wp2_with fail
  refine (awake_c w7 (HT.out.below B7.out)).mono ?_
  rintro e w8 ⟨rfl, b8⟩
  go_wp2
  go_ret
  exact ⟨rfl, bn B7.out b8⟩
end Go.Proofs.YtkmcieiglhdjeaaDoor
