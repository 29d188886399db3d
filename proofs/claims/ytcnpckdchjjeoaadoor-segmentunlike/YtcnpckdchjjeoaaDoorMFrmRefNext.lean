/-
  Chapter 6's own Next, by contract.
-/
import Derived.Test.YtcnpckdchjjeoaaDoorMFrmGet
namespace Go.Proofs.YtcnpckdchjjeoaaDoor
open Go.RowKit Go.Lib
set_option maxRecDepth 100000
theorem step_bapp {w : World} {ops : Array Oper} {o : Oper} {a : Act} {K : Act → World → Prop} {Q : Exit → Act → World → Prop} {E : Prop} (hgd : o.guard = none) (s x : Operand)
    (ho : o.op = .call { callee := .builtin .append, args := #[s, x], argTypes := #[33, 33] })
    (B : Nat) (v u : Value) (m l : List Int) (hs : a.eval s = v) (hx : a.eval x = u) (hv : BRow w B v m) (hu : Bl w u l) (hn : m.length + l.length ≤ 1000000) (hB : B ≤ w.heap.size)
    (h : ∀ A N C w', BRow w' B (.slice A N C) (m ++ l) → Below B w w' → K (a.put o.dst (.slice A N C)) w') :
    if Region.wanted o (yielded ops a.tmps) = true then Oper.wp Tryd.prog o a w K Q else E := by
  have hw : Region.wanted o (yielded ops a.tmps) = true := by simp [Region.wanted, hgd]
  rw [if_pos hw]
  obtain ⟨A, N, C, w', hr, h2, h3⟩ := bapp_run m l v u w o.type B hv hu hn hB
  unfold Oper.wp execOp
  simp only [ho, resolve, invoke, builtin, Sem.run_bind, Sem.run_pure, Result.andThen_ok, List.map_toArray, List.map_cons, List.map_nil, hs, hx, hr]
  exact h A N C w' h2 h3

set_option maxHeartbeats 8000000 in
theorem rnext_out (l : List Int) (ad : Option Addr) (cap : Nat) (a : Int) (w : World) (h : a < 0 ∨ (l.length : Int) < a) :
    Calls Tryd.prog 25 #[.slice ad l.length cap, .int .i64 a] w (nextT l a w) := by
  have HX := Lib.hid (show nxT l a = none by unfold nxT; rw [if_neg (by omega)])
  by_cases h0 : 0 ≤ a
  · have e0 : decide (0 ≤ a) = true := by simpa using h0
    have e1 : decide (a ≤ (l.length : Int)) = false := by simp; omega
    go_enter Tryd.func25, Tryd.ntmps25
    go_wp2
    refine bodyPost_ret (results_tmp4 rfl _ _ _) rfl ?_
    exact nextT_no HX.out (Below.refl _ _)
  · have e0 : decide (0 ≤ a) = false := by simpa using h0
    go_enter Tryd.func25, Tryd.ntmps25
    go_wp2
    refine bodyPost_ret (results_tmp4 rfl _ _ _) rfl ?_
    exact nextT_no HX.out (Below.refl _ _)

set_option maxHeartbeats 8000000 in
theorem rnext_short (l : List Int) (ad : Option Addr) (cap a : Nat) (w : World) (h : a ≤ l.length) (h4 : l.length < a + 4) (hl : l.length ≤ 1000000) :
    Calls Tryd.prog 25 #[.slice ad l.length cap, .int .i64 (a : Int)] w (nextT l a w) := by
  have HX := Lib.hid (show nxT l (a : Int) = none by unfold nxT; rw [if_pos (by omega), Int.toNat_natCast, fsT_short (by rw [List.length_drop]; omega)])
  have e0 : decide (0 ≤ (a : Int)) = true := by simp
  have e1 : decide ((a : Int) ≤ (l.length : Int)) = true := by simp; omega
  have e2 : decide (a ≤ l.length) = true := by simp; omega
  have HG := Lib.hid (get_no l ad cap ((a : Int) + 2) 2 w hl (by decide) (by omega) (by omega))
  go_enter Tryd.func25, Tryd.ntmps25
  go_wp2_with fail
  refine HG.out.mono ?_
  rintro e w1 ⟨rfl, b1⟩
  go_wp2
  refine bodyPost_ret (results_tmp4 rfl _ _ _) rfl ?_
  exact nextT_no HX.out b1

set_option maxHeartbeats 8000000 in
theorem rnext_long (l : List Int) (b o cap a : Nat) (w : World) (hc : Bc w (.slice (some ⟨b, o, none⟩) l.length cap) l) (hby : Byts w b o l) (ho : OkB l) (h4 : a + 4 ≤ l.length) (hcap : l.length ≤ cap) (hl : l.length ≤ 1000000) :
    Calls Tryd.prog 25 #[.slice (some ⟨b, o, none⟩) l.length cap, .int .i64 (a : Int)] w (nextT l a w) := by
  have e0 : decide (0 ≤ (a : Int)) = true := by simp
  have e1 : decide ((a : Int) ≤ (l.length : Int)) = true := by simp; omega
  have e2 : decide (a ≤ l.length) = true := by simp; omega
  have hN : nxT l (a : Int) = fsT (l.drop a) := by unfold nxT; rw [if_pos (by omega), Int.toNat_natCast]
  have h4' : 4 ≤ (l.drop a).length := by rw [List.length_drop]; omega
  rw [fsT_long h4', List.length_drop] at hN
  obtain ⟨hs1, hs2⟩ := sz_bound h4' (ho.drop a)
  obtain ⟨hk1, hk2⟩ := kd_bound h4' (ho.drop a)
  have ha0 : a < l.length := by omega
  have ha1 : a + 1 < l.length := by omega
  have ex0 : unB 0 ((l.drop a).take 1) = l[a] := by
    rw [List.drop_eq_getElem_cons ha0]
    show 0 * 256 + l[a] = l[a]
    omega
  have ex1 : kd (l.drop a) = l[a + 1] := by
    unfold kd
    rw [List.drop_drop, List.drop_eq_getElem_cons (show a + 1 < l.length by omega)]
    show 0 * 256 + l[a + 1] = l[a + 1]
    omega
  have c0 := hby a ha0
  have c1 := hby (a + 1) ha1
  have HG := get_yes l b o cap (a + 2) 2 w hby ho hl (by decide) (by omega)
  rw [show unB 0 ((l.drop (a + 2)).take 2) = (sz (l.drop a) : Int) by rw [← hs1, List.drop_drop]] at HG
  have HG := Lib.hid HG
  rw [ex0, ex1] at hN
  rw [ex1] at hk1 hk2
  generalize l[a] = x0 at hN c0
  generalize l[a + 1] = x1 at hN c1 hk1 hk2
  generalize sz (l.drop a) = n0 at hN HG hs2
  have HX := Lib.hid hN
  have HO := Lib.hid ho
  have HC := Lib.hid hc
  have HBY := Lib.hid hby
  clear hN hs1 ex0 ex1 ho hc hby h4'
  have i0 : (a : Int) < (l.length : Int) := by omega
  have i1 : (a : Int) + 1 < (l.length : Int) := by omega
  have i2 : 0 ≤ (a : Int) + 1 := by omega
  have i3 : ((a : Int) + 1).toNat = a + 1 := by omega
  have hbl : b < w.heap.size := World.block_lt_of_cell? w _ c0
  go_enter Tryd.func25, Tryd.ntmps25
  go_wp2_with fail
  refine HG.out.mono ?_
  rintro e w1 ⟨rfl, b1⟩
  have C0 := (b1.cell hbl).trans c0
  have C1 := (b1.cell (p := ⟨b, o + (a + 1), none⟩) hbl).trans c1
  have hbl1 : b < w1.heap.size := Nat.lt_of_lt_of_le hbl b1.size
  have HB1 := Lib.hid b1
  clear b1 c0 c1 HG
  by_cases d0 : x0 = 71
  · subst d0
    by_cases d1 : x1 = 0
    · have f1 : (x1 == 0) = true := by simpa using d1
      have HF := Lib.hid (HX.out.trans (if_neg (by omega)))
      go_wp2
      refine bodyPost_ret (results_tmp4 rfl _ _ _) rfl ?_
      exact nextT_no HF.out HB1.out
    · have f1 : (x1 == 0) = false := by simpa using d1
      by_cases d2 : n0 + 12 ≤ l.length - a
      · have f2 : decide ((l.length : Int) - (a : Int) < (n0 : Int) + 12) = false := by simp; omega
        obtain ⟨E, hE⟩ : ∃ E : Nat, a + 4 + n0 = E := ⟨_, rfl⟩
        have hE' : (a : Int) + 4 + (n0 : Int) = (E : Int) := by omega
        have hE8 : (a : Int) + 4 + (n0 : Int) + 8 = ((E + 8 : Nat) : Int) := by omega
        have hw8 : IntKind.i64.wrap ((E : Int) + 8) = ((E + 8 : Nat) : Int) := by rw [IntKind.wrap_i64]; omega
        obtain ⟨A5, C5, ep5, p5⟩ := HC.out.piece a E (by omega) (by omega)
        obtain ⟨A6, C6, ep6, p6⟩ := HC.out.piece E (E + 8) (by omega) (by omega)
        obtain ⟨A9, C9, ep9, p9⟩ := HC.out.piece (a + 4) E (by omega) (by omega)
        have r5 : ∀ W, (Instr.sliceAt 33 (.slice (some ⟨b, o, none⟩) l.length cap) (some (.int .i64 (a : Int))) (some (.int .i64 (E : Int))) none).run Tryd.prog W = .ok (.slice A5 (E - a) C5) W := fun W => by
          rw [← ep5]
          exact slice_any_run _ _ cap _ _ _ _ W (by simp [Instr.sliceBounds, run_sliceBound_if, show a ≤ E by omega, show E ≤ cap by omega])
        have r6 : ∀ W, (Instr.sliceAt 33 (.slice (some ⟨b, o, none⟩) l.length cap) (some (.int .i64 (E : Int))) (some (.int .i64 (IntKind.i64.wrap ((E : Int) + 8)))) none).run Tryd.prog W = .ok (.slice A6 (E + 8 - E) C6) W := fun W => by
          obtain ⟨E8, hE8⟩ : ∃ E8 : Nat, E + 8 = E8 := ⟨_, rfl⟩
          rw [← ep6, hw8, hE8]
          exact slice_any_run _ _ cap _ _ _ _ W (by simp [Instr.sliceBounds, run_sliceBound_if, show E ≤ E8 by omega, show E8 ≤ cap by omega])
        have r6b : ∀ W, (Instr.sliceAt 33 (.slice (some ⟨b, o, none⟩) l.length cap) (some (.int .i64 (E : Int))) (some (.int .i64 ((E : Int) + 8))) none).run Tryd.prog W = .ok (.slice A6 (E + 8 - E) C6) W := fun W => by
          have h := r6 W
          rw [hw8] at h
          exact h
        have r9 : ∀ W, (Instr.sliceAt 33 (.slice (some ⟨b, o, none⟩) l.length cap) (some (.int .i64 (IntKind.i64.wrap ((a : Int) + 4)))) (some (.int .i64 (E : Int))) none).run Tryd.prog W = .ok (.slice A9 (E - (a + 4)) C9) W := fun W => by
          obtain ⟨E4, hE4⟩ : ∃ E4 : Nat, a + 4 = E4 := ⟨_, rfl⟩
          have hw4 : IntKind.i64.wrap ((a : Int) + 4) = (E4 : Int) := by rw [IntKind.wrap_i64]; omega
          rw [← ep9, hw4, hE4]
          exact slice_any_run _ _ cap _ _ _ _ W (by simp [Instr.sliceBounds, run_sliceBound_if, show E4 ≤ E by omega, show E ≤ cap by omega])
        obtain ⟨N9, hN9⟩ : ∃ N9, E - (a + 4) = N9 := ⟨_, rfl⟩
        rw [hN9] at r9 p9
        have hN9' : N9 = n0 := by omega
        have HP9 : Hid (∀ W, Below w.heap.size w W → Bl W (.slice A9 N9 C9) ((l.drop (a + 4)).take N9)) := Lib.hid (fun W hW => (p9 W (HC.out.below hW)).1)
        obtain ⟨N5, hN5⟩ : ∃ N5, E - a = N5 := ⟨_, rfl⟩
        obtain ⟨N6, hN6⟩ : ∃ N6, E + 8 - E = N6 := ⟨_, rfl⟩
        rw [hN5] at r5 p5
        rw [hN6] at r6 r6b p6
        have hN5' : N5 = 4 + n0 := by omega
        have hN6' : N6 = 8 := by omega
        have hm8 : ((l.drop E).take N6).length = 8 := by rw [List.length_take, List.length_drop]; omega
        have hom : OkB ((l.drop E).take N6) := (HO.out.drop E).take N6
        have HP5 := Lib.hid p5
        have HCV6 : Hid (∀ W, Below w1.heap.size w1 W → (convert 33 9 (.slice A6 N6 C6)).run Tryd.prog W = .ok (.string (strOfNums ((l.drop E).take N6))) W) := Lib.hid (fun W hW => conv_run (p6 W (HC.out.below (bn HB1.out hW))).1 (by omega))
        have HSE : Hid (∀ W, Below w1.heap.size w1 W → Calls Tryd.prog 49 #[.slice A5 N5 C5] W fun e w' => ∃ A C, e = .returned (.slice A 8 C) ∧ (convert 33 9 (.slice A 8 C)).run Tryd.prog w' = .ok (.string (strOfNums (numB (fnv 14695981039346656037 ((l.drop a).take N5)) 8))) w' ∧ Below W.heap.size W w') := Lib.hid (fun W hW => by
          refine (seal_c _ _ W (HP5.out W (HC.out.below (bn HB1.out hW))).1 (by rw [List.length_take, List.length_drop]; omega)).mono ?_
          rintro e w' ⟨v, rfl, h1, h2⟩
          obtain ⟨A, C, rfl, _⟩ := h1.nl.form
          rw [numB_len] at h1 ⊢
          exact ⟨A, C, rfl, conv_run h1.nl (by rw [numB_len]; decide), h2⟩)
        have hsame := seal_same hm8 hom (fnv_u64 ((l.drop a).take N5) _ begin_u64)
        rw [← hN5'] at HX
        rw [List.drop_drop, show a + N5 = E by omega, ← hN6'] at HX
        generalize fnv 14695981039346656037 ((l.drop a).take N5) = D at HX HSE hsame
        generalize unB 0 ((l.drop E).take N6) = U at HX hsame
        generalize strOfNums (numB D 8) = S1 at HSE hsame
        generalize strOfNums ((l.drop E).take N6) = S2 at HCV6 hsame
        clear ep5 ep6 p5 p6 hm8 hom HP5
        go_wp2_with fail
        obtain ⟨AD, hAD⟩ : ∃ AD : Option Addr, AD = some ⟨b, o, none⟩ := ⟨_, rfl⟩
        rw [← hAD] at r5 r6 r6b ⊢
        have HAD := Lib.hid hAD
        have HE := Lib.hid hE
        clear f2 hE8 hw8 hE' hAD hN5 hN5' hN6 hN6' hE hN9 ep9 p9
        have HN9 := Lib.hid hN9'
        clear hN9'
        have hcv6 := HCV6.out w1.drew (Below.refl _ _).drew
        first
        | (go_region_with (first | (go_at_call 49; refine (HSE.out _ (by first | assumption | exact (Below.refl _ _).drew | exact Below.refl _ _)).mono ?_; rintro e w2 ⟨A7, C7, rfl, hcv7, b2⟩; have b2' : Below w1.heap.size w1 w2 := bn (by first | assumption | exact (Below.refl _ _).drew | exact Below.refl _ _) b2; have hcv6b := HCV6.out w2 b2'; clear b2)))
        | fail
        all_goals
          have hAD := HAD.out
          subst hAD
          have HB2 : Hid (Below w.heap.size w w2) := Lib.hid (bn HB1.out b2')
          have C12 := (b2'.cell (p := ⟨b, o + (a + 1), none⟩) hbl1).trans C1
          have hbl2 : b < w2.heap.size := Nat.lt_of_lt_of_le hbl1 b2'.size
          clear C1 C0 hbl1 hcv6 hcv6b hcv7 r5 r6 r6b b2' HSE HCV6 HB1
          by_cases c4 : U = D
          · have f4 : (!S1.toList == S2.toList) = false := by rw [hsame.2 c4]; simp
            have HF := Lib.hid (HX.out.trans (if_pos ⟨trivial, by omega, d2, c4⟩))
            rw [f4]
            clear c4 hsame HX f4
            go_wp2_with fail
            have HS9 : Hid (∀ W, Below w2.heap.size w2 W → W.cell? ⟨b, o + (a + 1), none⟩ = some (.int .u8 x1)) := Lib.hid (fun W hW => (hW.cell (p := ⟨b, o + (a + 1), none⟩) hbl2).trans C12)
            have HPA : Hid (∀ W, Below w2.heap.size w2 W → Bl W (.slice A9 N9 C9) ((l.drop (a + 4)).take N9)) := Lib.hid (fun W hW => HP9.out W (bn HB2.out hW))
            have hwp : IntKind.i64.wrap ((a : Int) + 1) = (a : Int) + 1 := by rw [IntKind.wrap_i64]; omega
            clear HP9
            go_region_held3 (fun W => W.cell? ⟨b, o + (a + 1), none⟩ = some (.int .u8 x1)) (exact HS9.out _ (by first | assumption | exact (Below.refl _ _).drew | exact Below.refl _ _))
              (first | (refine step_bapp rfl _ _ rfl w2.heap.size (.slice none 0 0) (.slice A9 N9 C9) [] ((l.drop (a + 4)).take N9) rfl rfl (BRow.nil _ _) (HPA.out _ (by first | assumption | exact (Below.refl _ _).drew | exact Below.refl _ _)) (by simp; omega) (by exact Nat.le_refl _) ?_; intro Ab Nb Cb w3 hr3 hb3; have b3' : Below w2.heap.size w2 w3 := Below.trans (by first | assumption | exact (Below.refl _ _).drew | exact Below.refl _ _) hb3; clear hb3))
            have HR3 : Hid (BRow w3 w.heap.size (.slice Ab Nb Cb) (((l.drop a).drop 4).take n0)) := Lib.hid (by
              have h := hr3.mono HB2.out.size
              rw [List.nil_append, HN9.out] at h
              rw [List.drop_drop]
              exact h)
            have HB3 : Hid (Below w.heap.size w w3) := Lib.hid (bn HB2.out b3')
            have hx1 : IntKind.i64.wrap x1 = x1 := by rw [IntKind.wrap_i64]; omega
            have hE8 : IntKind.i64.wrap ((E : Int) + 8) = (a : Int) + ((n0 : Int) + 12) := by have := HE.out; rw [IntKind.wrap_i64]; omega
            have HE1 := Lib.hid hx1
            have HE8 := Lib.hid hE8
            clear hr3 b3' hx1 hE8 hwp r9 C12
            go_wp2
            refine bodyPost_ret (results_tmp4 rfl _ _ _) rfl ?_
            show nextT l (a : Int) w (.returned (.tuple #[.int .i64 (IntKind.i64.wrap x1), .slice Ab Nb Cb, .int .i64 (IntKind.i64.wrap ((E : Int) + 8)), .bool true])) w3
            rw [HE1.out, HE8.out]
            exact nextT_yes HF.out (by rw [Int.toNat_natCast]; exact HR3.out) HB3.out
          · have f4 : (!S1.toList == S2.toList) = true := by
              simp only [Bool.not_eq_true', beq_eq_false_iff_ne, ne_eq]
              intro h5
              apply c4
              apply hsame.1
              rw [ByteArray.toList_eq, ByteArray.toList_eq] at h5
              have h7 : S1.data = S2.data := Array.ext' h5
              cases S1; cases S2; simp at h7; rw [h7]
            have HF := Lib.hid (HX.out.trans (if_neg (fun h => c4 h.2.2.2)))
            rw [f4]
            clear c4 hsame HX f4
            go_wp2
            refine bodyPost_ret (results_tmp4 rfl _ _ _) rfl ?_
            exact nextT_no HF.out HB2.out

      · have f2 : decide ((l.length : Int) - (a : Int) < (n0 : Int) + 12) = true := by simp; omega
        have HF := Lib.hid (HX.out.trans (if_neg (by omega)))
        go_wp2
        refine bodyPost_ret (results_tmp4 rfl _ _ _) rfl ?_
        exact nextT_no HF.out HB1.out
  · have f0 : (x0 != 71) = true := by simpa using d0
    have HF := Lib.hid (HX.out.trans (if_neg (by omega)))
    go_wp2
    refine bodyPost_ret (results_tmp4 rfl _ _ _) rfl ?_
    exact nextT_no HF.out HB1.out

theorem rnext_c (l : List Int) (v : Value) (a : Int) (w : World) (h : Bc w v l) (ho : OkB l) (hl : l.length ≤ 1000000) :
    Calls Tryd.prog 25 #[v, .int .i64 a] w (nextT l a w) := by
  obtain ⟨ad, cap, rfl, hcap⟩ := h.2
  by_cases h0 : a < 0 ∨ (l.length : Int) < a
  · exact rnext_out l ad cap a w h0
  · obtain ⟨a, rfl⟩ := Int.eq_ofNat_of_zero_le (show 0 ≤ a by omega)
    by_cases h4 : l.length < a + 4
    · exact rnext_short l ad cap a w (by omega) h4 hl
    · obtain ⟨ad', cap', e, hb⟩ := h.1.form
      simp only [Value.slice.injEq] at e
      obtain ⟨rfl, _, rfl⟩ := e
      obtain ⟨b, o, rfl, hby⟩ := hb (by omega)
      exact rnext_long l b o cap a w h hby ho (by omega) hcap hl
end Go.Proofs.YtcnpckdchjjeoaaDoor
