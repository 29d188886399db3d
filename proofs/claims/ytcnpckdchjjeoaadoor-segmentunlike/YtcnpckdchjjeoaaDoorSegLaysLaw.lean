/-
  SegmentLays, by contract.
-/
import Derived.Test.YtcnpckdchjjeoaaDoorSegAwake
import Derived.Test.YtcnpckdchjjeoaaDoorSegRefLay
namespace Go.Proofs.YtcnpckdchjjeoaaDoor
open Go.RowKit Go.Lib
set_option maxRecDepth 100000

/-- Whether two entries are the same, as the law asks it. -/
def askE (d e : En) : Bool := (d.k == e.k) && (sameR d.r e.r && (sameB d.v e.v && sameB d.w e.w))
theorem askE_same (d e : En) : (sameE d e == askE d e) = true := by
  unfold sameE askE
  cases (d.k == e.k) <;> cases sameB d.v e.v <;> cases sameB d.w e.w <;> cases sameR d.r e.r <;> rfl
theorem greatE_lens {e : En} (h : greatE e = false) : e.v.length ≤ 20 ∧ e.w.length ≤ 20 := by
  unfold greatE at h
  simp only [Bool.or_eq_false_iff, decide_eq_false_iff_not] at h
  omega

set_option maxHeartbeats 8000000 in
theorem lays_law (e f : En) (a b a' b' : Value) (n : Int) (w : World) (ha : Nl w a e.v) (hb : Nl w b e.w) (ha' : Nl w a' f.v) (hb' : Nl w b' f.w) (hs : e.r.t.size ≤ 9223372036854775807) (hT : Tabs w) :
    Calls Tryd.prog 3 #[.agg #[.int .i64 e.k, a, b, .int .i64 e.r.o, .int .i64 e.r.s, .int .i64 e.r.w, .int .i64 e.r.c, .string e.r.t], .agg #[.int .i64 f.k, a', b', .int .i64 f.r.o, .int .i64 f.r.s, .int .i64 f.r.w, .int .i64 f.r.c, .string f.r.t], .int .i64 n] w fun x w' => x = .returned (.bool true) ∧ Below w.heap.size w w' := by
  obtain ⟨W2, hW2⟩ : ∃ W2, W2 = (w.alloc (.cells #[.int .i64 e.k, a, b, .int .i64 e.r.o, .int .i64 e.r.s, .int .i64 e.r.w, .int .i64 e.r.c, .string e.r.t] 30)).alloc (.cells #[.int .i64 f.k, a', b', .int .i64 f.r.o, .int .i64 f.r.s, .int .i64 f.r.w, .int .i64 f.r.c, .string f.r.t] 30) := ⟨_, rfl⟩
  have HB2 : Hid (Below w.heap.size w W2) := Lib.hid (by rw [hW2]; exact below_two _ _ _)
  have HX2 : Hid (Bx 30 W2 w.heap.size #[.int .i64 e.k, a, b, .int .i64 e.r.o, .int .i64 e.r.s, .int .i64 e.r.w, .int .i64 e.r.c, .string e.r.t]) := Lib.hid (by rw [hW2]; exact (Bx.new _ _ _).alloc _)
  have HY2 : Hid (Bx 30 W2 (w.heap.size + 1) #[.int .i64 f.k, a', b', .int .i64 f.r.o, .int .i64 f.r.s, .int .i64 f.r.w, .int .i64 f.r.c, .string f.r.t]) := Lib.hid (by rw [hW2]; have := Bx.new 30 (w.alloc (.cells #[.int .i64 e.k, a, b, .int .i64 e.r.o, .int .i64 e.r.s, .int .i64 e.r.w, .int .i64 e.r.c, .string e.r.t] 30)) #[.int .i64 f.k, a', b', .int .i64 f.r.o, .int .i64 f.r.s, .int .i64 f.r.w, .int .i64 f.r.c, .string f.r.t]; simpa using this)
  have hz2 : W2.heap.size = w.heap.size + 2 := by rw [hW2]; simp
  have HT := Lib.hid hT
  have HA := Lib.hid ha
  have HBB := Lib.hid hb
  have HA' := Lib.hid ha'
  have HBB' := Lib.hid hb'
  have CG1 := Lib.hid (great_c e a b W2 (ha.below HB2.out) (hb.below HB2.out))
  have CG2 : Hid (∀ W, Below W2.heap.size W2 W → Calls Tryd.prog 7 #[.agg #[.int .i64 f.k, a', b', .int .i64 f.r.o, .int .i64 f.r.s, .int .i64 f.r.w, .int .i64 f.r.c, .string f.r.t]] W fun x w' => x = .returned (.bool (greatE f)) ∧ Below W.heap.size W w') := Lib.hid (fun W hW => great_c f a' b' W (ha'.below (bn HB2.out hW)) (hb'.below (bn HB2.out hW)))
  obtain ⟨ad1, cap1, rfl, _⟩ := ha.form
  obtain ⟨ad2, cap2, rfl, _⟩ := hb.form
  obtain ⟨ad3, cap3, rfl, _⟩ := ha'.form
  obtain ⟨ad4, cap4, rfl, _⟩ := hb'.form
  clear ha hb ha' hb' hT
  cases hg1 : greatE e with
  | true =>
    rw [hg1] at CG1
    clear hg1
    go_enter Tryd.func3, Tryd.ntmps3
    go_wp2_with fail
    rw [← hW2]
    refine CG1.out.mono ?_
    rintro x w3 ⟨rfl, b3⟩
    have HB3 := Lib.hid (bn HB2.out b3)
    clear b3
    go_wp2_with fail
    refine (awake_c w3 (HT.out.below HB3.out)).mono ?_
    rintro x w4 ⟨rfl, b4⟩
    go_wp2
    go_ret
    exact ⟨rfl, bn HB3.out b4⟩
  | false =>
    rw [hg1] at CG1
    obtain ⟨lv, lw⟩ := greatE_lens hg1
    clear hg1
    go_enter Tryd.func3, Tryd.ntmps3
    go_wp2_with fail
    rw [← hW2]
    refine CG1.out.mono ?_
    rintro x w3 ⟨rfl, b3⟩
    have C2 := Lib.hid (CG2.out _ b3)
    have hx3 := HX2.out.below b3
    have hy3 := HY2.out.below b3
    have HX3 := Lib.hid hx3
    have HY3 := Lib.hid hy3
    have HB3 := Lib.hid (bn HB2.out b3)
    have hz3 := b3.size
    clear CG1 CG2 b3
    have hlx := hx3.lt
    have hly := hy3.lt
    obtain ⟨c0, c1, c2, c3, c4, c5, c6, c7⟩ := hx3.eight
    obtain ⟨d0, d1, d2, d3, d4, d5, d6, d7⟩ := hy3.eight
    cases hg2 : greatE f with
    | true =>
      rw [hg2] at C2
      clear hg2
      go_wp2_with fail
      refine C2.out.mono ?_
      rintro x w4 ⟨rfl, b4⟩
      have HB4 := Lib.hid (bn HB3.out b4)
      clear b4
      go_wp2_with fail
      refine (awake_c w4 (HT.out.below HB4.out)).mono ?_
      rintro x w5 ⟨rfl, b5⟩
      go_wp2
      go_ret
      exact ⟨rfl, bn HB4.out b5⟩
    | false =>
      rw [hg2] at C2
      obtain ⟨lv', lw'⟩ := greatE_lens hg2
      clear hg2
      go_wp2_with fail
      refine C2.out.mono ?_
      rintro x w4 ⟨rfl, b4⟩
      have HX4 := Lib.hid (HX3.out.below b4)
      have HY4 := Lib.hid (HY3.out.below b4)
      have HB4 := Lib.hid (bn HB3.out b4)
      have hz4 := b4.size
      clear b4 hx3 hy3 c0 c1 c2 c3 c4 c5 c6 c7 d0 d1 d2 d3 d4 d5 d6 d7 hlx hly C2 HX3 HY3
      have CL : Hid (∀ W, Below w.heap.size w W → Calls Tryd.prog 9 #[.agg #[.int .i64 e.k, .slice ad1 e.v.length cap1, .slice ad2 e.w.length cap2, .int .i64 e.r.o, .int .i64 e.r.s, .int .i64 e.r.w, .int .i64 e.r.c, .string e.r.t]] W (layeT e W)) := Lib.hid (fun W hW => laye_c e _ _ W (HA.out.below hW) (HBB.out.below hW) (by omega) (by omega) hs (HT.out.below hW))
      have CRL : Hid (∀ W, Below w.heap.size w W → Calls Tryd.prog 10 #[.agg #[.int .i64 e.k, .slice ad1 e.v.length cap1, .slice ad2 e.w.length cap2, .int .i64 e.r.o, .int .i64 e.r.s, .int .i64 e.r.w, .int .i64 e.r.c, .string e.r.t]] W (layeT e W)) := Lib.hid (fun W hW => reflaye_c e _ _ W (HA.out.below hW) (HBB.out.below hW) (by omega) (by omega) hs (HT.out.below hW))
      unfold layeT at CL CRL
      have hlen : (if someE e = true then layE e else []).length ≤ 1000000 := by
        split
        · rename_i h
          rw [layE_len]
          have := bodyE_len h
          omega
        · simp
      generalize (if someE e = true then layE e else []) = LB at CL CRL hlen
      generalize hER : (if someE e = true then (0 : Int) else 2) = ER at CL CRL
      have eER : (ER == ER) = true := by simp
      clear hER
      have hlx := HX4.out.lt
      have hly := HY4.out.lt
      obtain ⟨c0, c1, c2, c3, c4, c5, c6, c7⟩ := HX4.out.eight
      go_wp2_with fail
      refine (CL.out _ HB4.out).mono ?_
      rintro x w5 ⟨v5, rfl, h5, b5⟩
      have HR5 := Lib.hid h5
      obtain ⟨ad5, cap5, rfl, _⟩ := h5.nl.form
      have HX5 := Lib.hid (HX4.out.below b5)
      have HY5 := Lib.hid (HY4.out.below b5)
      have HB5 := Lib.hid (bn HB4.out b5)
      have hz5 := b5.size
      have HR5w := HR5.out
      clear h5 b5 c0 c1 c2 c3 c4 c5 c6 c7 hlx hly HX4 HY4
      have hlx := HX5.out.lt
      have hly := HY5.out.lt
      obtain ⟨c0, c1, c2, c3, c4, c5, c6, c7⟩ := HX5.out.eight
      go_wp2_with fail
      refine (CRL.out _ HB5.out).mono ?_
      rintro x w6 ⟨v6, rfl, h6, b6⟩
      have HR6 := Lib.hid h6
      obtain ⟨ad6, cap6, rfl, _⟩ := h6.nl.form
      have HX6 := Lib.hid (HX5.out.below b6)
      have HY6 := Lib.hid (HY5.out.below b6)
      have HB6 := Lib.hid (bn HB5.out b6)
      have HR5' := Lib.hid (HR5.out.below b6)
      have hz6 := b6.size
      clear h6 b6 c0 c1 c2 c3 c4 c5 c6 c7 hlx hly HX5 HY5 HR5 CRL
      have q := eq_rec e.r f.r
      have hask := askE_same e f
      unfold askE at hask
      generalize hKK : (e.k == f.k) = KK at hask
      have C1 : Hid (∀ W, Below w.heap.size w W → Calls Tryd.prog 11 #[.slice ad1 e.v.length cap1, .slice ad3 f.v.length cap3] W fun x w' => x = .returned (.bool (sameB e.v f.v)) ∧ Below W.heap.size W w') := Lib.hid (fun W hW => same_c e.v f.v _ _ W (HA.out.below hW) (HA'.out.below hW) (by omega))
      have C2 : Hid (∀ W, Below w.heap.size w W → Calls Tryd.prog 11 #[.slice ad2 e.w.length cap2, .slice ad4 f.w.length cap4] W fun x w' => x = .returned (.bool (sameB e.w f.w)) ∧ Below W.heap.size W w') := Lib.hid (fun W hW => same_c e.w f.w _ _ W (HBB.out.below hW) (HBB'.out.below hW) (by omega))
      have CSa : Hid (∀ W, Below w.heap.size w W → Calls Tryd.prog 16 #[.agg #[.int .i64 e.k, .slice ad1 e.v.length cap1, .slice ad2 e.w.length cap2, .int .i64 e.r.o, .int .i64 e.r.s, .int .i64 e.r.w, .int .i64 e.r.c, .string e.r.t], .agg #[.int .i64 f.k, .slice ad3 f.v.length cap3, .slice ad4 f.w.length cap4, .int .i64 f.r.o, .int .i64 f.r.s, .int .i64 f.r.w, .int .i64 f.r.c, .string f.r.t]] W fun x w' => x = .returned (.bool (sameE e f)) ∧ Below W.heap.size W w') := Lib.hid (fun W hW => samee_c e f _ _ _ _ W (HA.out.below hW) (HBB.out.below hW) (HA'.out.below hW) (HBB'.out.below hW) (by omega) (by omega))
      have CMa : Hid (∀ W, Below w.heap.size w W → Calls Tryd.prog 14 #[.agg #[.int .i64 e.k, .slice ad1 e.v.length cap1, .slice ad2 e.w.length cap2, .int .i64 e.r.o, .int .i64 e.r.s, .int .i64 e.r.w, .int .i64 e.r.c, .string e.r.t], .int .i64 n] W fun x w' => x = .returned (.bool (mayE e n)) ∧ Below W.heap.size W w') := Lib.hid (fun W hW => maye_c e _ _ n W (HA.out.below hW) (HBB.out.below hW) (by omega) (by omega) hs (HT.out.below hW))
      have CMr : Hid (∀ W, Below w.heap.size w W → Calls Tryd.prog 15 #[.agg #[.int .i64 e.k, .slice ad1 e.v.length cap1, .slice ad2 e.w.length cap2, .int .i64 e.r.o, .int .i64 e.r.s, .int .i64 e.r.w, .int .i64 e.r.c, .string e.r.t], .int .i64 n] W fun x w' => x = .returned (.bool (mayE e n)) ∧ Below W.heap.size W w') := Lib.hid (fun W hW => refmaye_c e _ _ n W (HA.out.below hW) (HBB.out.below hW) (by omega) (by omega) hs (HT.out.below hW))
      generalize mayE e n = MM at CMa CMr
      have eMM : (MM == MM) = true := by simp
      generalize sameE e f = SS at CSa hask
      generalize sameR e.r f.r = RR at q hask
      generalize sameB e.v f.v = VV at C1 hask
      generalize sameB e.w f.w = WW at C2 hask
      have HR5lt := Lib.hid HR5w
      have hlx := HX6.out.lt
      have hly := HY6.out.lt
      obtain ⟨c0, c1, c2, c3, c4, c5, c6, c7⟩ := HX6.out.eight
      obtain ⟨d0, d1, d2, d3, d4, d5, d6, d7⟩ := HY6.out.eight
      cases KK with
      | false =>
        have HASK := Lib.hid (show (SS == false) = true from hask)
        clear hask
        go_wp2_with fail
        clear c0 c1 c2 c3 c4 c5 c6 c7 d0 d1 d2 d3 d4 d5 d6 d7 hlx hly
        have HX6 := HX6.out
        have HY6 := HY6.out
        have HB6 := HB6.out
        have HRa6 := HR5'.out
        have HRb6 := HR6.out
        have HXX := Lib.hid HX6
        have HYX := Lib.hid HY6
        have HBX := Lib.hid HB6
        have HRa := Lib.hid HRa6
        have HRb := Lib.hid HRb6
        have hzX := hz6
        have eS : (SS == false) = true := HASK.out
        have C12 : Hid (∀ W, Below w6.heap.size w6 W → Calls Tryd.prog 12 #[.slice ad5 LB.length cap5, .slice ad6 LB.length cap6] W fun x w' => x = .returned (.bool true) ∧ Below W.heap.size W w') := Lib.hid (fun W hW => by
          have h := bsame_c LB LB _ _ W ((HRa.out.below hW).nl) ((HRb.out.below hW).nl) (by omega)
          rw [sameB_self] at h
          exact h)
        have CNu : Hid (∀ W, Calls Tryd.prog 13 #[.int .i64 ER] W fun x w' => x = .returned (.int .i64 ER) ∧ W = w') := Lib.hid (fun W => num_c ER W)
        have HS : Hid (∀ W : World, Below w6.heap.size w6 W → (W.cell? ⟨w.heap.size, 0, none⟩ = some (.int .i64 e.k) ∧ W.cell? ⟨w.heap.size, 1, none⟩ = some (.slice ad1 e.v.length cap1) ∧ W.cell? ⟨w.heap.size, 2, none⟩ = some (.slice ad2 e.w.length cap2) ∧ W.cell? ⟨w.heap.size, 3, none⟩ = some (.int .i64 e.r.o) ∧ W.cell? ⟨w.heap.size, 4, none⟩ = some (.int .i64 e.r.s) ∧ W.cell? ⟨w.heap.size, 5, none⟩ = some (.int .i64 e.r.w) ∧ W.cell? ⟨w.heap.size, 6, none⟩ = some (.int .i64 e.r.c) ∧ W.cell? ⟨w.heap.size, 7, none⟩ = some (.string e.r.t)) ∧ (W.cell? ⟨w.heap.size + 1, 0, none⟩ = some (.int .i64 f.k) ∧ W.cell? ⟨w.heap.size + 1, 1, none⟩ = some (.slice ad3 f.v.length cap3) ∧ W.cell? ⟨w.heap.size + 1, 2, none⟩ = some (.slice ad4 f.w.length cap4) ∧ W.cell? ⟨w.heap.size + 1, 3, none⟩ = some (.int .i64 f.r.o) ∧ W.cell? ⟨w.heap.size + 1, 4, none⟩ = some (.int .i64 f.r.s) ∧ W.cell? ⟨w.heap.size + 1, 5, none⟩ = some (.int .i64 f.r.w) ∧ W.cell? ⟨w.heap.size + 1, 6, none⟩ = some (.int .i64 f.r.c) ∧ W.cell? ⟨w.heap.size + 1, 7, none⟩ = some (.string f.r.t))) := Lib.hid (fun W hW => ⟨(HXX.out.below hW).eight, (HYX.out.below hW).eight⟩)
        have hlx := HXX.out.lt
        have hly := HYX.out.lt
        go_region_held3 (fun W => (W.cell? ⟨w.heap.size, 0, none⟩ = some (.int .i64 e.k) ∧ W.cell? ⟨w.heap.size, 1, none⟩ = some (.slice ad1 e.v.length cap1) ∧ W.cell? ⟨w.heap.size, 2, none⟩ = some (.slice ad2 e.w.length cap2) ∧ W.cell? ⟨w.heap.size, 3, none⟩ = some (.int .i64 e.r.o) ∧ W.cell? ⟨w.heap.size, 4, none⟩ = some (.int .i64 e.r.s) ∧ W.cell? ⟨w.heap.size, 5, none⟩ = some (.int .i64 e.r.w) ∧ W.cell? ⟨w.heap.size, 6, none⟩ = some (.int .i64 e.r.c) ∧ W.cell? ⟨w.heap.size, 7, none⟩ = some (.string e.r.t)) ∧ (W.cell? ⟨w.heap.size + 1, 0, none⟩ = some (.int .i64 f.k) ∧ W.cell? ⟨w.heap.size + 1, 1, none⟩ = some (.slice ad3 f.v.length cap3) ∧ W.cell? ⟨w.heap.size + 1, 2, none⟩ = some (.slice ad4 f.w.length cap4) ∧ W.cell? ⟨w.heap.size + 1, 3, none⟩ = some (.int .i64 f.r.o) ∧ W.cell? ⟨w.heap.size + 1, 4, none⟩ = some (.int .i64 f.r.s) ∧ W.cell? ⟨w.heap.size + 1, 5, none⟩ = some (.int .i64 f.r.w) ∧ W.cell? ⟨w.heap.size + 1, 6, none⟩ = some (.int .i64 f.r.c) ∧ W.cell? ⟨w.heap.size + 1, 7, none⟩ = some (.string f.r.t))) (exact HS.out _ (by first | assumption | exact (Below.refl _ _).drew | exact Below.refl _ _))
          (first
          | (go_at_call 12; refine (C12.out _ (by first | assumption | exact (Below.refl _ _).drew | exact Below.refl _ _)).mono ?_; rintro x w8 ⟨rfl, b8⟩; have b8' : Below w6.heap.size w6 w8 := bn (by first | assumption | exact (Below.refl _ _).drew | exact Below.refl _ _) b8; clear b8)
          | (go_at_call 13; refine (CNu.out _).mono ?_; rintro x w8 ⟨rfl, rfl⟩)
          | (go_at_call 14; refine (CMa.out _ (bn HBX.out b8')).mono ?_; rintro x w8 ⟨rfl, b8⟩; have b8' : Below w6.heap.size w6 w8 := bn (by assumption) b8; clear b8)
          | (go_at_call 15; refine (CMr.out _ (bn HBX.out b8')).mono ?_; rintro x w8 ⟨rfl, b8⟩; have b8' : Below w6.heap.size w6 w8 := bn (by assumption) b8; clear b8)
          | (go_at_call 16; refine (CSa.out _ (bn HBX.out b8')).mono ?_; rintro x w8 ⟨rfl, b8⟩; have b8' : Below w6.heap.size w6 w8 := bn (by assumption) b8; clear b8)
          | fail)
        have HB8 := Lib.hid (bn HBX.out b8')
        have HR8 := Lib.hid (HRa.out.below b8')
        have HQ8 := Lib.hid (HRb.out.below b8')
        have HX8 := Lib.hid (HXX.out.below b8')
        have hz8 := b8'.size
        clear b8' C12 CNu HS hlx hly
        have CO := Lib.hid (bover_c LB _ w8 w4.heap.size HR8.out (by omega) (by omega))
        go_wp2_with fail
        refine CO.out.mono ?_
        rintro x w9 ⟨rfl, g9⟩
        have HB9 := Lib.hid (HB8.out.trans (below_of_grown g9 HB8.out.size (fun i hi => by have := (World.ownsRow.lt HR8.out i hi).1; omega)))
        have HQ9 := Lib.hid (HQ8.out.far g9 (by
          rintro i hi i' hi' rfl
          have := (World.ownsRow.lt HR5lt.out i hi).2
          have := (World.ownsRow.lt HQ8.out i hi').1
          omega))
        have HX9 := Lib.hid (HX8.out.far g9 (fun hi => by have := (World.ownsRow.lt HR8.out w.heap.size hi.symm).1; omega))
        clear g9 CO
        have hlx := HX9.out.lt
        obtain ⟨c0, c1, c2, c3, c4, c5, c6, c7⟩ := HX9.out.eight
        go_wp2_with fail
        refine (CL.out _ HB9.out).mono ?_
        rintro x w10 ⟨v10, rfl, h10, b10⟩
        have HR10 := Lib.hid h10
        obtain ⟨ad10, cap10, rfl, _⟩ := h10.nl.form
        have HB10 := Lib.hid (bn HB9.out b10)
        have HC10 := Lib.hid (bsame_c LB LB _ _ w10 HR10.out.nl ((HQ9.out.below b10).nl) (by omega))
        rw [sameB_self] at HC10
        clear h10 b10 c0 c1 c2 c3 c4 c5 c6 c7 hlx
        go_wp2_with fail
        refine HC10.out.mono ?_
        rintro x w11 ⟨rfl, b11⟩
        have HB11 := Lib.hid (bn HB10.out b11)
        clear b11
        go_wp2_with fail
        refine (awake_c w11 (HT.out.below HB11.out)).mono ?_
        rintro x w12 ⟨rfl, b12⟩
        go_wp2
        go_ret
        exact ⟨rfl, bn HB11.out b12⟩
      | true =>
        cases RR with
        | false =>
          have HASK := Lib.hid (show (SS == false) = true from hask)
          clear hask
          go_wp2_with fail
          clear c0 c1 c2 c3 c4 c5 c6 c7 d0 d1 d2 d3 d4 d5 d6 d7 hlx hly
          have HX6 := HX6.out
          have HY6 := HY6.out
          have HB6 := HB6.out
          have HRa6 := HR5'.out
          have HRb6 := HR6.out
          have HXX := Lib.hid HX6
          have HYX := Lib.hid HY6
          have HBX := Lib.hid HB6
          have HRa := Lib.hid HRa6
          have HRb := Lib.hid HRb6
          have hzX := hz6
          have eS : (SS == false) = true := HASK.out
          have C12 : Hid (∀ W, Below w6.heap.size w6 W → Calls Tryd.prog 12 #[.slice ad5 LB.length cap5, .slice ad6 LB.length cap6] W fun x w' => x = .returned (.bool true) ∧ Below W.heap.size W w') := Lib.hid (fun W hW => by
            have h := bsame_c LB LB _ _ W ((HRa.out.below hW).nl) ((HRb.out.below hW).nl) (by omega)
            rw [sameB_self] at h
            exact h)
          have CNu : Hid (∀ W, Calls Tryd.prog 13 #[.int .i64 ER] W fun x w' => x = .returned (.int .i64 ER) ∧ W = w') := Lib.hid (fun W => num_c ER W)
          have HS : Hid (∀ W : World, Below w6.heap.size w6 W → (W.cell? ⟨w.heap.size, 0, none⟩ = some (.int .i64 e.k) ∧ W.cell? ⟨w.heap.size, 1, none⟩ = some (.slice ad1 e.v.length cap1) ∧ W.cell? ⟨w.heap.size, 2, none⟩ = some (.slice ad2 e.w.length cap2) ∧ W.cell? ⟨w.heap.size, 3, none⟩ = some (.int .i64 e.r.o) ∧ W.cell? ⟨w.heap.size, 4, none⟩ = some (.int .i64 e.r.s) ∧ W.cell? ⟨w.heap.size, 5, none⟩ = some (.int .i64 e.r.w) ∧ W.cell? ⟨w.heap.size, 6, none⟩ = some (.int .i64 e.r.c) ∧ W.cell? ⟨w.heap.size, 7, none⟩ = some (.string e.r.t)) ∧ (W.cell? ⟨w.heap.size + 1, 0, none⟩ = some (.int .i64 f.k) ∧ W.cell? ⟨w.heap.size + 1, 1, none⟩ = some (.slice ad3 f.v.length cap3) ∧ W.cell? ⟨w.heap.size + 1, 2, none⟩ = some (.slice ad4 f.w.length cap4) ∧ W.cell? ⟨w.heap.size + 1, 3, none⟩ = some (.int .i64 f.r.o) ∧ W.cell? ⟨w.heap.size + 1, 4, none⟩ = some (.int .i64 f.r.s) ∧ W.cell? ⟨w.heap.size + 1, 5, none⟩ = some (.int .i64 f.r.w) ∧ W.cell? ⟨w.heap.size + 1, 6, none⟩ = some (.int .i64 f.r.c) ∧ W.cell? ⟨w.heap.size + 1, 7, none⟩ = some (.string f.r.t))) := Lib.hid (fun W hW => ⟨(HXX.out.below hW).eight, (HYX.out.below hW).eight⟩)
          have hlx := HXX.out.lt
          have hly := HYX.out.lt
          go_region_held3 (fun W => (W.cell? ⟨w.heap.size, 0, none⟩ = some (.int .i64 e.k) ∧ W.cell? ⟨w.heap.size, 1, none⟩ = some (.slice ad1 e.v.length cap1) ∧ W.cell? ⟨w.heap.size, 2, none⟩ = some (.slice ad2 e.w.length cap2) ∧ W.cell? ⟨w.heap.size, 3, none⟩ = some (.int .i64 e.r.o) ∧ W.cell? ⟨w.heap.size, 4, none⟩ = some (.int .i64 e.r.s) ∧ W.cell? ⟨w.heap.size, 5, none⟩ = some (.int .i64 e.r.w) ∧ W.cell? ⟨w.heap.size, 6, none⟩ = some (.int .i64 e.r.c) ∧ W.cell? ⟨w.heap.size, 7, none⟩ = some (.string e.r.t)) ∧ (W.cell? ⟨w.heap.size + 1, 0, none⟩ = some (.int .i64 f.k) ∧ W.cell? ⟨w.heap.size + 1, 1, none⟩ = some (.slice ad3 f.v.length cap3) ∧ W.cell? ⟨w.heap.size + 1, 2, none⟩ = some (.slice ad4 f.w.length cap4) ∧ W.cell? ⟨w.heap.size + 1, 3, none⟩ = some (.int .i64 f.r.o) ∧ W.cell? ⟨w.heap.size + 1, 4, none⟩ = some (.int .i64 f.r.s) ∧ W.cell? ⟨w.heap.size + 1, 5, none⟩ = some (.int .i64 f.r.w) ∧ W.cell? ⟨w.heap.size + 1, 6, none⟩ = some (.int .i64 f.r.c) ∧ W.cell? ⟨w.heap.size + 1, 7, none⟩ = some (.string f.r.t))) (exact HS.out _ (by first | assumption | exact (Below.refl _ _).drew | exact Below.refl _ _))
            (first
            | (go_at_call 12; refine (C12.out _ (by first | assumption | exact (Below.refl _ _).drew | exact Below.refl _ _)).mono ?_; rintro x w8 ⟨rfl, b8⟩; have b8' : Below w6.heap.size w6 w8 := bn (by first | assumption | exact (Below.refl _ _).drew | exact Below.refl _ _) b8; clear b8)
            | (go_at_call 13; refine (CNu.out _).mono ?_; rintro x w8 ⟨rfl, rfl⟩)
            | (go_at_call 14; refine (CMa.out _ (bn HBX.out b8')).mono ?_; rintro x w8 ⟨rfl, b8⟩; have b8' : Below w6.heap.size w6 w8 := bn (by assumption) b8; clear b8)
            | (go_at_call 15; refine (CMr.out _ (bn HBX.out b8')).mono ?_; rintro x w8 ⟨rfl, b8⟩; have b8' : Below w6.heap.size w6 w8 := bn (by assumption) b8; clear b8)
            | (go_at_call 16; refine (CSa.out _ (bn HBX.out b8')).mono ?_; rintro x w8 ⟨rfl, b8⟩; have b8' : Below w6.heap.size w6 w8 := bn (by assumption) b8; clear b8)
            | fail)
          have HB8 := Lib.hid (bn HBX.out b8')
          have HR8 := Lib.hid (HRa.out.below b8')
          have HQ8 := Lib.hid (HRb.out.below b8')
          have HX8 := Lib.hid (HXX.out.below b8')
          have hz8 := b8'.size
          clear b8' C12 CNu HS hlx hly
          have CO := Lib.hid (bover_c LB _ w8 w4.heap.size HR8.out (by omega) (by omega))
          go_wp2_with fail
          refine CO.out.mono ?_
          rintro x w9 ⟨rfl, g9⟩
          have HB9 := Lib.hid (HB8.out.trans (below_of_grown g9 HB8.out.size (fun i hi => by have := (World.ownsRow.lt HR8.out i hi).1; omega)))
          have HQ9 := Lib.hid (HQ8.out.far g9 (by
            rintro i hi i' hi' rfl
            have := (World.ownsRow.lt HR5lt.out i hi).2
            have := (World.ownsRow.lt HQ8.out i hi').1
            omega))
          have HX9 := Lib.hid (HX8.out.far g9 (fun hi => by have := (World.ownsRow.lt HR8.out w.heap.size hi.symm).1; omega))
          clear g9 CO
          have hlx := HX9.out.lt
          obtain ⟨c0, c1, c2, c3, c4, c5, c6, c7⟩ := HX9.out.eight
          go_wp2_with fail
          refine (CL.out _ HB9.out).mono ?_
          rintro x w10 ⟨v10, rfl, h10, b10⟩
          have HR10 := Lib.hid h10
          obtain ⟨ad10, cap10, rfl, _⟩ := h10.nl.form
          have HB10 := Lib.hid (bn HB9.out b10)
          have HC10 := Lib.hid (bsame_c LB LB _ _ w10 HR10.out.nl ((HQ9.out.below b10).nl) (by omega))
          rw [sameB_self] at HC10
          clear h10 b10 c0 c1 c2 c3 c4 c5 c6 c7 hlx
          go_wp2_with fail
          refine HC10.out.mono ?_
          rintro x w11 ⟨rfl, b11⟩
          have HB11 := Lib.hid (bn HB10.out b11)
          clear b11
          go_wp2_with fail
          refine (awake_c w11 (HT.out.below HB11.out)).mono ?_
          rintro x w12 ⟨rfl, b12⟩
          go_wp2
          go_ret
          exact ⟨rfl, bn HB11.out b12⟩
        | true =>
          go_wp2_with fail
          refine (C1.out _ HB6.out).mono ?_
          rintro x w13 ⟨rfl, b13⟩
          have HX13 := HX6.out.below b13
          have HY13 := HY6.out.below b13
          have HB13 := bn HB6.out b13
          have HRa13 := HR5'.out.below b13
          have HRb13 := HR6.out.below b13
          have hz13 : w6.heap.size ≤ w13.heap.size := b13.size
          clear b13 c0 c1 c2 c3 c4 c5 c6 c7 d0 d1 d2 d3 d4 d5 d6 d7 hlx hly HX6 HY6 HB6 HR5' HR6
          cases VV with
          | false =>
            have HASK := Lib.hid (show (SS == false) = true from hask)
            clear hask
            have HXX := Lib.hid HX13
            have HYX := Lib.hid HY13
            have HBX := Lib.hid HB13
            have HRa := Lib.hid HRa13
            have HRb := Lib.hid HRb13
            have hzX := hz13
            have eS : (SS == false) = true := HASK.out
            have C12 : Hid (∀ W, Below w13.heap.size w13 W → Calls Tryd.prog 12 #[.slice ad5 LB.length cap5, .slice ad6 LB.length cap6] W fun x w' => x = .returned (.bool true) ∧ Below W.heap.size W w') := Lib.hid (fun W hW => by
              have h := bsame_c LB LB _ _ W ((HRa.out.below hW).nl) ((HRb.out.below hW).nl) (by omega)
              rw [sameB_self] at h
              exact h)
            have CNu : Hid (∀ W, Calls Tryd.prog 13 #[.int .i64 ER] W fun x w' => x = .returned (.int .i64 ER) ∧ W = w') := Lib.hid (fun W => num_c ER W)
            have HS : Hid (∀ W : World, Below w13.heap.size w13 W → (W.cell? ⟨w.heap.size, 0, none⟩ = some (.int .i64 e.k) ∧ W.cell? ⟨w.heap.size, 1, none⟩ = some (.slice ad1 e.v.length cap1) ∧ W.cell? ⟨w.heap.size, 2, none⟩ = some (.slice ad2 e.w.length cap2) ∧ W.cell? ⟨w.heap.size, 3, none⟩ = some (.int .i64 e.r.o) ∧ W.cell? ⟨w.heap.size, 4, none⟩ = some (.int .i64 e.r.s) ∧ W.cell? ⟨w.heap.size, 5, none⟩ = some (.int .i64 e.r.w) ∧ W.cell? ⟨w.heap.size, 6, none⟩ = some (.int .i64 e.r.c) ∧ W.cell? ⟨w.heap.size, 7, none⟩ = some (.string e.r.t)) ∧ (W.cell? ⟨w.heap.size + 1, 0, none⟩ = some (.int .i64 f.k) ∧ W.cell? ⟨w.heap.size + 1, 1, none⟩ = some (.slice ad3 f.v.length cap3) ∧ W.cell? ⟨w.heap.size + 1, 2, none⟩ = some (.slice ad4 f.w.length cap4) ∧ W.cell? ⟨w.heap.size + 1, 3, none⟩ = some (.int .i64 f.r.o) ∧ W.cell? ⟨w.heap.size + 1, 4, none⟩ = some (.int .i64 f.r.s) ∧ W.cell? ⟨w.heap.size + 1, 5, none⟩ = some (.int .i64 f.r.w) ∧ W.cell? ⟨w.heap.size + 1, 6, none⟩ = some (.int .i64 f.r.c) ∧ W.cell? ⟨w.heap.size + 1, 7, none⟩ = some (.string f.r.t))) := Lib.hid (fun W hW => ⟨(HXX.out.below hW).eight, (HYX.out.below hW).eight⟩)
            have hlx := HXX.out.lt
            have hly := HYX.out.lt
            go_wp2_with fail
            go_region_held3 (fun W => (W.cell? ⟨w.heap.size, 0, none⟩ = some (.int .i64 e.k) ∧ W.cell? ⟨w.heap.size, 1, none⟩ = some (.slice ad1 e.v.length cap1) ∧ W.cell? ⟨w.heap.size, 2, none⟩ = some (.slice ad2 e.w.length cap2) ∧ W.cell? ⟨w.heap.size, 3, none⟩ = some (.int .i64 e.r.o) ∧ W.cell? ⟨w.heap.size, 4, none⟩ = some (.int .i64 e.r.s) ∧ W.cell? ⟨w.heap.size, 5, none⟩ = some (.int .i64 e.r.w) ∧ W.cell? ⟨w.heap.size, 6, none⟩ = some (.int .i64 e.r.c) ∧ W.cell? ⟨w.heap.size, 7, none⟩ = some (.string e.r.t)) ∧ (W.cell? ⟨w.heap.size + 1, 0, none⟩ = some (.int .i64 f.k) ∧ W.cell? ⟨w.heap.size + 1, 1, none⟩ = some (.slice ad3 f.v.length cap3) ∧ W.cell? ⟨w.heap.size + 1, 2, none⟩ = some (.slice ad4 f.w.length cap4) ∧ W.cell? ⟨w.heap.size + 1, 3, none⟩ = some (.int .i64 f.r.o) ∧ W.cell? ⟨w.heap.size + 1, 4, none⟩ = some (.int .i64 f.r.s) ∧ W.cell? ⟨w.heap.size + 1, 5, none⟩ = some (.int .i64 f.r.w) ∧ W.cell? ⟨w.heap.size + 1, 6, none⟩ = some (.int .i64 f.r.c) ∧ W.cell? ⟨w.heap.size + 1, 7, none⟩ = some (.string f.r.t))) (exact HS.out _ (by first | assumption | exact (Below.refl _ _).drew | exact Below.refl _ _))
              (first
              | (go_at_call 12; refine (C12.out _ (by first | assumption | exact (Below.refl _ _).drew | exact Below.refl _ _)).mono ?_; rintro x w8 ⟨rfl, b8⟩; have b8' : Below w13.heap.size w13 w8 := bn (by first | assumption | exact (Below.refl _ _).drew | exact Below.refl _ _) b8; clear b8)
              | (go_at_call 13; refine (CNu.out _).mono ?_; rintro x w8 ⟨rfl, rfl⟩)
              | (go_at_call 14; refine (CMa.out _ (bn HBX.out b8')).mono ?_; rintro x w8 ⟨rfl, b8⟩; have b8' : Below w13.heap.size w13 w8 := bn (by assumption) b8; clear b8)
              | (go_at_call 15; refine (CMr.out _ (bn HBX.out b8')).mono ?_; rintro x w8 ⟨rfl, b8⟩; have b8' : Below w13.heap.size w13 w8 := bn (by assumption) b8; clear b8)
              | (go_at_call 16; refine (CSa.out _ (bn HBX.out b8')).mono ?_; rintro x w8 ⟨rfl, b8⟩; have b8' : Below w13.heap.size w13 w8 := bn (by assumption) b8; clear b8)
              | fail)
            have HB8 := Lib.hid (bn HBX.out b8')
            have HR8 := Lib.hid (HRa.out.below b8')
            have HQ8 := Lib.hid (HRb.out.below b8')
            have HX8 := Lib.hid (HXX.out.below b8')
            have hz8 := b8'.size
            clear b8' C12 CNu HS hlx hly
            have CO := Lib.hid (bover_c LB _ w8 w4.heap.size HR8.out (by omega) (by omega))
            go_wp2_with fail
            refine CO.out.mono ?_
            rintro x w9 ⟨rfl, g9⟩
            have HB9 := Lib.hid (HB8.out.trans (below_of_grown g9 HB8.out.size (fun i hi => by have := (World.ownsRow.lt HR8.out i hi).1; omega)))
            have HQ9 := Lib.hid (HQ8.out.far g9 (by
              rintro i hi i' hi' rfl
              have := (World.ownsRow.lt HR5lt.out i hi).2
              have := (World.ownsRow.lt HQ8.out i hi').1
              omega))
            have HX9 := Lib.hid (HX8.out.far g9 (fun hi => by have := (World.ownsRow.lt HR8.out w.heap.size hi.symm).1; omega))
            clear g9 CO
            have hlx := HX9.out.lt
            obtain ⟨c0, c1, c2, c3, c4, c5, c6, c7⟩ := HX9.out.eight
            go_wp2_with fail
            refine (CL.out _ HB9.out).mono ?_
            rintro x w10 ⟨v10, rfl, h10, b10⟩
            have HR10 := Lib.hid h10
            obtain ⟨ad10, cap10, rfl, _⟩ := h10.nl.form
            have HB10 := Lib.hid (bn HB9.out b10)
            have HC10 := Lib.hid (bsame_c LB LB _ _ w10 HR10.out.nl ((HQ9.out.below b10).nl) (by omega))
            rw [sameB_self] at HC10
            clear h10 b10 c0 c1 c2 c3 c4 c5 c6 c7 hlx
            go_wp2_with fail
            refine HC10.out.mono ?_
            rintro x w11 ⟨rfl, b11⟩
            have HB11 := Lib.hid (bn HB10.out b11)
            clear b11
            go_wp2_with fail
            refine (awake_c w11 (HT.out.below HB11.out)).mono ?_
            rintro x w12 ⟨rfl, b12⟩
            go_wp2
            go_ret
            exact ⟨rfl, bn HB11.out b12⟩
          | true =>
            have HASK0 := Lib.hid (show (SS == WW) = true from hask)
            have hlx := HX13.lt
            have hly := HY13.lt
            obtain ⟨c0, c1, c2, c3, c4, c5, c6, c7⟩ := HX13.eight
            obtain ⟨d0, d1, d2, d3, d4, d5, d6, d7⟩ := HY13.eight
            clear hask
            go_wp2_with fail
            refine (C2.out _ HB13).mono ?_
            rintro x w14 ⟨rfl, b14⟩
            have HX14 := HX13.below b14
            have HY14 := HY13.below b14
            have HB14 := bn HB13 b14
            have HRa14 := HRa13.below b14
            have HRb14 := HRb13.below b14
            have hz14 : w6.heap.size ≤ w14.heap.size := by have := b14.size; omega
            clear b14 c0 c1 c2 c3 c4 c5 c6 c7 d0 d1 d2 d3 d4 d5 d6 d7 hlx hly HX13 HY13 HB13 HRa13 HRb13
            have HASK := HASK0
            have HXX := Lib.hid HX14
            have HYX := Lib.hid HY14
            have HBX := Lib.hid HB14
            have HRa := Lib.hid HRa14
            have HRb := Lib.hid HRb14
            have hzX := hz14
            have eS : (SS == WW) = true := HASK.out
            have C12 : Hid (∀ W, Below w14.heap.size w14 W → Calls Tryd.prog 12 #[.slice ad5 LB.length cap5, .slice ad6 LB.length cap6] W fun x w' => x = .returned (.bool true) ∧ Below W.heap.size W w') := Lib.hid (fun W hW => by
              have h := bsame_c LB LB _ _ W ((HRa.out.below hW).nl) ((HRb.out.below hW).nl) (by omega)
              rw [sameB_self] at h
              exact h)
            have CNu : Hid (∀ W, Calls Tryd.prog 13 #[.int .i64 ER] W fun x w' => x = .returned (.int .i64 ER) ∧ W = w') := Lib.hid (fun W => num_c ER W)
            have HS : Hid (∀ W : World, Below w14.heap.size w14 W → (W.cell? ⟨w.heap.size, 0, none⟩ = some (.int .i64 e.k) ∧ W.cell? ⟨w.heap.size, 1, none⟩ = some (.slice ad1 e.v.length cap1) ∧ W.cell? ⟨w.heap.size, 2, none⟩ = some (.slice ad2 e.w.length cap2) ∧ W.cell? ⟨w.heap.size, 3, none⟩ = some (.int .i64 e.r.o) ∧ W.cell? ⟨w.heap.size, 4, none⟩ = some (.int .i64 e.r.s) ∧ W.cell? ⟨w.heap.size, 5, none⟩ = some (.int .i64 e.r.w) ∧ W.cell? ⟨w.heap.size, 6, none⟩ = some (.int .i64 e.r.c) ∧ W.cell? ⟨w.heap.size, 7, none⟩ = some (.string e.r.t)) ∧ (W.cell? ⟨w.heap.size + 1, 0, none⟩ = some (.int .i64 f.k) ∧ W.cell? ⟨w.heap.size + 1, 1, none⟩ = some (.slice ad3 f.v.length cap3) ∧ W.cell? ⟨w.heap.size + 1, 2, none⟩ = some (.slice ad4 f.w.length cap4) ∧ W.cell? ⟨w.heap.size + 1, 3, none⟩ = some (.int .i64 f.r.o) ∧ W.cell? ⟨w.heap.size + 1, 4, none⟩ = some (.int .i64 f.r.s) ∧ W.cell? ⟨w.heap.size + 1, 5, none⟩ = some (.int .i64 f.r.w) ∧ W.cell? ⟨w.heap.size + 1, 6, none⟩ = some (.int .i64 f.r.c) ∧ W.cell? ⟨w.heap.size + 1, 7, none⟩ = some (.string f.r.t))) := Lib.hid (fun W hW => ⟨(HXX.out.below hW).eight, (HYX.out.below hW).eight⟩)
            have hlx := HXX.out.lt
            have hly := HYX.out.lt
            go_wp2_with fail
            go_region_held3 (fun W => (W.cell? ⟨w.heap.size, 0, none⟩ = some (.int .i64 e.k) ∧ W.cell? ⟨w.heap.size, 1, none⟩ = some (.slice ad1 e.v.length cap1) ∧ W.cell? ⟨w.heap.size, 2, none⟩ = some (.slice ad2 e.w.length cap2) ∧ W.cell? ⟨w.heap.size, 3, none⟩ = some (.int .i64 e.r.o) ∧ W.cell? ⟨w.heap.size, 4, none⟩ = some (.int .i64 e.r.s) ∧ W.cell? ⟨w.heap.size, 5, none⟩ = some (.int .i64 e.r.w) ∧ W.cell? ⟨w.heap.size, 6, none⟩ = some (.int .i64 e.r.c) ∧ W.cell? ⟨w.heap.size, 7, none⟩ = some (.string e.r.t)) ∧ (W.cell? ⟨w.heap.size + 1, 0, none⟩ = some (.int .i64 f.k) ∧ W.cell? ⟨w.heap.size + 1, 1, none⟩ = some (.slice ad3 f.v.length cap3) ∧ W.cell? ⟨w.heap.size + 1, 2, none⟩ = some (.slice ad4 f.w.length cap4) ∧ W.cell? ⟨w.heap.size + 1, 3, none⟩ = some (.int .i64 f.r.o) ∧ W.cell? ⟨w.heap.size + 1, 4, none⟩ = some (.int .i64 f.r.s) ∧ W.cell? ⟨w.heap.size + 1, 5, none⟩ = some (.int .i64 f.r.w) ∧ W.cell? ⟨w.heap.size + 1, 6, none⟩ = some (.int .i64 f.r.c) ∧ W.cell? ⟨w.heap.size + 1, 7, none⟩ = some (.string f.r.t))) (exact HS.out _ (by first | assumption | exact (Below.refl _ _).drew | exact Below.refl _ _))
              (first
              | (go_at_call 12; refine (C12.out _ (by first | assumption | exact (Below.refl _ _).drew | exact Below.refl _ _)).mono ?_; rintro x w8 ⟨rfl, b8⟩; have b8' : Below w14.heap.size w14 w8 := bn (by first | assumption | exact (Below.refl _ _).drew | exact Below.refl _ _) b8; clear b8)
              | (go_at_call 13; refine (CNu.out _).mono ?_; rintro x w8 ⟨rfl, rfl⟩)
              | (go_at_call 14; refine (CMa.out _ (bn HBX.out b8')).mono ?_; rintro x w8 ⟨rfl, b8⟩; have b8' : Below w14.heap.size w14 w8 := bn (by assumption) b8; clear b8)
              | (go_at_call 15; refine (CMr.out _ (bn HBX.out b8')).mono ?_; rintro x w8 ⟨rfl, b8⟩; have b8' : Below w14.heap.size w14 w8 := bn (by assumption) b8; clear b8)
              | (go_at_call 16; refine (CSa.out _ (bn HBX.out b8')).mono ?_; rintro x w8 ⟨rfl, b8⟩; have b8' : Below w14.heap.size w14 w8 := bn (by assumption) b8; clear b8)
              | fail)
            have HB8 := Lib.hid (bn HBX.out b8')
            have HR8 := Lib.hid (HRa.out.below b8')
            have HQ8 := Lib.hid (HRb.out.below b8')
            have HX8 := Lib.hid (HXX.out.below b8')
            have hz8 := b8'.size
            clear b8' C12 CNu HS hlx hly
            have CO := Lib.hid (bover_c LB _ w8 w4.heap.size HR8.out (by omega) (by omega))
            go_wp2_with fail
            refine CO.out.mono ?_
            rintro x w9 ⟨rfl, g9⟩
            have HB9 := Lib.hid (HB8.out.trans (below_of_grown g9 HB8.out.size (fun i hi => by have := (World.ownsRow.lt HR8.out i hi).1; omega)))
            have HQ9 := Lib.hid (HQ8.out.far g9 (by
              rintro i hi i' hi' rfl
              have := (World.ownsRow.lt HR5lt.out i hi).2
              have := (World.ownsRow.lt HQ8.out i hi').1
              omega))
            have HX9 := Lib.hid (HX8.out.far g9 (fun hi => by have := (World.ownsRow.lt HR8.out w.heap.size hi.symm).1; omega))
            clear g9 CO
            have hlx := HX9.out.lt
            obtain ⟨c0, c1, c2, c3, c4, c5, c6, c7⟩ := HX9.out.eight
            go_wp2_with fail
            refine (CL.out _ HB9.out).mono ?_
            rintro x w10 ⟨v10, rfl, h10, b10⟩
            have HR10 := Lib.hid h10
            obtain ⟨ad10, cap10, rfl, _⟩ := h10.nl.form
            have HB10 := Lib.hid (bn HB9.out b10)
            have HC10 := Lib.hid (bsame_c LB LB _ _ w10 HR10.out.nl ((HQ9.out.below b10).nl) (by omega))
            rw [sameB_self] at HC10
            clear h10 b10 c0 c1 c2 c3 c4 c5 c6 c7 hlx
            go_wp2_with fail
            refine HC10.out.mono ?_
            rintro x w11 ⟨rfl, b11⟩
            have HB11 := Lib.hid (bn HB10.out b11)
            clear b11
            go_wp2_with fail
            refine (awake_c w11 (HT.out.below HB11.out)).mono ?_
            rintro x w12 ⟨rfl, b12⟩
            go_wp2
            go_ret
            exact ⟨rfl, bn HB11.out b12⟩
end Go.Proofs.YtcnpckdchjjeoaaDoor
