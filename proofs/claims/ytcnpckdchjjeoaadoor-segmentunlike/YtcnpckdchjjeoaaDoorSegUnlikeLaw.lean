/-
  SegmentUnlike, by contract.
-/
import Derived.Test.YtcnpckdchjjeoaaDoorSegLaysLaw
import Derived.Test.YtcnpckdchjjeoaaDoorSegUnlikeMath
namespace Go.Proofs.YtcnpckdchjjeoaaDoor
open Go.RowKit Go.Lib
set_option maxRecDepth 100000

theorem two_of_map {xs : List Ev} {d e : En} (h : xs.map Ev.e = [d, e]) : ∃ x0 A B, xs = [x0, ⟨e, A, B⟩] := by
  match xs, h with
  | [x0, ⟨f, A, B⟩], h =>
    simp only [List.map_cons, List.map_nil, List.cons.injEq, and_true] at h
    obtain ⟨_, rfl⟩ := h
    exact ⟨x0, A, B, rfl⟩
theorem one_of_map {xs : List Ev} {d : En} (h : xs.map Ev.e = [d]) : ∃ x0, xs = [x0] := by
  match xs, h with
  | [x0], _ => exact ⟨x0, rfl⟩
theorem take_ok {P : Program} {ops : Array Oper} {Q : Exit → Act → World → Prop} {md : Region.Mode} {S : World → Prop} {i : Nat} {oi : Oper} {d : Nat} {v : Value} {fuel : Nat} {listed : Array Bool} {a : Act} {w : World} (hi : ops[i]? = some oi) (hd : oi.dst = some d)
    (hs : Region.noSelect ops = true) (hf : Region.free md ops listed i = true) (hr : (Region.ready md ops listed).contains i = true)
    (hQ : ∀ c a w, Q (.panic c) (a.put oi.dst v) w → Q (.panic c) a w) (hy : YieldsIf P ops S oi v a) (hS : S w)
    (h : wpAnyH P md ops Q S fuel (listed.setIfInBounds i true) (a.put (some d) v) w) : wpAnyH P md ops Q S (fuel + 1) listed a w :=
  wpAnyH_take hi hs hf hr hQ hy hS (by rw [hd]; exact h)

set_option maxHeartbeats 32000000 in
theorem unlike_law (e f : En) (a b a' b' : Value) (n : Int) (w : World) (ha : Nl w a e.v) (hb : Nl w b e.w) (ha' : Nl w a' f.v) (hb' : Nl w b' f.w) (hs : e.r.t.size ≤ 9223372036854775807) (hs' : f.r.t.size ≤ 9223372036854775807) (hT : Tabs w) :
    Calls Tryd.prog 6 #[.agg #[.int .i64 e.k, a, b, .int .i64 e.r.o, .int .i64 e.r.s, .int .i64 e.r.w, .int .i64 e.r.c, .string e.r.t], .agg #[.int .i64 f.k, a', b', .int .i64 f.r.o, .int .i64 f.r.s, .int .i64 f.r.w, .int .i64 f.r.c, .string f.r.t], .int .i64 n] w fun x w' => x = .returned (.bool true) ∧ Below w.heap.size w w' := by
  obtain ⟨W2, hW2⟩ : ∃ W2, W2 = (w.alloc (.cells #[.int .i64 e.k, a, b, .int .i64 e.r.o, .int .i64 e.r.s, .int .i64 e.r.w, .int .i64 e.r.c, .string e.r.t] 30)).alloc (.cells #[.int .i64 f.k, a', b', .int .i64 f.r.o, .int .i64 f.r.s, .int .i64 f.r.w, .int .i64 f.r.c, .string f.r.t] 30) := ⟨_, rfl⟩
  have HB2 : Hid (Below w.heap.size w W2) := Lib.hid (by rw [hW2]; exact below_two _ _ _)
  have HX2 : Hid (Bx 30 W2 w.heap.size #[.int .i64 e.k, a, b, .int .i64 e.r.o, .int .i64 e.r.s, .int .i64 e.r.w, .int .i64 e.r.c, .string e.r.t]) := Lib.hid (by rw [hW2]; exact (Bx.new _ _ _).alloc _)
  have HY2 : Hid (Bx 30 W2 (w.heap.size + 1) #[.int .i64 f.k, a', b', .int .i64 f.r.o, .int .i64 f.r.s, .int .i64 f.r.w, .int .i64 f.r.c, .string f.r.t]) := Lib.hid (by rw [hW2]; have := Bx.new 30 (w.alloc (.cells #[.int .i64 e.k, a, b, .int .i64 e.r.o, .int .i64 e.r.s, .int .i64 e.r.w, .int .i64 e.r.c, .string e.r.t] 30)) #[.int .i64 f.k, a', b', .int .i64 f.r.o, .int .i64 f.r.s, .int .i64 f.r.w, .int .i64 f.r.c, .string f.r.t]; simpa using this)
  have hz2 : W2.heap.size = w.heap.size + 2 := by rw [hW2]; simp
  have HT := Lib.hid hT
  have HA := Lib.hid ha
  have HBB := Lib.hid hb
  have HA' := Lib.hid ha'
  have HBB' := Lib.hid hb'
  have CG1 := Lib.hid (great_c e a b W2 (ha.below HB2.out) (hb.below HB2.out))
  have CG2 : Hid (∀ W, Below W2.heap.size W2 W → Calls Tryd.prog 7 #[.agg #[.int .i64 f.k, a', b', .int .i64 f.r.o, .int .i64 f.r.s, .int .i64 f.r.w, .int .i64 f.r.c, .string f.r.t]] W fun x w' => x = .returned (.bool (greatE f)) ∧ Below W.heap.size W w') := Lib.hid (fun W hW => great_c f a' b' W (ha'.below (bn HB2.out hW)) (hb'.below (bn HB2.out hW)))
  obtain ⟨ad1, cap1, rfl, _⟩ := ha.form
  obtain ⟨ad2, cap2, rfl, _⟩ := hb.form
  obtain ⟨ad3, cap3, rfl, _⟩ := ha'.form
  obtain ⟨ad4, cap4, rfl, _⟩ := hb'.form
  clear ha hb ha' hb' hT
  cases hg1 : greatE e with
  | true =>
    rw [hg1] at CG1
    clear hg1
    go_enter Tryd.func6, Tryd.ntmps6
    go_wp2_with fail
    rw [← hW2]
    refine CG1.out.mono ?_
    rintro x w3 ⟨rfl, b3⟩
    have HB3 := Lib.hid (bn HB2.out b3)
    clear b3
    go_wp2_with fail
    refine (awake_c w3 (HT.out.below HB3.out)).mono ?_
    rintro x w4 ⟨rfl, b4⟩
    go_wp2
    go_ret
    exact ⟨rfl, bn HB3.out b4⟩
  | false =>
    rw [hg1] at CG1
    obtain ⟨lv, lw⟩ := greatE_lens hg1
    clear hg1
    go_enter Tryd.func6, Tryd.ntmps6
    go_wp2_with fail
    rw [← hW2]
    refine CG1.out.mono ?_
    rintro x w3 ⟨rfl, b3⟩
    have C2 := Lib.hid (CG2.out _ b3)
    have hx3 := HX2.out.below b3
    have hy3 := HY2.out.below b3
    have HX3 := Lib.hid hx3
    have HY3 := Lib.hid hy3
    have HB3 := Lib.hid (bn HB2.out b3)
    have hz3 := b3.size
    clear CG1 CG2 b3
    have hlx := hx3.lt
    have hly := hy3.lt
    obtain ⟨c0, c1, c2, c3, c4, c5, c6, c7⟩ := hx3.eight
    obtain ⟨d0, d1, d2, d3, d4, d5, d6, d7⟩ := hy3.eight
    cases hg2 : greatE f with
    | true =>
      rw [hg2] at C2
      clear hg2
      go_wp2_with fail
      refine C2.out.mono ?_
      rintro x w4 ⟨rfl, b4⟩
      have HB4 := Lib.hid (bn HB3.out b4)
      clear b4
      go_wp2_with fail
      refine (awake_c w4 (HT.out.below HB4.out)).mono ?_
      rintro x w5 ⟨rfl, b5⟩
      go_wp2
      go_ret
      exact ⟨rfl, bn HB4.out b5⟩
    | false =>
      rw [hg2] at C2
      obtain ⟨lv', lw'⟩ := greatE_lens hg2
      clear hg2
      go_wp2_with fail
      refine C2.out.mono ?_
      rintro x w4 ⟨rfl, b4⟩
      have HX4 := Lib.hid (HX3.out.below b4)
      have HY4 := Lib.hid (HY3.out.below b4)
      have HB4 := Lib.hid (bn HB3.out b4)
      have hz4 := b4.size
      clear b4 hx3 hy3 c0 c1 c2 c3 c4 c5 c6 c7 d0 d1 d2 d3 d4 d5 d6 d7 hlx hly C2 HX3 HY3
      have CL : Hid (∀ W, Below w.heap.size w W → Calls Tryd.prog 9 #[.agg #[.int .i64 e.k, .slice ad1 e.v.length cap1, .slice ad2 e.w.length cap2, .int .i64 e.r.o, .int .i64 e.r.s, .int .i64 e.r.w, .int .i64 e.r.c, .string e.r.t]] W (layeT e W)) := Lib.hid (fun W hW => laye_c e _ _ W (HA.out.below hW) (HBB.out.below hW) (by omega) (by omega) hs (HT.out.below hW))
      have CF : Hid (∀ W, Below w.heap.size w W → Calls Tryd.prog 9 #[.agg #[.int .i64 f.k, .slice ad3 f.v.length cap3, .slice ad4 f.w.length cap4, .int .i64 f.r.o, .int .i64 f.r.s, .int .i64 f.r.w, .int .i64 f.r.c, .string f.r.t]] W (layeT f W)) := Lib.hid (fun W hW => laye_c f _ _ W (HA'.out.below hW) (HBB'.out.below hW) (by omega) (by omega) hs' (HT.out.below hW))
      unfold layeT at CL CF
      obtain ⟨ER, hER⟩ : ∃ ER : Int, ER = if someE e = true then 0 else 2 := ⟨_, rfl⟩
      obtain ⟨LB, hLB⟩ : ∃ LB : List Int, LB = if someE e = true then layE e else [] := ⟨_, rfl⟩
      obtain ⟨FR, hFR⟩ : ∃ FR : Int, FR = if someE f = true then 0 else 2 := ⟨_, rfl⟩
      obtain ⟨LF, hLF⟩ : ∃ LF : List Int, LF = if someE f = true then layE f else [] := ⟨_, rfl⟩
      rw [← hER, ← hLB] at CL
      rw [← hFR, ← hLF] at CF
      have HER := Lib.hid hER
      have HLB := Lib.hid hLB
      have HFR := Lib.hid hFR
      have HLF := Lib.hid hLF
      clear hER hLB hFR hLF
      have CLow := Lib.hid (low_c n 8 w4 (by decide) (by decide))
      go_wp2_with fail
      refine CLow.out.mono ?_
      rintro x w0 ⟨r, rfl, hr0, hr8, rfl⟩
      obtain ⟨R, rfl⟩ := Int.eq_ofNat_of_zero_le hr0
      obtain ⟨N, eN⟩ : ∃ N : Nat, (1 : Int) + (R : Int) = (N : Int) := ⟨1 + R, by omega⟩
      have hN1 : 1 ≤ N := by omega
      have hN8 : N ≤ 8 := by omega
      clear CLow hr0
      have hlx := HX4.out.lt
      have hly := HY4.out.lt
      obtain ⟨c0, c1, c2, c3, c4, c5, c6, c7⟩ := HX4.out.eight
      go_wp2_with fail
      refine (CL.out _ HB4.out).mono ?_
      rintro x w5 ⟨v5, rfl, h5, b5⟩
      have HR5 := Lib.hid h5
      have HX5 := Lib.hid (HX4.out.below b5)
      have HY5 := Lib.hid (HY4.out.below b5)
      have HB5 := Lib.hid (bn HB4.out b5)
      have hz5 := b5.size
      obtain ⟨ad5, cap5, rfl, _⟩ := h5.nl.form
      clear h5 b5 c0 c1 c2 c3 c4 c5 c6 c7 hlx hly HX4 HY4 eN hr8
      have hlx := HX5.out.lt
      have hly := HY5.out.lt
      obtain ⟨d0, d1, d2, d3, d4, d5, d6, d7⟩ := HY5.out.eight
      go_wp2_with fail
      refine (CF.out _ HB5.out).mono ?_
      rintro x w6 ⟨v6, rfl, h6, b6⟩
      have HR6 := Lib.hid h6
      have HX6 := Lib.hid (HX5.out.below b6)
      have HY6 := Lib.hid (HY5.out.below b6)
      have HB6 := Lib.hid (bn HB5.out b6)
      have HR5' := Lib.hid (HR5.out.below b6)
      have hz6 := b6.size
      obtain ⟨ad6, cap6, rfl, _⟩ := h6.nl.form
      clear h6 b6 d0 d1 d2 d3 d4 d5 d6 d7 hlx hly HX5 HY5 HR5 CL CF
      cases hse : someE e with
      | false =>
        obtain rfl : ER = 2 := by have := HER.out; rwa [hse] at this
        obtain rfl : LB = [] := by have := HLB.out; rwa [hse] at this
        cases hsf : someE f with
        | false =>
          obtain rfl : FR = 2 := by have := HFR.out; rwa [hsf] at this
          obtain rfl : LF = [] := by have := HLF.out; rwa [hsf] at this
          go_wp2_with fail
          refine (awake_c w6 (HT.out.below HB6.out)).mono ?_
          rintro x w7 ⟨rfl, b7⟩
          go_wp2
          go_ret
          exact ⟨rfl, bn HB6.out b7⟩
        | true =>
          obtain rfl : FR = 0 := by have := HFR.out; rwa [hsf] at this
          obtain rfl : LF = layE f := by have := HLF.out; rwa [hsf] at this
          go_wp2_with fail
          refine (awake_c w6 (HT.out.below HB6.out)).mono ?_
          rintro x w7 ⟨rfl, b7⟩
          go_wp2
          go_ret
          exact ⟨rfl, bn HB6.out b7⟩
      | true =>
        obtain rfl : ER = 0 := by have := HER.out; rwa [hse] at this
        obtain rfl : LB = layE e := by have := HLB.out; rwa [hse] at this
        cases hsf : someE f with
        | false =>
          obtain rfl : FR = 2 := by have := HFR.out; rwa [hsf] at this
          obtain rfl : LF = [] := by have := HLF.out; rwa [hsf] at this
          go_wp2_with fail
          refine (awake_c w6 (HT.out.below HB6.out)).mono ?_
          rintro x w7 ⟨rfl, b7⟩
          go_wp2
          go_ret
          exact ⟨rfl, bn HB6.out b7⟩
        | true =>
          obtain rfl : FR = 0 := by have := HFR.out; rwa [hsf] at this
          obtain rfl : LF = layE f := by have := HLF.out; rwa [hsf] at this
          have hinj := layE_inj hse hsf
          have hlen5 : (layE e).length ≤ 1000 := by rw [layE_len]; have := bodyE_len hse; omega
          have hlen6 : (layE f).length ≤ 1000 := by rw [layE_len]; have := bodyE_len hsf; omega
          have HSE := Lib.hid hse
          clear hse hsf
          have CSB : Hid (∀ W, Below w6.heap.size w6 W → Calls Tryd.prog 12 #[.slice ad5 (layE e).length cap5, .slice ad6 (layE f).length cap6] W fun x w' => x = .returned (.bool (sameB (layE e) (layE f))) ∧ Below W.heap.size W w') := Lib.hid (fun W hW => bsame_c _ _ _ _ W ((HR5'.out.below hW).nl) ((HR6.out.below hW).nl) (by omega))
          have CSa : Hid (∀ W, Below w.heap.size w W → Calls Tryd.prog 16 #[.agg #[.int .i64 e.k, .slice ad1 e.v.length cap1, .slice ad2 e.w.length cap2, .int .i64 e.r.o, .int .i64 e.r.s, .int .i64 e.r.w, .int .i64 e.r.c, .string e.r.t], .agg #[.int .i64 f.k, .slice ad3 f.v.length cap3, .slice ad4 f.w.length cap4, .int .i64 f.r.o, .int .i64 f.r.s, .int .i64 f.r.w, .int .i64 f.r.c, .string f.r.t]] W fun x w' => x = .returned (.bool (sameE e f)) ∧ Below W.heap.size W w') := Lib.hid (fun W hW => samee_c e f _ _ _ _ W (HA.out.below hW) (HBB.out.below hW) (HA'.out.below hW) (HBB'.out.below hW) (by omega) (by omega))
          rw [hinj] at CSB
          generalize sameE e f = SQ at CSB CSa
          clear hinj
          have eSQ : (SQ != SQ) = false := by simp
          have HS : Hid (∀ W : World, Below w6.heap.size w6 W → (W.cell? ⟨w.heap.size, 0, none⟩ = some (.int .i64 e.k) ∧ W.cell? ⟨w.heap.size, 1, none⟩ = some (.slice ad1 e.v.length cap1) ∧ W.cell? ⟨w.heap.size, 2, none⟩ = some (.slice ad2 e.w.length cap2) ∧ W.cell? ⟨w.heap.size, 3, none⟩ = some (.int .i64 e.r.o) ∧ W.cell? ⟨w.heap.size, 4, none⟩ = some (.int .i64 e.r.s) ∧ W.cell? ⟨w.heap.size, 5, none⟩ = some (.int .i64 e.r.w) ∧ W.cell? ⟨w.heap.size, 6, none⟩ = some (.int .i64 e.r.c) ∧ W.cell? ⟨w.heap.size, 7, none⟩ = some (.string e.r.t)) ∧ (W.cell? ⟨w.heap.size + 1, 0, none⟩ = some (.int .i64 f.k) ∧ W.cell? ⟨w.heap.size + 1, 1, none⟩ = some (.slice ad3 f.v.length cap3) ∧ W.cell? ⟨w.heap.size + 1, 2, none⟩ = some (.slice ad4 f.w.length cap4) ∧ W.cell? ⟨w.heap.size + 1, 3, none⟩ = some (.int .i64 f.r.o) ∧ W.cell? ⟨w.heap.size + 1, 4, none⟩ = some (.int .i64 f.r.s) ∧ W.cell? ⟨w.heap.size + 1, 5, none⟩ = some (.int .i64 f.r.w) ∧ W.cell? ⟨w.heap.size + 1, 6, none⟩ = some (.int .i64 f.r.c) ∧ W.cell? ⟨w.heap.size + 1, 7, none⟩ = some (.string f.r.t))) := Lib.hid (fun W hW => ⟨(HX6.out.below hW).eight, (HY6.out.below hW).eight⟩)
          have hlx := HX6.out.lt
          have hly := HY6.out.lt
          go_wp2_with fail
          go_region_held3 (fun W => (W.cell? ⟨w.heap.size, 0, none⟩ = some (.int .i64 e.k) ∧ W.cell? ⟨w.heap.size, 1, none⟩ = some (.slice ad1 e.v.length cap1) ∧ W.cell? ⟨w.heap.size, 2, none⟩ = some (.slice ad2 e.w.length cap2) ∧ W.cell? ⟨w.heap.size, 3, none⟩ = some (.int .i64 e.r.o) ∧ W.cell? ⟨w.heap.size, 4, none⟩ = some (.int .i64 e.r.s) ∧ W.cell? ⟨w.heap.size, 5, none⟩ = some (.int .i64 e.r.w) ∧ W.cell? ⟨w.heap.size, 6, none⟩ = some (.int .i64 e.r.c) ∧ W.cell? ⟨w.heap.size, 7, none⟩ = some (.string e.r.t)) ∧ (W.cell? ⟨w.heap.size + 1, 0, none⟩ = some (.int .i64 f.k) ∧ W.cell? ⟨w.heap.size + 1, 1, none⟩ = some (.slice ad3 f.v.length cap3) ∧ W.cell? ⟨w.heap.size + 1, 2, none⟩ = some (.slice ad4 f.w.length cap4) ∧ W.cell? ⟨w.heap.size + 1, 3, none⟩ = some (.int .i64 f.r.o) ∧ W.cell? ⟨w.heap.size + 1, 4, none⟩ = some (.int .i64 f.r.s) ∧ W.cell? ⟨w.heap.size + 1, 5, none⟩ = some (.int .i64 f.r.w) ∧ W.cell? ⟨w.heap.size + 1, 6, none⟩ = some (.int .i64 f.r.c) ∧ W.cell? ⟨w.heap.size + 1, 7, none⟩ = some (.string f.r.t))) (exact HS.out _ (by first | assumption | exact (Below.refl _ _).drew | exact Below.refl _ _))
            (first
            | (go_at_call 12; refine (CSB.out _ (by first | assumption | exact (Below.refl _ _).drew | exact Below.refl _ _)).mono ?_; rintro x w8 ⟨rfl, b8⟩; have b8' : Below w6.heap.size w6 w8 := bn (by first | assumption | exact (Below.refl _ _).drew | exact Below.refl _ _) b8; clear b8)
            | (go_at_call 16; refine (CSa.out _ (bn HB6.out (by first | assumption | exact (Below.refl _ _).drew | exact Below.refl _ _))).mono ?_; rintro x w8 ⟨rfl, b8⟩; have b8' : Below w6.heap.size w6 w8 := bn (by first | assumption | exact (Below.refl _ _).drew | exact Below.refl _ _) b8; clear b8)
            | fail)
          have HB8 := Lib.hid (bn HB6.out b8')
          have HR8 := Lib.hid (HR5'.out.below b8')
          have HX8 := Lib.hid (HX6.out.below b8')
          have hz8 := b8'.size
          clear b8' CSB CSa HS hlx hly HR5' HR6 HX6 HY6 hlen6
          have hmk := run_make_row' (P := Tryd.prog) 22 3 (.int .i64 0) 8 Tryd.underlying22 intInfo rfl .i64 .i64 N (by omega) (by omega)
          obtain ⟨W9, hW9⟩ : ∃ W9, W9 = (w8.alloc (.cells (madeCells #[.int .i64 0] N) 3)).alloc (.cells (madeCells #[.int .i64 0] N) 3) := ⟨_, rfl⟩
          have hb9 : Below w8.heap.size w8 W9 := by rw [hW9]; exact below_two _ _ _
          have N1 : Nl W9 (.slice (some ⟨w8.heap.size, 0, none⟩) N N) (List.replicate N 0) := by rw [hW9]; exact ((row_made w8 N (by omega)).nl).below (alloc_below _ _)
          have N2 : Nl W9 (.slice (some ⟨w8.heap.size + 1, 0, none⟩) N N) (List.replicate N 0) := by
            rw [hW9]
            have := (row_made (w8.alloc (.cells (madeCells #[.int .i64 0] N) 3)) N (by omega)).nl
            simpa using this
          have CZ : Hid (∀ W A1 A2, Below W9.heap.size W9 W → Nl W (.slice A1 N N) (List.replicate N 0) → Nl W (.slice A2 N N) (List.replicate N 0) → Calls Tryd.prog 9 #[.agg #[.int .i64 1, .slice A1 N N, .slice A2 N N, .int .i64 0, .int .i64 0, .int .i64 0, .int .i64 0, .string ⟨#[]⟩]] W fun x w' => ∃ v, x = .returned (.tuple #[v, .int .i64 0]) ∧ BRow w' W.heap.size v (layE (zE N)) ∧ Below W.heap.size W w') := Lib.hid (fun W A1 A2 hW h1 h2 => (laye_c (zE N) _ _ W h1 h2 (by simp [zE]; omega) (by simp [zE]; omega) (show (0 : Nat) ≤ _ by decide) (HT.out.below (bn HB8.out (bn hb9 hW)))).mono (by
            unfold layeT
            rw [zE_some hN1 hN8]
            exact fun _ _ h => h))
          have HN1 := Lib.hid N1
          have HN2 := Lib.hid N2
          have HB9 := Lib.hid hb9
          have hz9 : W9.heap.size = w8.heap.size + 2 := by rw [hW9]; simp
          have HW9 := Lib.hid hW9
          clear N1 N2 hb9 hW9
          go_upto_region 10 with fail
          go_cut [11, 12] (fun v11 v12 wc => ∃ A N' C, v11 = .slice A N' C ∧ v12 = .int .i64 0 ∧ Hid (BRow wc W9.heap.size (.slice A N' C) (layE (zE N))) ∧ Hid (Below w8.heap.size w8 wc))
          case first =>
            have e9 := HW9.out
            first
            | (go_region_with (go_at_call 9; first | rw [← e9] | skip; refine (CZ.out _ _ _ (by first | exact Below.refl _ _ | exact (Below.refl _ _).drew) (by first | exact HN1.out | exact HN2.out) (by first | exact HN2.out | exact HN1.out)).mono ?_; rintro x w10 ⟨v10, rfl, h10, b10⟩; obtain ⟨A10, C10, rfl, _⟩ := h10.nl.form))
            | fail
            all_goals (
              go_wp2_with fail
              go_meet
              exact ⟨_, _, _, rfl, rfl, Lib.hid (by exact h10), Lib.hid (by first | exact bn HB9.out b10 | exact bn HB9.out.drew b10)⟩)
          case rest =>
            obtain ⟨A11, N11, C11, rfl, rfl, HR11, HB11⟩ := hcut
            obtain rfl := HR11.out.bc.len
            clear CZ HN1 HN2 HW9 hmk
            have hlz : (layE (zE N)).length ≤ 1000 := by rw [layE_len]; have := bodyE_len (zE_some hN1 hN8); omega
            have HBc := Lib.hid (bn HB8.out HB11.out)
            have HRa := Lib.hid (HR8.out.below HB11.out)
            have HXc := Lib.hid (HX8.out.below HB11.out)
            have hzc : w8.heap.size ≤ wc.heap.size := HB11.out.size
            have hzW : W9.heap.size ≤ wc.heap.size := by
              have := HB9.out.size
              rcases HR11.out.2 with ⟨h, h0⟩ | ⟨g, cap, cur, h, hg, hh, _⟩
              · rw [layE_len] at h0; omega
              · have := (Array.getElem?_eq_some_iff.1 hh).1; omega
            obtain ⟨vm, w13, r13, h13, b13⟩ := bcopy_run (layE (zE N)) _ wc 33 HR11.out.nl (by omega)
            obtain ⟨A14, N14, C14, w14, r14, h14, b14⟩ := bapp_run (layE (zE N)) (layE e) vm _ w13 33 wc.heap.size h13 (HRa.out.nl.below b13) (by omega) b13.size
            have HR13 := Lib.hid r13
            have HR14 := Lib.hid r14
            have HBc14 := Lib.hid (b13.trans b14)
            have HB14 := Lib.hid (bn HBc.out HBc14.out)
            have CR := Lib.hid (reade_c (layE (zE N) ++ layE e) _ (N : Int) w14 h14.bc ((layE_ok _).append (layE_ok _)) (by rw [List.length_append]; omega) (HT.out.below HB14.out))
            unfold readT8 at CR
            obtain ⟨K2, hK2⟩ : ∃ K2, K2 = (readE (layE (zE N) ++ layE e) (N : Int)).2 := ⟨_, rfl⟩
            rw [← hK2] at CR
            have HK2 := Lib.hid hK2
            clear r13 r14 h13 h14 b13 b14 hK2
            go_wp2_with (first
              | (at_builtin; refine wpList_append_run rfl _ _ 33 rfl _ _ HR13.out ?_; clear HR13)
              | (at_builtin; refine wpList_append_run rfl _ _ 33 rfl _ _ HR14.out ?_))
            refine CR.out.mono ?_
            rintro x w15 ⟨v15, xs, rfl, hxs, h15, b15⟩
            have HE15 := Lib.hid h15
            have HXS := Lib.hid hxs
            obtain ⟨adx, capx, rfl, _, _⟩ := h15.er
            have HB15 := Lib.hid (bn HB14.out b15)
            have HX15 := Lib.hid (HXc.out.below (bn HBc14.out b15))
            have CMa := Lib.hid (maye_c e _ _ (N : Int) w15 (HA.out.below HB15.out) (HBB.out.below HB15.out) (by omega) (by omega) hs (HT.out.below HB15.out))
            clear h15 hxs b15 CR HR14
            obtain ⟨MB, hMB⟩ : ∃ MB, MB = (mayE e (N : Int) && !(e.k == 1)) := ⟨_, rfl⟩
            have HMB := Lib.hid hMB
            clear hMB
            go_upto_region 12 with fail
            go_cut [15] (fun v15 wd => v15 = .bool MB ∧ Hid (Below w15.heap.size w15 wd))
            case first =>
              have hlx := HX15.out.lt
              obtain ⟨c0, c1, c2, c3, c4, c5, c6, c7⟩ := HX15.out.eight
              cases hm : mayE e (N : Int) with
              | false =>
                rw [hm] at CMa
                obtain rfl : MB = false := by have := HMB.out; rwa [hm] at this
                clear hm
                go_wp2_with fail
                refine CMa.out.mono ?_
                rintro x w16 ⟨rfl, b16⟩
                go_wp2
                go_meet
                exact ⟨rfl, Lib.hid b16⟩
              | true =>
                rw [hm] at CMa
                have hMB2 : MB = !(e.k == 1) := by have := HMB.out; rwa [hm, Bool.true_and] at this
                have hne : (e.k != 1) = MB := by rw [hMB2]; rfl
                have HNE := Lib.hid hne
                clear hm hMB2
                go_wp2_with fail
                refine CMa.out.mono ?_
                rintro x w16 ⟨rfl, b16⟩
                have hx16 := HX15.out.below b16
                have hlx16 := hx16.lt
                clear c0 c1 c2 c3 c4 c5 c6 c7 hlx
                obtain ⟨c0, c1, c2, c3, c4, c5, c6, c7⟩ := hx16.eight
                go_wp2
                go_meet
                exact ⟨by first | rfl | (rw [← HNE.out]) | (rw [← HNE.out]; rfl), Lib.hid b16⟩
            case rest =>
              obtain ⟨rfl, HBd0⟩ := hcut
              have HBd := Lib.hid (bn HB15.out HBd0.out)
              have HEd := Lib.hid (HE15.out.below HBd0.out)
              have HXd := Lib.hid (HX15.out.below HBd0.out)
              cases MB with
              | true =>
                obtain ⟨hm, hk⟩ : mayE e (N : Int) = true ∧ (e.k == 1) = false := by
                  have := HMB.out
                  simpa using this.symm
                have hrd := unlike_yes hN1 hN8 hm hk
                have hxs2 := HXS.out
                rw [hrd] at hxs2
                obtain ⟨x0, A, B, hxe⟩ := two_of_map hxs2
                subst hxe
                have eK : ((K2 : Int) == (((layE (zE N)).length : Int) + ((layE e).length : Int))) = true := by
                  have h := HK2.out
                  rw [hrd] at h
                  simp only [List.length_append] at h
                  simp only [beq_iff_eq]
                  omega
                have eK2 : ((K2 : Int) == IntKind.i64.wrap (((layE (zE N)).length : Int) + ((layE e).length : Int))) = true := by
                  have h2 : IntKind.i64.wrap (((layE (zE N)).length : Int) + ((layE e).length : Int)) = ((layE (zE N)).length : Int) + ((layE e).length : Int) := by
                    rw [IntKind.wrap_i64]
                    omega
                  rw [h2]
                  exact eK
                have NA : Nl wc A e.v := (HEd.out.rows ⟨e, A, B⟩ (by simp)).1.nl
                have NB : Nl wc B e.w := (HEd.out.rows ⟨e, A, B⟩ (by simp)).2.nl
                obtain ⟨adA, capA, rfl, _⟩ := NA.form
                obtain ⟨adB, capB, rfl, _⟩ := NB.form
                obtain ⟨ade, cape, hv, _, k5⟩ := HEd.out.er
                simp only [List.length_cons, List.length_nil, Value.slice.injEq] at hv
                obtain ⟨rfl, _, rfl⟩ := hv
                obtain ⟨ge, oe, rfl, k6⟩ := k5 (by simp)
                have ev := k6 1 (by simp)
                simp only [Nat.one_mul, List.getElem_cons_succ, List.getElem_cons_zero] at ev
                have HEV := Lib.hid ev
                have HS : Hid (∀ W : World, Below wc.heap.size wc W → (W.cell? ⟨w.heap.size, 0, none⟩ = some (.int .i64 e.k) ∧ W.cell? ⟨w.heap.size, 1, none⟩ = some (.slice ad1 e.v.length cap1) ∧ W.cell? ⟨w.heap.size, 2, none⟩ = some (.slice ad2 e.w.length cap2) ∧ W.cell? ⟨w.heap.size, 3, none⟩ = some (.int .i64 e.r.o) ∧ W.cell? ⟨w.heap.size, 4, none⟩ = some (.int .i64 e.r.s) ∧ W.cell? ⟨w.heap.size, 5, none⟩ = some (.int .i64 e.r.w) ∧ W.cell? ⟨w.heap.size, 6, none⟩ = some (.int .i64 e.r.c) ∧ W.cell? ⟨w.heap.size, 7, none⟩ = some (.string e.r.t)) ∧ (W.cell? ⟨ge, oe + 8, none⟩ = some (.int .i64 e.k) ∧ W.cell? ⟨ge, oe + 9, none⟩ = some (.slice adA e.v.length capA) ∧ W.cell? ⟨ge, oe + 10, none⟩ = some (.slice adB e.w.length capB) ∧ W.cell? ⟨ge, oe + 11, none⟩ = some (.int .i64 e.r.o) ∧ W.cell? ⟨ge, oe + 12, none⟩ = some (.int .i64 e.r.s) ∧ W.cell? ⟨ge, oe + 13, none⟩ = some (.int .i64 e.r.w) ∧ W.cell? ⟨ge, oe + 14, none⟩ = some (.int .i64 e.r.c) ∧ W.cell? ⟨ge, oe + 15, none⟩ = some (.string e.r.t))) := Lib.hid (fun W hW => ⟨(HXd.out.below hW).eight, (HEV.out.below hW).1⟩)
                have CSx : Hid (∀ W, Below wc.heap.size wc W → Calls Tryd.prog 16 #[.agg #[.int .i64 e.k, .slice adA e.v.length capA, .slice adB e.w.length capB, .int .i64 e.r.o, .int .i64 e.r.s, .int .i64 e.r.w, .int .i64 e.r.c, .string e.r.t], .agg #[.int .i64 e.k, .slice ad1 e.v.length cap1, .slice ad2 e.w.length cap2, .int .i64 e.r.o, .int .i64 e.r.s, .int .i64 e.r.w, .int .i64 e.r.c, .string e.r.t]] W fun x w' => x = .returned (.bool true) ∧ Below W.heap.size W w') := Lib.hid (fun W hW => by
                  have h := samee_c e e _ _ _ _ W (NA.below hW) (NB.below hW) (HA.out.below (bn HBd.out hW)) (HBB.out.below (bn HBd.out hW)) (by omega) (by omega)
                  rw [(sameE_iff e e).2 rfl] at h
                  exact h)
                have hge : ge < wc.heap.size := World.block_lt_of_cell? wc _ ev.1.1
                have hlx := HXd.out.lt
                clear k5 k6 ev hrd hxs2 NA NB
                simp only [List.length_cons, List.length_nil, Nat.zero_add, Nat.reduceAdd]
                go_wp2_with fail
                refine wp_region_held_drew (S := fun W => (W.cell? ⟨w.heap.size, 0, none⟩ = some (.int .i64 e.k) ∧ W.cell? ⟨w.heap.size, 1, none⟩ = some (.slice ad1 e.v.length cap1) ∧ W.cell? ⟨w.heap.size, 2, none⟩ = some (.slice ad2 e.w.length cap2) ∧ W.cell? ⟨w.heap.size, 3, none⟩ = some (.int .i64 e.r.o) ∧ W.cell? ⟨w.heap.size, 4, none⟩ = some (.int .i64 e.r.s) ∧ W.cell? ⟨w.heap.size, 5, none⟩ = some (.int .i64 e.r.w) ∧ W.cell? ⟨w.heap.size, 6, none⟩ = some (.int .i64 e.r.c) ∧ W.cell? ⟨w.heap.size, 7, none⟩ = some (.string e.r.t)) ∧ (W.cell? ⟨ge, oe + 8, none⟩ = some (.int .i64 e.k) ∧ W.cell? ⟨ge, oe + 9, none⟩ = some (.slice adA e.v.length capA) ∧ W.cell? ⟨ge, oe + 10, none⟩ = some (.slice adB e.w.length capB) ∧ W.cell? ⟨ge, oe + 11, none⟩ = some (.int .i64 e.r.o) ∧ W.cell? ⟨ge, oe + 12, none⟩ = some (.int .i64 e.r.s) ∧ W.cell? ⟨ge, oe + 13, none⟩ = some (.int .i64 e.r.w) ∧ W.cell? ⟨ge, oe + 14, none⟩ = some (.int .i64 e.r.c) ∧ W.cell? ⟨ge, oe + 15, none⟩ = some (.string e.r.t))) (by kernel_rfl) (HS.out _ (Below.refl _ _).drew) (fun hHeld => ?_)
                refine take_ok (i := 0) (d := 94) (v := ?_) rfl rfl (by kernel_rfl) (by kernel_rfl) (by kernel_rfl) (fun _ _ _ h => h) (Or.inl ⟨by rfl, ?_⟩) (by assumption) ?_
                rotate_left
                · intro w9 hSw
                  try dsimp only at hSw
                  first | (go_simp; done) | (go_simp; with_reducible rfl)
                try simp only [Act.put, List.setIfInBounds_toArray, List.set_cons_zero, List.set_cons_succ]
                refine take_ok (i := 1) (d := 95) (v := ?_) rfl rfl (by kernel_rfl) (by kernel_rfl) (by kernel_rfl) (fun _ _ _ h => h) (Or.inl ⟨by rfl, ?_⟩) (by assumption) ?_
                rotate_left
                · intro w9 hSw
                  try dsimp only at hSw
                  first | (go_simp; done) | (go_simp; with_reducible rfl)
                try simp only [Act.put, List.setIfInBounds_toArray, List.set_cons_zero, List.set_cons_succ]
                refine take_ok (i := 2) (d := 96) (v := ?_) rfl rfl (by kernel_rfl) (by kernel_rfl) (by kernel_rfl) (fun _ _ _ h => h) (Or.inl ⟨by rfl, ?_⟩) (by assumption) ?_
                rotate_left
                · intro w9 hSw
                  try dsimp only at hSw
                  first | (go_simp; done) | (go_simp; with_reducible rfl)
                try simp only [Act.put, List.setIfInBounds_toArray, List.set_cons_zero, List.set_cons_succ]
                refine take_ok (i := 3) (d := 97) (v := ?_) rfl rfl (by kernel_rfl) (by kernel_rfl) (by kernel_rfl) (fun _ _ _ h => h) (Or.inl ⟨by rfl, ?_⟩) (by assumption) ?_
                rotate_left
                · intro w9 hSw
                  try dsimp only at hSw
                  first | (go_simp; done) | (go_simp; with_reducible rfl)
                try simp only [Act.put, List.setIfInBounds_toArray, List.set_cons_zero, List.set_cons_succ]
                refine take_ok (i := 4) (d := 98) (v := ?_) rfl rfl (by kernel_rfl) (by kernel_rfl) (by kernel_rfl) (fun _ _ _ h => h) (Or.inl ⟨by rfl, ?_⟩) (by assumption) ?_
                rotate_left
                · intro w9 hSw
                  try dsimp only at hSw
                  first | (go_simp; done) | (go_simp; with_reducible rfl)
                try simp only [Act.put, List.setIfInBounds_toArray, List.set_cons_zero, List.set_cons_succ]
                refine take_ok (i := 5) (d := 99) (v := ?_) rfl rfl (by kernel_rfl) (by kernel_rfl) (by kernel_rfl) (fun _ _ _ h => h) (Or.inl ⟨by rfl, ?_⟩) (by assumption) ?_
                rotate_left
                · intro w9 hSw
                  try dsimp only at hSw
                  first | (go_simp; done) | (go_simp; with_reducible rfl)
                try simp only [Act.put, List.setIfInBounds_toArray, List.set_cons_zero, List.set_cons_succ]
                refine take_ok (i := 6) (d := 100) (v := ?_) rfl rfl (by kernel_rfl) (by kernel_rfl) (by kernel_rfl) (fun _ _ _ h => h) (Or.inl ⟨by rfl, ?_⟩) (by assumption) ?_
                rotate_left
                · intro w9 hSw
                  try dsimp only at hSw
                  first | (go_simp; done) | (go_simp; with_reducible rfl)
                try simp only [Act.put, List.setIfInBounds_toArray, List.set_cons_zero, List.set_cons_succ]
                refine take_ok (i := 7) (d := 101) (v := ?_) rfl rfl (by kernel_rfl) (by kernel_rfl) (by kernel_rfl) (fun _ _ _ h => h) (Or.inl ⟨by rfl, ?_⟩) (by assumption) ?_
                rotate_left
                · intro w9 hSw
                  try dsimp only at hSw
                  first | (go_simp; done) | (go_simp; with_reducible rfl)
                try simp only [Act.put, List.setIfInBounds_toArray, List.set_cons_zero, List.set_cons_succ]
                refine take_ok (i := 8) (d := 102) (v := ?_) rfl rfl (by kernel_rfl) (by kernel_rfl) (by kernel_rfl) (fun _ _ _ h => h) (Or.inl ⟨by rfl, ?_⟩) (by assumption) ?_
                rotate_left
                · intro w9 hSw
                  try dsimp only at hSw
                  first | (go_simp; done) | (go_simp; with_reducible rfl)
                try simp only [Act.put, List.setIfInBounds_toArray, List.set_cons_zero, List.set_cons_succ]
                refine take_ok (i := 9) (d := 103) (v := ?_) rfl rfl (by kernel_rfl) (by kernel_rfl) (by kernel_rfl) (fun _ _ _ h => h) (Or.inl ⟨by rfl, ?_⟩) (by assumption) ?_
                rotate_left
                · intro w9 hSw
                  try dsimp only at hSw
                  first | (go_simp; done) | (go_simp; with_reducible rfl)
                try simp only [Act.put, List.setIfInBounds_toArray, List.set_cons_zero, List.set_cons_succ]
                refine take_ok (i := 10) (d := 104) (v := ?_) rfl rfl (by kernel_rfl) (by kernel_rfl) (by kernel_rfl) (fun _ _ _ h => h) (Or.inl ⟨by rfl, ?_⟩) (by assumption) ?_
                rotate_left
                · intro w9 hSw
                  try dsimp only at hSw
                  first | (go_simp; done) | (go_simp; with_reducible rfl)
                try simp only [Act.put, List.setIfInBounds_toArray, List.set_cons_zero, List.set_cons_succ]
                refine take_ok (i := 11) (d := 105) (v := ?_) rfl rfl (by kernel_rfl) (by kernel_rfl) (by kernel_rfl) (fun _ _ _ h => h) (Or.inl ⟨by rfl, ?_⟩) (by assumption) ?_
                rotate_left
                · intro w9 hSw
                  try dsimp only at hSw
                  first | (go_simp; done) | (go_simp; with_reducible rfl)
                try simp only [Act.put, List.setIfInBounds_toArray, List.set_cons_zero, List.set_cons_succ]
                refine take_ok (i := 12) (d := 106) (v := ?_) rfl rfl (by kernel_rfl) (by kernel_rfl) (by kernel_rfl) (fun _ _ _ h => h) (Or.inl ⟨by rfl, ?_⟩) (by assumption) ?_
                rotate_left
                · intro w9 hSw
                  try dsimp only at hSw
                  first | (go_simp; done) | (go_simp; with_reducible rfl)
                try simp only [Act.put, List.setIfInBounds_toArray, List.set_cons_zero, List.set_cons_succ]
                refine take_ok (i := 13) (d := 107) (v := ?_) rfl rfl (by kernel_rfl) (by kernel_rfl) (by kernel_rfl) (fun _ _ _ h => h) (Or.inl ⟨by rfl, ?_⟩) (by assumption) ?_
                rotate_left
                · intro w9 hSw
                  try dsimp only at hSw
                  first | (go_simp; done) | (go_simp; with_reducible rfl)
                try simp only [Act.put, List.setIfInBounds_toArray, List.set_cons_zero, List.set_cons_succ]
                refine wpAnyH_ready (rs := [14]) (by kernel_rfl) (by simp) ?_
                refine AllReadyH.cons rfl (fun K hK => ?_) AllReadyH.nil
                go_simp
                refine (CSx.out _ (by first | exact (Below.refl _ _).drew | exact Below.refl _ _)).mono ?_
                rintro x w17 ⟨rfl, b17⟩
                have b17' : Below wc.heap.size wc w17 := bn (by first | exact (Below.refl _ _).drew | exact Below.refl _ _) b17
                refine hK.out _ _ (HS.out _ b17') (fun hHeld => ?_)
                clear hK K
                try simp only [Act.put, List.setIfInBounds_toArray, List.set_cons_zero, List.set_cons_succ]
                refine take_ok (i := 15) (d := 109) (v := ?_) rfl rfl (by kernel_rfl) (by kernel_rfl) (by kernel_rfl) (fun _ _ _ h => h) (Or.inl ⟨by rfl, ?_⟩) (by assumption) ?_
                rotate_left
                · intro w9 hSw
                  try dsimp only at hSw
                  first | (go_simp; done) | (go_simp; with_reducible rfl)
                try simp only [Act.put, List.setIfInBounds_toArray, List.set_cons_zero, List.set_cons_succ]
                refine take_ok (i := 16) (d := 110) (v := ?_) rfl rfl (by kernel_rfl) (by kernel_rfl) (by kernel_rfl) (fun _ _ _ h => h) (Or.inl ⟨by rfl, ?_⟩) (by assumption) ?_
                rotate_left
                · intro w9 hSw
                  try dsimp only at hSw
                  first | (go_simp; done) | (go_simp; with_reducible rfl)
                try simp only [Act.put, List.setIfInBounds_toArray, List.set_cons_zero, List.set_cons_succ]
                refine take_ok (i := 17) (d := 111) (v := ?_) rfl rfl (by kernel_rfl) (by kernel_rfl) (by kernel_rfl) (fun _ _ _ h => h) (Or.inl ⟨by rfl, ?_⟩) (by assumption) ?_
                rotate_left
                · intro w9 hSw
                  try dsimp only at hSw
                  first | (go_simp; done) | (go_simp; with_reducible rfl)
                try simp only [Act.put, List.setIfInBounds_toArray, List.set_cons_zero, List.set_cons_succ]
                refine take_ok (i := 18) (d := 112) (v := ?_) rfl rfl (by kernel_rfl) (by kernel_rfl) (by kernel_rfl) (fun _ _ _ h => h) (Or.inl ⟨by rfl, ?_⟩) (by assumption) ?_
                rotate_left
                · intro w9 hSw
                  try dsimp only at hSw
                  first | (go_simp; done) | (go_simp; with_reducible rfl)
                try simp only [Act.put, List.setIfInBounds_toArray, List.set_cons_zero, List.set_cons_succ]
                refine take_ok (i := 19) (d := 113) (v := ?_) rfl rfl (by kernel_rfl) (by kernel_rfl) (by kernel_rfl) (fun _ _ _ h => h) (Or.inl ⟨by rfl, ?_⟩) (by assumption) ?_
                rotate_left
                · intro w9 hSw
                  try dsimp only at hSw
                  first | (go_simp; done) | (go_simp; with_reducible rfl)
                try simp only [Act.put, List.setIfInBounds_toArray, List.set_cons_zero, List.set_cons_succ]
                refine take_ok (i := 20) (d := 114) (v := ?_) rfl rfl (by kernel_rfl) (by kernel_rfl) (by kernel_rfl) (fun _ _ _ h => h) (Or.inl ⟨by rfl, ?_⟩) (by assumption) ?_
                rotate_left
                · intro w9 hSw
                  try dsimp only at hSw
                  first | (go_simp; done) | (go_simp; with_reducible rfl)
                try simp only [Act.put, List.setIfInBounds_toArray, List.set_cons_zero, List.set_cons_succ]
                refine take_ok (i := 21) (d := 115) (v := ?_) rfl rfl (by kernel_rfl) (by kernel_rfl) (by kernel_rfl) (fun _ _ _ h => h) (Or.inl ⟨by rfl, ?_⟩) (by assumption) ?_
                rotate_left
                · intro w9 hSw
                  try dsimp only at hSw
                  first | (go_simp; done) | (go_simp; with_reducible rfl)
                try simp only [Act.put, List.setIfInBounds_toArray, List.set_cons_zero, List.set_cons_succ]
                refine take_ok (i := 22) (d := 116) (v := ?_) rfl rfl (by kernel_rfl) (by kernel_rfl) (by kernel_rfl) (fun _ _ _ h => h) (Or.inl ⟨by rfl, ?_⟩) (by assumption) ?_
                rotate_left
                · intro w9 hSw
                  try dsimp only at hSw
                  first | (go_simp; done) | (go_simp; with_reducible rfl)
                try simp only [Act.put, List.setIfInBounds_toArray, List.set_cons_zero, List.set_cons_succ]
                refine take_ok (i := 23) (d := 117) (v := ?_) rfl rfl (by kernel_rfl) (by kernel_rfl) (by kernel_rfl) (fun _ _ _ h => h) (Or.inl ⟨by rfl, ?_⟩) (by assumption) ?_
                rotate_left
                · intro w9 hSw
                  try dsimp only at hSw
                  first | (go_simp; done) | (go_simp; with_reducible rfl)
                try simp only [Act.put, List.setIfInBounds_toArray, List.set_cons_zero, List.set_cons_succ]
                refine take_ok (i := 24) (d := 118) (v := ?_) rfl rfl (by kernel_rfl) (by kernel_rfl) (by kernel_rfl) (fun _ _ _ h => h) (Or.inl ⟨by rfl, ?_⟩) (by assumption) ?_
                rotate_left
                · intro w9 hSw
                  try dsimp only at hSw
                  first | (go_simp; done) | (go_simp; with_reducible rfl)
                try simp only [Act.put, List.setIfInBounds_toArray, List.set_cons_zero, List.set_cons_succ]
                refine take_ok (i := 25) (d := 119) (v := ?_) rfl rfl (by kernel_rfl) (by kernel_rfl) (by kernel_rfl) (fun _ _ _ h => h) (Or.inl ⟨by rfl, ?_⟩) (by assumption) ?_
                rotate_left
                · intro w9 hSw
                  try dsimp only at hSw
                  first | (go_simp; done) | (go_simp; with_reducible rfl)
                try simp only [Act.put, List.setIfInBounds_toArray, List.set_cons_zero, List.set_cons_succ]
                refine take_ok (i := 26) (d := 120) (v := undef) rfl rfl (by kernel_rfl) (by kernel_rfl) (by kernel_rfl) (fun _ _ _ h => h) (Or.inr ⟨by rfl, rfl⟩) (by assumption) ?_
                try simp only [Act.put, List.setIfInBounds_toArray, List.set_cons_zero, List.set_cons_succ]
                refine take_ok (i := 27) (d := 121) (v := undef) rfl rfl (by kernel_rfl) (by kernel_rfl) (by kernel_rfl) (fun _ _ _ h => h) (Or.inr ⟨by rfl, rfl⟩) (by assumption) ?_
                try simp only [Act.put, List.setIfInBounds_toArray, List.set_cons_zero, List.set_cons_succ]
                refine take_ok (i := 28) (d := 122) (v := undef) rfl rfl (by kernel_rfl) (by kernel_rfl) (by kernel_rfl) (fun _ _ _ h => h) (Or.inr ⟨by rfl, rfl⟩) (by assumption) ?_
                try simp only [Act.put, List.setIfInBounds_toArray, List.set_cons_zero, List.set_cons_succ]
                refine take_ok (i := 29) (d := 123) (v := undef) rfl rfl (by kernel_rfl) (by kernel_rfl) (by kernel_rfl) (fun _ _ _ h => h) (Or.inr ⟨by rfl, rfl⟩) (by assumption) ?_
                try simp only [Act.put, List.setIfInBounds_toArray, List.set_cons_zero, List.set_cons_succ]
                refine take_ok (i := 30) (d := 124) (v := undef) rfl rfl (by kernel_rfl) (by kernel_rfl) (by kernel_rfl) (fun _ _ _ h => h) (Or.inr ⟨by rfl, rfl⟩) (by assumption) ?_
                try simp only [Act.put, List.setIfInBounds_toArray, List.set_cons_zero, List.set_cons_succ]
                refine take_ok (i := 31) (d := 125) (v := undef) rfl rfl (by kernel_rfl) (by kernel_rfl) (by kernel_rfl) (fun _ _ _ h => h) (Or.inr ⟨by rfl, rfl⟩) (by assumption) ?_
                try simp only [Act.put, List.setIfInBounds_toArray, List.set_cons_zero, List.set_cons_succ]
                refine take_ok (i := 32) (d := 126) (v := undef) rfl rfl (by kernel_rfl) (by kernel_rfl) (by kernel_rfl) (fun _ _ _ h => h) (Or.inr ⟨by rfl, rfl⟩) (by assumption) ?_
                try simp only [Act.put, List.setIfInBounds_toArray, List.set_cons_zero, List.set_cons_succ]
                refine take_ok (i := 33) (d := 127) (v := undef) rfl rfl (by kernel_rfl) (by kernel_rfl) (by kernel_rfl) (fun _ _ _ h => h) (Or.inr ⟨by rfl, rfl⟩) (by assumption) ?_
                try simp only [Act.put, List.setIfInBounds_toArray, List.set_cons_zero, List.set_cons_succ]
                refine take_ok (i := 34) (d := 128) (v := undef) rfl rfl (by kernel_rfl) (by kernel_rfl) (by kernel_rfl) (fun _ _ _ h => h) (Or.inr ⟨by rfl, rfl⟩) (by assumption) ?_
                try simp only [Act.put, List.setIfInBounds_toArray, List.set_cons_zero, List.set_cons_succ]
                refine take_ok (i := 35) (d := 129) (v := undef) rfl rfl (by kernel_rfl) (by kernel_rfl) (by kernel_rfl) (fun _ _ _ h => h) (Or.inr ⟨by rfl, rfl⟩) (by assumption) ?_
                try simp only [Act.put, List.setIfInBounds_toArray, List.set_cons_zero, List.set_cons_succ]
                refine take_ok (i := 36) (d := 130) (v := undef) rfl rfl (by kernel_rfl) (by kernel_rfl) (by kernel_rfl) (fun _ _ _ h => h) (Or.inr ⟨by rfl, rfl⟩) (by assumption) ?_
                try simp only [Act.put, List.setIfInBounds_toArray, List.set_cons_zero, List.set_cons_succ]
                refine take_ok (i := 37) (d := 131) (v := undef) rfl rfl (by kernel_rfl) (by kernel_rfl) (by kernel_rfl) (fun _ _ _ h => h) (Or.inr ⟨by rfl, rfl⟩) (by assumption) ?_
                try simp only [Act.put, List.setIfInBounds_toArray, List.set_cons_zero, List.set_cons_succ]
                refine take_ok (i := 38) (d := 132) (v := undef) rfl rfl (by kernel_rfl) (by kernel_rfl) (by kernel_rfl) (fun _ _ _ h => h) (Or.inr ⟨by rfl, rfl⟩) (by assumption) ?_
                try simp only [Act.put, List.setIfInBounds_toArray, List.set_cons_zero, List.set_cons_succ]
                refine take_ok (i := 39) (d := 133) (v := ?_) rfl rfl (by kernel_rfl) (by kernel_rfl) (by kernel_rfl) (fun _ _ _ h => h) (Or.inl ⟨by rfl, ?_⟩) (by assumption) ?_
                rotate_left
                · intro w9 hSw
                  try dsimp only at hSw
                  first | (go_simp; done) | (go_simp; with_reducible rfl)
                try simp only [Act.put, List.setIfInBounds_toArray, List.set_cons_zero, List.set_cons_succ]
                refine take_ok (i := 40) (d := 134) (v := ?_) rfl rfl (by kernel_rfl) (by kernel_rfl) (by kernel_rfl) (fun _ _ _ h => h) (Or.inl ⟨by rfl, ?_⟩) (by assumption) ?_
                rotate_left
                · intro w9 hSw
                  try dsimp only at hSw
                  first | (go_simp; done) | (go_simp; with_reducible rfl)
                try simp only [Act.put, List.setIfInBounds_toArray, List.set_cons_zero, List.set_cons_succ]
                refine take_ok (i := 41) (d := 135) (v := ?_) rfl rfl (by kernel_rfl) (by kernel_rfl) (by kernel_rfl) (fun _ _ _ h => h) (Or.inl ⟨by rfl, ?_⟩) (by assumption) ?_
                rotate_left
                · intro w9 hSw
                  try dsimp only at hSw
                  first | (go_simp; done) | (go_simp; with_reducible rfl)
                try simp only [Act.put, List.setIfInBounds_toArray, List.set_cons_zero, List.set_cons_succ]
                refine wpAnyH_ready (rs := [42]) (by kernel_rfl) (by simp) ?_
                refine AllReadyH.cons rfl (fun K hK => ?_) AllReadyH.nil
                go_simp
                refine (awake_c w17 (HT.out.below (bn HBd.out b17'))).mono ?_
                rintro x w18 ⟨rfl, b18⟩
                refine hK.out _ _ (HS.out _ (bn b17' b18)) (fun hHeld => ?_)
                clear hK K
                try simp only [Act.put, List.setIfInBounds_toArray, List.set_cons_zero, List.set_cons_succ]
                refine take_ok (i := 43) (d := 137) (v := ?_) rfl rfl (by kernel_rfl) (by kernel_rfl) (by kernel_rfl) (fun _ _ _ h => h) (Or.inl ⟨by rfl, ?_⟩) (by assumption) ?_
                rotate_left
                · intro w9 hSw
                  try dsimp only at hSw
                  first | (go_simp; done) | (go_simp; with_reducible rfl)
                try simp only [Act.put, List.setIfInBounds_toArray, List.set_cons_zero, List.set_cons_succ]
                refine take_ok (i := 44) (d := 6) (v := ?_) rfl rfl (by kernel_rfl) (by kernel_rfl) (by kernel_rfl) (fun _ _ _ h => h) (Or.inl ⟨by rfl, ?_⟩) (by assumption) ?_
                rotate_left
                · intro w9 hSw
                  try dsimp only at hSw
                  first | (go_simp; done) | (go_simp; with_reducible rfl)
                try simp only [Act.put, List.setIfInBounds_toArray, List.set_cons_zero, List.set_cons_succ]
                refine wpAnyH_done (by kernel_rfl) ?_ _
                go_wp2
                go_ret
                exact ⟨rfl, bn HBd.out (bn b17' b18)⟩
              | false =>
                have hmm : mayE e (N : Int) = false ∨ (e.k == 1) = true := by
                  have := HMB.out
                  cases h1 : mayE e (N : Int)
                  · exact .inl rfl
                  · rw [h1] at this
                    exact .inr (by simpa using this.symm)
                have hrd := unlike_no hN1 hN8 HSE.out hmm
                have hxs2 := HXS.out
                rw [hrd] at hxs2
                obtain ⟨x0, hxe⟩ := one_of_map hxs2
                subst hxe
                have eK : ((K2 : Int) == ((layE (zE N)).length : Int)) = true := by
                  have h := HK2.out
                  rw [hrd] at h
                  simp only at h
                  simp only [beq_iff_eq]
                  omega
                clear hrd hxs2 hmm
                simp only [List.length_cons, List.length_nil, Nat.zero_add]
                go_wp2_with fail
                refine wp_region_held_drew (S := fun _ => True) (by kernel_rfl) trivial (fun hHeld => ?_)
                refine take_ok (i := 0) (d := 94) (v := ?_) rfl rfl (by kernel_rfl) (by kernel_rfl) (by kernel_rfl) (fun _ _ _ h => h) (Or.inl ⟨by rfl, ?_⟩) (by assumption) ?_
                rotate_left
                · intro w9 hSw
                  try dsimp only at hSw
                  first | (go_simp; done) | (go_simp; with_reducible rfl)
                try simp only [Act.put, List.setIfInBounds_toArray, List.set_cons_zero, List.set_cons_succ]
                refine take_ok (i := 1) (d := 95) (v := ?_) rfl rfl (by kernel_rfl) (by kernel_rfl) (by kernel_rfl) (fun _ _ _ h => h) (Or.inl ⟨by rfl, ?_⟩) (by assumption) ?_
                rotate_left
                · intro w9 hSw
                  try dsimp only at hSw
                  first | (go_simp; done) | (go_simp; with_reducible rfl)
                try simp only [Act.put, List.setIfInBounds_toArray, List.set_cons_zero, List.set_cons_succ]
                refine take_ok (i := 2) (d := 96) (v := ?_) rfl rfl (by kernel_rfl) (by kernel_rfl) (by kernel_rfl) (fun _ _ _ h => h) (Or.inl ⟨by rfl, ?_⟩) (by assumption) ?_
                rotate_left
                · intro w9 hSw
                  try dsimp only at hSw
                  first | (go_simp; done) | (go_simp; with_reducible rfl)
                try simp only [Act.put, List.setIfInBounds_toArray, List.set_cons_zero, List.set_cons_succ]
                refine take_ok (i := 3) (d := 97) (v := ?_) rfl rfl (by kernel_rfl) (by kernel_rfl) (by kernel_rfl) (fun _ _ _ h => h) (Or.inl ⟨by rfl, ?_⟩) (by assumption) ?_
                rotate_left
                · intro w9 hSw
                  try dsimp only at hSw
                  first | (go_simp; done) | (go_simp; with_reducible rfl)
                try simp only [Act.put, List.setIfInBounds_toArray, List.set_cons_zero, List.set_cons_succ]
                refine take_ok (i := 4) (d := 98) (v := ?_) rfl rfl (by kernel_rfl) (by kernel_rfl) (by kernel_rfl) (fun _ _ _ h => h) (Or.inl ⟨by rfl, ?_⟩) (by assumption) ?_
                rotate_left
                · intro w9 hSw
                  try dsimp only at hSw
                  first | (go_simp; done) | (go_simp; with_reducible rfl)
                try simp only [Act.put, List.setIfInBounds_toArray, List.set_cons_zero, List.set_cons_succ]
                refine take_ok (i := 5) (d := 99) (v := undef) rfl rfl (by kernel_rfl) (by kernel_rfl) (by kernel_rfl) (fun _ _ _ h => h) (Or.inr ⟨by rfl, rfl⟩) (by assumption) ?_
                try simp only [Act.put, List.setIfInBounds_toArray, List.set_cons_zero, List.set_cons_succ]
                refine take_ok (i := 6) (d := 100) (v := undef) rfl rfl (by kernel_rfl) (by kernel_rfl) (by kernel_rfl) (fun _ _ _ h => h) (Or.inr ⟨by rfl, rfl⟩) (by assumption) ?_
                try simp only [Act.put, List.setIfInBounds_toArray, List.set_cons_zero, List.set_cons_succ]
                refine take_ok (i := 7) (d := 101) (v := undef) rfl rfl (by kernel_rfl) (by kernel_rfl) (by kernel_rfl) (fun _ _ _ h => h) (Or.inr ⟨by rfl, rfl⟩) (by assumption) ?_
                try simp only [Act.put, List.setIfInBounds_toArray, List.set_cons_zero, List.set_cons_succ]
                refine take_ok (i := 8) (d := 102) (v := ?_) rfl rfl (by kernel_rfl) (by kernel_rfl) (by kernel_rfl) (fun _ _ _ h => h) (Or.inl ⟨by rfl, ?_⟩) (by assumption) ?_
                rotate_left
                · intro w9 hSw
                  try dsimp only at hSw
                  first | (go_simp; done) | (go_simp; with_reducible rfl)
                try simp only [Act.put, List.setIfInBounds_toArray, List.set_cons_zero, List.set_cons_succ]
                refine take_ok (i := 9) (d := 103) (v := ?_) rfl rfl (by kernel_rfl) (by kernel_rfl) (by kernel_rfl) (fun _ _ _ h => h) (Or.inl ⟨by rfl, ?_⟩) (by assumption) ?_
                rotate_left
                · intro w9 hSw
                  try dsimp only at hSw
                  first | (go_simp; done) | (go_simp; with_reducible rfl)
                try simp only [Act.put, List.setIfInBounds_toArray, List.set_cons_zero, List.set_cons_succ]
                refine take_ok (i := 10) (d := 104) (v := undef) rfl rfl (by kernel_rfl) (by kernel_rfl) (by kernel_rfl) (fun _ _ _ h => h) (Or.inr ⟨by rfl, rfl⟩) (by assumption) ?_
                try simp only [Act.put, List.setIfInBounds_toArray, List.set_cons_zero, List.set_cons_succ]
                refine take_ok (i := 11) (d := 105) (v := undef) rfl rfl (by kernel_rfl) (by kernel_rfl) (by kernel_rfl) (fun _ _ _ h => h) (Or.inr ⟨by rfl, rfl⟩) (by assumption) ?_
                try simp only [Act.put, List.setIfInBounds_toArray, List.set_cons_zero, List.set_cons_succ]
                refine take_ok (i := 12) (d := 106) (v := undef) rfl rfl (by kernel_rfl) (by kernel_rfl) (by kernel_rfl) (fun _ _ _ h => h) (Or.inr ⟨by rfl, rfl⟩) (by assumption) ?_
                try simp only [Act.put, List.setIfInBounds_toArray, List.set_cons_zero, List.set_cons_succ]
                refine take_ok (i := 13) (d := 107) (v := undef) rfl rfl (by kernel_rfl) (by kernel_rfl) (by kernel_rfl) (fun _ _ _ h => h) (Or.inr ⟨by rfl, rfl⟩) (by assumption) ?_
                try simp only [Act.put, List.setIfInBounds_toArray, List.set_cons_zero, List.set_cons_succ]
                refine take_ok (i := 14) (d := 108) (v := undef) rfl rfl (by kernel_rfl) (by kernel_rfl) (by kernel_rfl) (fun _ _ _ h => h) (Or.inr ⟨by rfl, rfl⟩) (by assumption) ?_
                try simp only [Act.put, List.setIfInBounds_toArray, List.set_cons_zero, List.set_cons_succ]
                refine take_ok (i := 15) (d := 109) (v := ?_) rfl rfl (by kernel_rfl) (by kernel_rfl) (by kernel_rfl) (fun _ _ _ h => h) (Or.inl ⟨by rfl, ?_⟩) (by assumption) ?_
                rotate_left
                · intro w9 hSw
                  try dsimp only at hSw
                  first | (go_simp; done) | (go_simp; with_reducible rfl)
                try simp only [Act.put, List.setIfInBounds_toArray, List.set_cons_zero, List.set_cons_succ]
                refine take_ok (i := 16) (d := 110) (v := ?_) rfl rfl (by kernel_rfl) (by kernel_rfl) (by kernel_rfl) (fun _ _ _ h => h) (Or.inl ⟨by rfl, ?_⟩) (by assumption) ?_
                rotate_left
                · intro w9 hSw
                  try dsimp only at hSw
                  first | (go_simp; done) | (go_simp; with_reducible rfl)
                try simp only [Act.put, List.setIfInBounds_toArray, List.set_cons_zero, List.set_cons_succ]
                refine take_ok (i := 17) (d := 111) (v := undef) rfl rfl (by kernel_rfl) (by kernel_rfl) (by kernel_rfl) (fun _ _ _ h => h) (Or.inr ⟨by rfl, rfl⟩) (by assumption) ?_
                try simp only [Act.put, List.setIfInBounds_toArray, List.set_cons_zero, List.set_cons_succ]
                refine take_ok (i := 18) (d := 112) (v := undef) rfl rfl (by kernel_rfl) (by kernel_rfl) (by kernel_rfl) (fun _ _ _ h => h) (Or.inr ⟨by rfl, rfl⟩) (by assumption) ?_
                try simp only [Act.put, List.setIfInBounds_toArray, List.set_cons_zero, List.set_cons_succ]
                refine take_ok (i := 19) (d := 113) (v := undef) rfl rfl (by kernel_rfl) (by kernel_rfl) (by kernel_rfl) (fun _ _ _ h => h) (Or.inr ⟨by rfl, rfl⟩) (by assumption) ?_
                try simp only [Act.put, List.setIfInBounds_toArray, List.set_cons_zero, List.set_cons_succ]
                refine take_ok (i := 20) (d := 114) (v := undef) rfl rfl (by kernel_rfl) (by kernel_rfl) (by kernel_rfl) (fun _ _ _ h => h) (Or.inr ⟨by rfl, rfl⟩) (by assumption) ?_
                try simp only [Act.put, List.setIfInBounds_toArray, List.set_cons_zero, List.set_cons_succ]
                refine take_ok (i := 21) (d := 115) (v := undef) rfl rfl (by kernel_rfl) (by kernel_rfl) (by kernel_rfl) (fun _ _ _ h => h) (Or.inr ⟨by rfl, rfl⟩) (by assumption) ?_
                try simp only [Act.put, List.setIfInBounds_toArray, List.set_cons_zero, List.set_cons_succ]
                refine take_ok (i := 22) (d := 116) (v := undef) rfl rfl (by kernel_rfl) (by kernel_rfl) (by kernel_rfl) (fun _ _ _ h => h) (Or.inr ⟨by rfl, rfl⟩) (by assumption) ?_
                try simp only [Act.put, List.setIfInBounds_toArray, List.set_cons_zero, List.set_cons_succ]
                refine take_ok (i := 23) (d := 117) (v := undef) rfl rfl (by kernel_rfl) (by kernel_rfl) (by kernel_rfl) (fun _ _ _ h => h) (Or.inr ⟨by rfl, rfl⟩) (by assumption) ?_
                try simp only [Act.put, List.setIfInBounds_toArray, List.set_cons_zero, List.set_cons_succ]
                refine take_ok (i := 24) (d := 118) (v := ?_) rfl rfl (by kernel_rfl) (by kernel_rfl) (by kernel_rfl) (fun _ _ _ h => h) (Or.inl ⟨by rfl, ?_⟩) (by assumption) ?_
                rotate_left
                · intro w9 hSw
                  try dsimp only at hSw
                  first | (go_simp; done) | (go_simp; with_reducible rfl)
                try simp only [Act.put, List.setIfInBounds_toArray, List.set_cons_zero, List.set_cons_succ]
                refine take_ok (i := 25) (d := 119) (v := ?_) rfl rfl (by kernel_rfl) (by kernel_rfl) (by kernel_rfl) (fun _ _ _ h => h) (Or.inl ⟨by rfl, ?_⟩) (by assumption) ?_
                rotate_left
                · intro w9 hSw
                  try dsimp only at hSw
                  first | (go_simp; done) | (go_simp; with_reducible rfl)
                try simp only [Act.put, List.setIfInBounds_toArray, List.set_cons_zero, List.set_cons_succ]
                refine take_ok (i := 26) (d := 120) (v := ?_) rfl rfl (by kernel_rfl) (by kernel_rfl) (by kernel_rfl) (fun _ _ _ h => h) (Or.inl ⟨by rfl, ?_⟩) (by assumption) ?_
                rotate_left
                · intro w9 hSw
                  try dsimp only at hSw
                  first | (go_simp; done) | (go_simp; with_reducible rfl)
                try simp only [Act.put, List.setIfInBounds_toArray, List.set_cons_zero, List.set_cons_succ]
                refine take_ok (i := 27) (d := 121) (v := ?_) rfl rfl (by kernel_rfl) (by kernel_rfl) (by kernel_rfl) (fun _ _ _ h => h) (Or.inl ⟨by rfl, ?_⟩) (by assumption) ?_
                rotate_left
                · intro w9 hSw
                  try dsimp only at hSw
                  first | (go_simp; done) | (go_simp; with_reducible rfl)
                try simp only [Act.put, List.setIfInBounds_toArray, List.set_cons_zero, List.set_cons_succ]
                refine take_ok (i := 28) (d := 122) (v := ?_) rfl rfl (by kernel_rfl) (by kernel_rfl) (by kernel_rfl) (fun _ _ _ h => h) (Or.inl ⟨by rfl, ?_⟩) (by assumption) ?_
                rotate_left
                · intro w9 hSw
                  try dsimp only at hSw
                  first | (go_simp; done) | (go_simp; with_reducible rfl)
                try simp only [Act.put, List.setIfInBounds_toArray, List.set_cons_zero, List.set_cons_succ]
                refine take_ok (i := 29) (d := 123) (v := ?_) rfl rfl (by kernel_rfl) (by kernel_rfl) (by kernel_rfl) (fun _ _ _ h => h) (Or.inl ⟨by rfl, ?_⟩) (by assumption) ?_
                rotate_left
                · intro w9 hSw
                  try dsimp only at hSw
                  first | (go_simp; done) | (go_simp; with_reducible rfl)
                try simp only [Act.put, List.setIfInBounds_toArray, List.set_cons_zero, List.set_cons_succ]
                refine take_ok (i := 30) (d := 124) (v := ?_) rfl rfl (by kernel_rfl) (by kernel_rfl) (by kernel_rfl) (fun _ _ _ h => h) (Or.inl ⟨by rfl, ?_⟩) (by assumption) ?_
                rotate_left
                · intro w9 hSw
                  try dsimp only at hSw
                  first | (go_simp; done) | (go_simp; with_reducible rfl)
                try simp only [Act.put, List.setIfInBounds_toArray, List.set_cons_zero, List.set_cons_succ]
                refine take_ok (i := 31) (d := 125) (v := ?_) rfl rfl (by kernel_rfl) (by kernel_rfl) (by kernel_rfl) (fun _ _ _ h => h) (Or.inl ⟨by rfl, ?_⟩) (by assumption) ?_
                rotate_left
                · intro w9 hSw
                  try dsimp only at hSw
                  first | (go_simp; done) | (go_simp; with_reducible rfl)
                try simp only [Act.put, List.setIfInBounds_toArray, List.set_cons_zero, List.set_cons_succ]
                refine take_ok (i := 32) (d := 126) (v := ?_) rfl rfl (by kernel_rfl) (by kernel_rfl) (by kernel_rfl) (fun _ _ _ h => h) (Or.inl ⟨by rfl, ?_⟩) (by assumption) ?_
                rotate_left
                · intro w9 hSw
                  try dsimp only at hSw
                  first | (go_simp; done) | (go_simp; with_reducible rfl)
                try simp only [Act.put, List.setIfInBounds_toArray, List.set_cons_zero, List.set_cons_succ]
                refine take_ok (i := 33) (d := 127) (v := ?_) rfl rfl (by kernel_rfl) (by kernel_rfl) (by kernel_rfl) (fun _ _ _ h => h) (Or.inl ⟨by rfl, ?_⟩) (by assumption) ?_
                rotate_left
                · intro w9 hSw
                  try dsimp only at hSw
                  first | (go_simp; done) | (go_simp; with_reducible rfl)
                try simp only [Act.put, List.setIfInBounds_toArray, List.set_cons_zero, List.set_cons_succ]
                refine take_ok (i := 34) (d := 128) (v := ?_) rfl rfl (by kernel_rfl) (by kernel_rfl) (by kernel_rfl) (fun _ _ _ h => h) (Or.inl ⟨by rfl, ?_⟩) (by assumption) ?_
                rotate_left
                · intro w9 hSw
                  try dsimp only at hSw
                  first | (go_simp; done) | (go_simp; with_reducible rfl)
                try simp only [Act.put, List.setIfInBounds_toArray, List.set_cons_zero, List.set_cons_succ]
                refine take_ok (i := 35) (d := 129) (v := ?_) rfl rfl (by kernel_rfl) (by kernel_rfl) (by kernel_rfl) (fun _ _ _ h => h) (Or.inl ⟨by rfl, ?_⟩) (by assumption) ?_
                rotate_left
                · intro w9 hSw
                  try dsimp only at hSw
                  first | (go_simp; done) | (go_simp; with_reducible rfl)
                try simp only [Act.put, List.setIfInBounds_toArray, List.set_cons_zero, List.set_cons_succ]
                refine take_ok (i := 36) (d := 130) (v := ?_) rfl rfl (by kernel_rfl) (by kernel_rfl) (by kernel_rfl) (fun _ _ _ h => h) (Or.inl ⟨by rfl, ?_⟩) (by assumption) ?_
                rotate_left
                · intro w9 hSw
                  try dsimp only at hSw
                  first | (go_simp; done) | (go_simp; with_reducible rfl)
                try simp only [Act.put, List.setIfInBounds_toArray, List.set_cons_zero, List.set_cons_succ]
                refine take_ok (i := 37) (d := 131) (v := ?_) rfl rfl (by kernel_rfl) (by kernel_rfl) (by kernel_rfl) (fun _ _ _ h => h) (Or.inl ⟨by rfl, ?_⟩) (by assumption) ?_
                rotate_left
                · intro w9 hSw
                  try dsimp only at hSw
                  first | (go_simp; done) | (go_simp; with_reducible rfl)
                try simp only [Act.put, List.setIfInBounds_toArray, List.set_cons_zero, List.set_cons_succ]
                refine take_ok (i := 38) (d := 132) (v := ?_) rfl rfl (by kernel_rfl) (by kernel_rfl) (by kernel_rfl) (fun _ _ _ h => h) (Or.inl ⟨by rfl, ?_⟩) (by assumption) ?_
                rotate_left
                · intro w9 hSw
                  try dsimp only at hSw
                  first | (go_simp; done) | (go_simp; with_reducible rfl)
                try simp only [Act.put, List.setIfInBounds_toArray, List.set_cons_zero, List.set_cons_succ]
                refine take_ok (i := 39) (d := 133) (v := ?_) rfl rfl (by kernel_rfl) (by kernel_rfl) (by kernel_rfl) (fun _ _ _ h => h) (Or.inl ⟨by rfl, ?_⟩) (by assumption) ?_
                rotate_left
                · intro w9 hSw
                  try dsimp only at hSw
                  first | (go_simp; done) | (go_simp; with_reducible rfl)
                try simp only [Act.put, List.setIfInBounds_toArray, List.set_cons_zero, List.set_cons_succ]
                refine take_ok (i := 40) (d := 134) (v := ?_) rfl rfl (by kernel_rfl) (by kernel_rfl) (by kernel_rfl) (fun _ _ _ h => h) (Or.inl ⟨by rfl, ?_⟩) (by assumption) ?_
                rotate_left
                · intro w9 hSw
                  try dsimp only at hSw
                  first | (go_simp; done) | (go_simp; with_reducible rfl)
                try simp only [Act.put, List.setIfInBounds_toArray, List.set_cons_zero, List.set_cons_succ]
                refine take_ok (i := 41) (d := 135) (v := ?_) rfl rfl (by kernel_rfl) (by kernel_rfl) (by kernel_rfl) (fun _ _ _ h => h) (Or.inl ⟨by rfl, ?_⟩) (by assumption) ?_
                rotate_left
                · intro w9 hSw
                  try dsimp only at hSw
                  first | (go_simp; done) | (go_simp; with_reducible rfl)
                try simp only [Act.put, List.setIfInBounds_toArray, List.set_cons_zero, List.set_cons_succ]
                refine wpAnyH_ready (rs := [42]) (by kernel_rfl) (by simp) ?_
                refine AllReadyH.cons rfl (fun K hK => ?_) AllReadyH.nil
                go_simp
                refine (awake_c _ (HT.out.below HBd.out.drew)).mono ?_
                rintro x w18 ⟨rfl, b18⟩
                have b18' : Below wc.heap.size wc w18 := bn (by first | exact (Below.refl _ _).drew | exact Below.refl _ _) b18
                refine hK.out _ _ trivial (fun hHeld => ?_)
                clear hK K
                try simp only [Act.put, List.setIfInBounds_toArray, List.set_cons_zero, List.set_cons_succ]
                refine take_ok (i := 43) (d := 137) (v := ?_) rfl rfl (by kernel_rfl) (by kernel_rfl) (by kernel_rfl) (fun _ _ _ h => h) (Or.inl ⟨by rfl, ?_⟩) (by assumption) ?_
                rotate_left
                · intro w9 hSw
                  try dsimp only at hSw
                  first | (go_simp; done) | (go_simp; with_reducible rfl)
                try simp only [Act.put, List.setIfInBounds_toArray, List.set_cons_zero, List.set_cons_succ]
                refine take_ok (i := 44) (d := 6) (v := ?_) rfl rfl (by kernel_rfl) (by kernel_rfl) (by kernel_rfl) (fun _ _ _ h => h) (Or.inl ⟨by rfl, ?_⟩) (by assumption) ?_
                rotate_left
                · intro w9 hSw
                  try dsimp only at hSw
                  first | (go_simp; done) | (go_simp; with_reducible rfl)
                try simp only [Act.put, List.setIfInBounds_toArray, List.set_cons_zero, List.set_cons_succ]
                refine wpAnyH_done (by kernel_rfl) ?_ _
                go_wp2
                go_ret
                exact ⟨rfl, bn HBd.out b18'⟩
end Go.Proofs.YtcnpckdchjjeoaaDoor
