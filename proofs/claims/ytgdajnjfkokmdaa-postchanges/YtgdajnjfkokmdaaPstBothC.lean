/-
  both of the program, by contract: the walk.
-/
import Derived.Test.YtgdajnjfkokmdaaPstBoth
namespace Go.Proofs.Ytgdajnjfkokmdaa
open Go.RowKit Go.Lib Go.Sort Go.Shelf
set_option maxRecDepth 100000

attribute [local go_sem] Oper.semAt_some

theorem cell_three_new (w : World) (a b c : Value) (t : TypeId) : ∀ j u, [a, b, c][j]? = some u → (w.alloc (.cells #[a, b, c] t)).cell? ((⟨w.heap.size, 0, none⟩ : Addr).add j) = some u := by
  intro j u hj
  have hx := Bx.new t w #[a, b, c]
  rw [Go.WideShapes.add_plain, Nat.zero_add, hx.cell j]
  simpa using hj
theorem Held.app {w0 W w1 : World} {n₀ Bk : Nat} {qo : List Po} {v v' : Value} {qs : List Pv} {q : Pv} {tmp : Obj} (hv : Boxed W Bk 30 v) (hrow : PRow W n₀ v qs) (hat : ∀ x ∈ qs, AtOk w0 W x.a x.ns) (hps : ps qs = qo) (hq : AtOk w0 W q.a q.ns) (hn : n₀ ≤ W.heap.size)
    (hown : w1.ownsRow n₀ 37 3 v' (qs.length + 1) (csP qs ++ [.int .i64 q.o, .int .i64 q.s, q.a])) (hgrow : (W.alloc tmp).grownBy w1 v.ownBlock) :
    Boxed w1 Bk 30 v ∧ KeepsOthers W (w1.setCell ⟨Bk, 0, none⟩ v') ∧ Kb n₀ Bk W (w1.setCell ⟨Bk, 0, none⟩ v') ∧ Held w0 n₀ Bk (qo ++ [q.p]) (w1.setCell ⟨Bk, 0, none⟩ v') := by
  obtain ⟨h1, h2, h3, h4, h5⟩ := boxed_app hv (by decide) hrow hn hown hgrow
  refine ⟨h1, h4, h5, v', qs ++ [q], h2, ?_, fun x hx => ?_, ?_⟩
  · unfold PRow
    rw [List.length_append, List.length_singleton, csP_app]
    exact h3
  · rcases List.mem_append.1 hx with hx | hx
    · exact (hat x hx).app hv hrow hgrow
    · rw [List.mem_singleton.1 hx]
      exact hq.app hv hrow hgrow
  · rw [← hps]
    simp [ps]
theorem ps_len {qs : List Pv} {qo : List Po} {n : Nat} (h : ps qs = qo) (hn : qo.length ≤ n) : qs.length ≤ n := by
  have h1 : (ps qs).length = qs.length := List.length_map ..
  rw [h] at h1
  omega
theorem nl_cell {w0 W : World} {v : Value} {ns : List Int} (h : AtOk w0 W v ns) : v.oneCell' = true := by
  obtain ⟨A, C, rfl⟩ := h.form
  rfl
set_option maxHeartbeats 8000000 in
theorem both_c (l m : List Pv) (va vb : Value) (cb : Array Value) (kf : List Int → List Int → List Int) (w : World) (ha : PRd w va l) (hb : PRd w vb m) (hn1 : l.length ≤ 100000) (hn2 : m.length ≤ 100000)
    (hk : ∀ x ∈ l, ∀ y ∈ m, ∀ W, Below w.heap.size w W → Calls Try.prog 49 (#[x.a, y.a] ++ cb) W fun e W' => ∃ v, e = .returned v ∧ AtOk w W' v (kf x.ns y.ns) ∧ Below W.heap.size W W') :
    Calls Try.prog 48 #[va, vb, .func (.func 49) #[] cb] w fun e w' => ∃ (v : Value) (qs : List Pv), e = .returned v ∧ PRow w' w.heap.size v qs ∧ (∀ x ∈ qs, AtOk w w' x.a x.ns) ∧ ps qs = bothF kf (prs cmpP l m) ∧ Below w.heap.size w w' := by
  have HA := Lib.hid ha
  have HB := Lib.hid hb
  have HK := Lib.hid hk
  obtain ⟨ad1, cap1, rfl, _⟩ := ha
  obtain ⟨ad2, cap2, rfl, _⟩ := hb
  clear hk
  have CP := Lib.hid (fun a1 a2 n1 c1 n2 c2 W => prspost_c a1 a2 n1 c1 n2 c2 W)
  refine (callsIn_wide (n := 2)).1 ?_
  obtain ⟨i0, hi, hz0, hz1, hz2⟩ := info_parts postInfo
  refine callsIn_of_wp_marks Try.func48 rfl (trivial : Fence.wide.fn _) ?_ rfl
  simp only [Try.ntmps48, List.size_toArray, List.length_cons, List.length_nil, Nat.reduceAdd, Nat.reduceSub, Array.replicate_succ, Array.replicate_zero, List.push_toArray, List.append_toArray, List.nil_append, List.cons_append]
  gi_wp2_with (refine ⟨trivial, ?_⟩; gi_at_call 60; refine (callsIn_wide.2 (CP.out _ _ _ _ _ _ _)).mono ?_; rintro e w' ⟨rfl, rfl⟩)
  obtain ⟨W5, hW5⟩ : ∃ W5, W5 = (((((w.alloc (.cells #[.func (.func 49) #[] cb] 68)).alloc (.cells #[.slice none 0 0] 30)).alloc (.cells #[.slice ad1 l.length cap1] 30)).alloc (.cells #[.slice ad2 m.length cap2] 30)).alloc (.cells #[.func (.func 59) #[] #[]] 79)) := ⟨_, rfl⟩
  have hB0 : Below w.heap.size w W5 := by
    rw [hW5]
    exact ((((((Below.refl _ w).alloc (Nat.le_refl _) _).alloc (by simp) _).alloc (by simp; omega) _).alloc (by simp; omega) _).alloc (by simp; omega) _)
  have hsz : W5.heap.size = w.heap.size + 5 := by rw [hW5]; simp
  have b0 : Boxed W5 w.heap.size 68 (.func (.func 49) #[] cb) := by rw [hW5]; exact ((((Boxed.new w _ _).alloc _).alloc _).alloc _).alloc _
  have b1 : Boxed W5 (w.heap.size + 1) 30 (.slice none 0 0) := by
    rw [hW5]
    have := Boxed.new (w.alloc (.cells #[.func (.func 49) #[] cb] 68)) 30 (.slice none 0 0)
    rw [World.size_alloc] at this
    exact ((this.alloc _).alloc _).alloc _
  have b2 : Boxed W5 (w.heap.size + 1 + 1) 30 (.slice ad1 l.length cap1) := by
    rw [hW5]
    have := Boxed.new ((w.alloc (.cells #[.func (.func 49) #[] cb] 68)).alloc (.cells #[.slice none 0 0] 30)) 30 (.slice ad1 l.length cap1)
    rw [World.size_alloc, World.size_alloc] at this
    exact (this.alloc _).alloc _
  have b3 : Boxed W5 (w.heap.size + 1 + 1 + 1) 30 (.slice ad2 m.length cap2) := by
    rw [hW5]
    have := Boxed.new (((w.alloc (.cells #[.func (.func 49) #[] cb] 68)).alloc (.cells #[.slice none 0 0] 30)).alloc (.cells #[.slice ad1 l.length cap1] 30)) 30 (.slice ad2 m.length cap2)
    rw [World.size_alloc, World.size_alloc, World.size_alloc] at this
    exact this.alloc _
  have b4 : Boxed W5 (w.heap.size + 1 + 1 + 1 + 1) 79 (.func (.func 59) #[] #[]) := by
    rw [hW5]
    have := Boxed.new ((((w.alloc (.cells #[.func (.func 49) #[] cb] 68)).alloc (.cells #[.slice none 0 0] 30)).alloc (.cells #[.slice ad1 l.length cap1] 30)).alloc (.cells #[.slice ad2 m.length cap2] 30)) 79 (.func (.func 59) #[] #[])
    rw [World.size_alloc, World.size_alloc, World.size_alloc, World.size_alloc] at this
    exact this
  rw [← hW5]
  clear hW5
  have hseq : SeqStopsK Fence.wide 1 Try.prog 74 #[.pointer (some ⟨w.heap.size + 1 + 1, 0, none⟩), .pointer (some ⟨w.heap.size + 1 + 1 + 1, 0, none⟩), .pointer (some ⟨w.heap.size + 1 + 1 + 1 + 1, 0, none⟩)] (fun z : { z : Pv × Pv // z.1 ∈ l ∧ z.2 ∈ m } => #[Value.agg #[.int .i64 z.1.1.o, .int .i64 z.1.1.s, z.1.1.a], Value.agg #[.int .i64 z.1.2.o, .int .i64 z.1.2.s, z.1.2.a]]) (Kb W5.heap.size (w.heap.size + 1)) (fun ys => ys.map Subtype.val = prs cmpP l m) (fun pre => pre.map Subtype.val <+: prs cmpP l m) l.length W5 := by
    intro ly J Jx W hW hJ hJx hY h0
    have h := prsP_in ly _ _ _ (w.heap.size + 1) W5.heap.size l m _ _ (fun pre W => ∃ p' : List { z : Pv × Pv // z.1 ∈ l ∧ z.2 ∈ m }, p'.map Subtype.val = pre ∧ J p' W) (fun pre W => ∃ p' : List { z : Pv × Pv // z.1 ∈ l ∧ z.2 ∈ m }, p'.map Subtype.val = pre ∧ Jx p' W) (by omega) (by omega) W w hW.size (hB0.trans (hW.mono (by omega))) (by omega) (by omega) ⟨by omega, by omega⟩ ⟨by omega, by omega⟩ ⟨by omega, by omega⟩
      (fun s A B row ⟨p', h1, h2⟩ hg hr => ⟨p', h1, hJ _ _ _ _ h2 hg hr⟩)
      (fun pre x W1 ⟨p', h1, h2⟩ hx1 hx2 hl => (hY p' ⟨x, hx1, hx2⟩ W1 h2 (by rw [← h1] at hl; simpa using hl)).mono fun e W' h => by
        rcases h with ⟨h3, h4, h5⟩ | ⟨h3, h4⟩
        · exact .inl ⟨h3, ⟨p' ++ [⟨x, hx1, hx2⟩], by rw [List.map_append, h1]; rfl, h4⟩, h5⟩
        · exact .inr ⟨h3, ⟨p' ++ [⟨x, hx1, hx2⟩], by rw [List.map_append, h1]; rfl, h4⟩⟩)
      ((hW.cell (p := ⟨_, 0, none⟩) b2.lt).trans b2.cell) ((hW.cell (p := ⟨_, 0, none⟩) b3.lt).trans b3.cell) ((hW.cell (p := ⟨_, 0, none⟩) b4.lt).trans b4.cell) HA.out HB.out ⟨[], rfl, h0⟩
    refine h.mono ?_
    rintro e W' ⟨h1, ⟨ys, h2, p', h3, h4⟩ | ⟨pre, h2, p', h3, h4⟩⟩
    · exact ⟨h1, .inl ⟨p', h3.trans h2, h4⟩⟩
    · subst h3
      exact ⟨h1, .inr ⟨p', h2, h4⟩⟩
  refine wpIn_rangeFunc_ownH rfl (by omega) (gf := 74) (lb := #[.pointer (some ⟨w.heap.size + 1 + 1, 0, none⟩), .pointer (some ⟨w.heap.size + 1 + 1 + 1, 0, none⟩), .pointer (some ⟨w.heap.size + 1 + 1 + 1 + 1, 0, none⟩)]) rfl (trivial : Fence.wide.fn _) (enters_of Try.func74 (by kernel_rfl) rfl)
    hseq (fun h k => h.trans k) (fun W l o o' hl h h1 h2 => Kb.put (Nat.le_refl _) W l o o' hl h h1 h2) (Below.refl _ _) (fun _ => rfl)
    (fun pre W => Held w W5.heap.size (w.heap.size + 1) (bothF kf (pre.map Subtype.val)) W ∧ Boxed W w.heap.size 68 (.func (.func 49) #[] cb) ∧ Below w.heap.size w W ∧ W5.heap.size ≤ W.heap.size)
    (fun _ _ _ => False)
    (fun s W W' row hs hg hr => ⟨hs.1.nocells hg (fun r e => (hr r e).2), boxed_nocells hs.2.1 hg (fun r e => (hr r e).2), hs.2.2.1.grown hg (by have := hs.2.2.2; omega) (fun k e => by have := (hr k e).1; omega), Nat.le_trans hs.2.2.2 hg.size⟩)
    (fun _ _ _ _ _ hs _ _ => hs)
    ⟨⟨_, [], b1, PRow.nil _ _, fun x hx => (by cases hx), rfl⟩, b0, hB0, Nat.le_refl _⟩
    (fun z a' W => ∃ Bp Bq, W5.heap.size ≤ Bp ∧ W5.heap.size ≤ Bq ∧ Bx 37 W Bp #[.int .i64 z.1.1.o, .int .i64 z.1.1.s, z.1.1.a] ∧ Bx 37 W Bq #[.int .i64 z.1.2.o, .int .i64 z.1.2.s, z.1.2.a] ∧ a' = { tmps := #[.slice ad1 l.length cap1, .slice ad2 m.length cap2, .func (.func 49) #[] cb, undef, undef, .pointer (some ⟨w.heap.size, 0, none⟩), .slice none 0 0, .pointer (some ⟨w.heap.size + 1, 0, none⟩), .pointer (some ⟨Bp, 0, none⟩), .pointer (some ⟨Bq, 0, none⟩), undef, .slice ad1 l.length cap1, .slice ad2 m.length cap2, .func (.func 74) #[] #[.pointer (some ⟨w.heap.size + 1 + 1, 0, none⟩), .pointer (some ⟨w.heap.size + 1 + 1 + 1, 0, none⟩), .pointer (some ⟨w.heap.size + 1 + 1 + 1 + 1, 0, none⟩)], .agg #[.int .i64 z.1.1.o, .int .i64 z.1.1.s, z.1.1.a], .agg #[.int .i64 z.1.2.o, .int .i64 z.1.2.s, z.1.2.a], undef, undef, undef, undef, undef, undef, undef, undef, undef, undef, undef, undef, undef, undef, undef, undef, undef], defers := [] })
    (fun z a' s W W' row ⟨Bp, Bq, h1, h2, h3, h4, h5⟩ hg hr => ⟨Bp, Bq, h1, h2, bx_nocells h3 hg (fun r e => (hr r e).2), bx_nocells h4 hg (fun r e => (hr r e).2), h5⟩) ?assign ?body ?done ?stop
  case assign =>
    rintro ly pre ⟨⟨x, y⟩, hx, hy⟩ W K ⟨hH, hbk, hB, hs5⟩ hK
    obtain ⟨xo, xs, xa, xn⟩ := x
    obtain ⟨yo, ys, ya, yn⟩ := y
    obtain ⟨XA, XC, ex, _⟩ := (HA.out.nls _ hx).form
    obtain ⟨YA, YC, ey, _⟩ := (HB.out.nls _ hy).form
    simp only at ex ey
    subst ex ey
    gi_wp2
    have hb2 := below_two W (.cells #[.int .i64 xo, .int .i64 xs, .slice XA xn.length XC] 37) (.cells #[.int .i64 yo, .int .i64 ys, .slice YA yn.length YC] 37)
    have bp := (Bx.new 37 W #[.int .i64 xo, .int .i64 xs, .slice XA xn.length XC]).below (alloc_below _ (.cells #[.int .i64 yo, .int .i64 ys, .slice YA yn.length YC] 37))
    have bq := Bx.new 37 (W.alloc (.cells #[.int .i64 xo, .int .i64 xs, .slice XA xn.length XC] 37)) #[.int .i64 yo, .int .i64 ys, .slice YA yn.length YC]
    rw [World.size_alloc] at bq
    exact hK _ _ (keeps_of_below hb2) (Kb.of_below hb2 hs5) ⟨hH.below hb2, (hbk.alloc _).alloc _, hB.trans (hb2.mono hB.size), Nat.le_trans hs5 hb2.size⟩ ⟨_, _, hs5, by omega, bp, bq, rfl⟩
  case body =>
    rintro ly pre ⟨⟨x, y⟩, hx, hy⟩ a' W hl ⟨r, hr⟩ ⟨hH, hbk, hB, hs5⟩ ⟨Bp, Bq, hBp, hBq, bp, bq, rfl⟩ hlt
    have CK := Lib.hid (HK.out x hx y hy W hB)
    have nx := HA.out.nls _ hx
    have ny := HB.out.nls _ hy
    obtain ⟨xo, xs, xa, xn⟩ := x
    obtain ⟨yo, ys, ya, yn⟩ := y
    obtain ⟨XA, XC, ex, _⟩ := nx.form
    obtain ⟨YA, YC, ey, _⟩ := ny.form
    simp only at ex ey CK bp bq
    subst ex ey
    have HBF := Lib.hid (bothF_app kf (pre.map Subtype.val) (⟨xo, xs, .slice XA xn.length XC, xn⟩, ⟨yo, ys, .slice YA yn.length YC, yn⟩))
    simp only at HBF
    obtain ⟨rr, hrr⟩ : ∃ rr, rr = kf xn yn := ⟨_, rfl⟩
    rw [← hrr] at CK HBF
    clear hrr
    have hpl : (bothF kf (pre.map Subtype.val)).length ≤ pre.length := by have := bothF_len kf (pre.map Subtype.val); simpa using this
    have HH := Lib.hid hH
    have cbk := hbk.cell
    have p0 := bp.cell 0
    have p1 := bp.cell 1
    have p2 := bp.cell 2
    have q2 := bq.cell 2
    simp only [List.getElem?_toArray, List.getElem?_cons_succ, List.getElem?_cons_zero] at p0 p1 p2 q2
    have hpl0 := bp.lt
    have hql0 := bq.lt
    have HBP := Lib.hid bp
    have HBK := Lib.hid hbk
    have HSZ := Lib.hid hsz
    clear hsz
    have HBB := Lib.hid hB
    rcases Nat.eq_zero_or_pos rr.length with hz | hz
    · obtain rfl : rr = [] := List.eq_nil_of_length_eq_zero hz
      clear hz
      gi_wp2_with (refine ⟨trivial, rfl, ?_⟩; gi_at_call 49; refine (CallsIn.inRound ly (callsIn_wide.2 CK.out)).mono ?_; rintro e W2 ⟨v2, rfl, ok2, bk2⟩; obtain ⟨A2, C2, rfl⟩ := ok2.form; simp only [List.length_nil])
      have hsz := HSZ.out
      have hH2 := HH.out.below bk2
      have hempty : bothF kf (pre.map Subtype.val) = bothF kf ((pre ++ [(⟨(⟨xo, xs, .slice XA xn.length XC, xn⟩, ⟨yo, ys, .slice YA yn.length YC, yn⟩), hx, hy⟩ : { z : Pv × Pv // z.1 ∈ l ∧ z.2 ∈ m })]).map Subtype.val) := by
        rw [List.map_append]
        refine Eq.trans ?_ HBF.out.symm
        simp
      exact ⟨keeps_of_below bk2, Kb.of_below bk2 (by omega), ⟨by rw [← hempty]; exact hH2, (bk2.block _ HBK.out.lt).trans HBK.out, HBB.out.trans (bk2.mono HBB.out.size), by have := bk2.size; omega⟩⟩
    · have e0 : decide ((0 : Int) < (rr.length : Int)) = true := by simp; omega
      have hemp : rr.isEmpty = false := by cases rr with | nil => simp at hz | cons a b => rfl
      have HEM := Lib.hid hemp
      clear hemp
      gi_wp2_with (first
        | (refine ⟨trivial, rfl, ?_⟩; gi_at_call 49; refine (CallsIn.inRound ly (callsIn_wide.2 CK.out)).mono ?_; rintro e W2 ⟨v2, rfl, ok2, bk2⟩; obtain ⟨A2, C2, rfl⟩ := ok2.form; obtain ⟨v, qs, hv, hrow, hat, hps⟩ := HH.out.below bk2; have hc := hv.cell; have HB2 := Lib.hid bk2; have p0' := (bk2.cell (p := ⟨Bp, 0, none⟩) hpl0).trans p0; have p1' := (bk2.cell (p := ⟨Bp, 1, none⟩) hpl0).trans p1; have hlt2 := Nat.lt_of_lt_of_le hpl0 bk2.size; have hlen := ps_len hps hpl; clear bk2 cbk p2 q2 p0 p1)
        | (gi_at_builtin; refine wpListIn_append_own _ rfl _ _ 30 rfl W5.heap.size 37 i0 (.agg #[.int .i64 0, .int .i64 0, .slice none 0 0]) 3 40 Try.underlying30 hi hz0 hz1 hz2 rfl (by decide) _ _ _ rfl (World.ownsRow.alloc hrow _) ⟨W2.heap.size, 0, none⟩ 1 1 [.int .i64 xo, .int .i64 xs, .slice A2 rr.length C2] rfl rfl (cell_three_new _ _ _ _ _) (fun u hu => by simp at hu; rcases hu with rfl | rfl | rfl <;> rfl) (by unfold maxLen; omega) (by omega) (by have := HB2.out.size; simp; omega) ?_; intro v' w1 hown' hgrow _; obtain ⟨g', cap', rfl⟩ := ownsRow_succ hown'; obtain ⟨hv1, hk2, hb2, hh2⟩ := Held.app (q := ⟨xo, xs, .slice A2 rr.length C2, rr⟩) hv hrow hat hps ok2 (by have := HB2.out.size; omega) hown' hgrow; have hc1 := hv1.cell; have hf1 := hv1.frozen))
      have hfull : bothF kf (pre.map Subtype.val) ++ [⟨(xo, xs), rr⟩] = bothF kf ((pre ++ [(⟨(⟨xo, xs, .slice XA xn.length XC, xn⟩, ⟨yo, ys, .slice YA yn.length YC, yn⟩), hx, hy⟩ : { z : Pv × Pv // z.1 ∈ l ∧ z.2 ∈ m })]).map Subtype.val) := by
        rw [List.map_append]
        refine Eq.trans ?_ HBF.out.symm
        rw [HEM.out]
        simp
      have hsz := HSZ.out
      have hkb := (Kb.of_below (Bk := w.heap.size + 1) HB2.out (show W5.heap.size ≤ _ by omega)).trans hb2
      exact ⟨(keeps_of_below HB2.out).trans (hk2.from _), hkb, ⟨by rw [← hfull]; exact hh2, (hkb.block _ (by omega) (by omega)).trans HBK.out, HBB.out.trans (hkb.below (by omega) (by omega)), by have := hkb.size; omega⟩⟩
  case done =>
    rintro D ys W hD hys ⟨⟨v, qs, hv, hrow, hat, hps⟩, _, hB, _⟩ hK
    have hc := hv.cell
    gi_wp2
    refine ⟨by simp, .inl ⟨_, _, rfl, run_takeDeferred hK, ?_⟩⟩
    have hg := grownBy_putObj' W D (.deferred none)
    have hnc : ∀ r, some D = some r → ∃ o : Obj, W.heap[r]? = some o ∧ o.isCells = false := fun r e => by cases e; exact ⟨_, hK, rfl⟩
    exact ⟨_, results_tmp rfl _ _ _, v, qs, rfl, own_mono (row_nocells hrow hg hnc) hB0.size, fun x hx => (hat x hx).nocells hg hnc, by rw [hps, hys], hB.trans (belowK_b (w := W5) (by omega) W D _ _ hD hK rfl rfl)⟩
  case stop =>
    rintro D c pre W _ _ h _
    exact h.elim
end Go.Proofs.Ytgdajnjfkokmdaa
