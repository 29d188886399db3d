/-
  What two rising lists of Posts share, pair by pair: the iterator of the program, by contract.
-/
import Derived.Test.YtgdajnjfkokmdaaPstPrsI
namespace Go.Proofs.Ytgdajnjfkokmdaa
open Go.RowKit Go.Lib Go.Sort Go.Shelf
set_option maxRecDepth 100000

attribute [local go_sem] Oper.semAt_some Oper.quietIn Oper.quietAtIn Oper.quietUponIn

/-- The comparison that both hands over: of the Keys. -/
def cmpP (x y : Pv) : Int := cmpK (x.o, x.s) (y.o, y.s)
def pvv (x : Pv) : Value := .agg #[.int .i64 x.o, .int .i64 x.s, x.a]
theorem bothc_c (x y : Pv) (w : World) : Calls Try.prog 59 #[.agg #[.int .i64 x.o, .int .i64 x.s, x.a], .agg #[.int .i64 y.o, .int .i64 y.s, y.a]] w fun e w' => e = .returned (.int .i64 (cmpP x y)) ∧ ∃ os, w' = grow w.drew os :=
  bykey_g x.o x.s y.o y.s x.a y.a w
set_option maxHeartbeats 8000000 in
theorem prsP_in (ly B1 B2 B3 Bk n₀ : Nat) (l m : List Pv) (va vb : Value) (J Jx : List (Pv × Pv) → World → Prop) (hn1 : l.length ≤ 1000000) (hn2 : m.length ≤ 1000000)
    (W w0 : World) (hn₀ : n₀ ≤ W.heap.size) (hw0 : Below w0.heap.size w0 W) (hbk : w0.heap.size ≤ Bk) (hbn : w0.heap.size ≤ n₀) (hb1 : B1 < n₀ ∧ B1 ≠ Bk) (hb2 : B2 < n₀ ∧ B2 ≠ Bk) (hb3 : B3 < n₀ ∧ B3 ≠ Bk) (hJ : AbidesFrom W.heap.size J)
    (hY : ∀ pre x W1, J pre W1 → x.1 ∈ l → x.2 ∈ m → pre.length < l.length → YieldAt Fence.wide 0 Try.prog ly #[.agg #[.int .i64 x.1.o, .int .i64 x.1.s, x.1.a], .agg #[.int .i64 x.2.o, .int .i64 x.2.s, x.2.a]] W1 fun e W' =>
      (e = .returned (.bool true) ∧ J (pre ++ [x]) W' ∧ Kb n₀ Bk W1 W') ∨ (e = .returned (.bool false) ∧ Jx (pre ++ [x]) W'))
    (h1 : W.cell? ⟨B1, 0, none⟩ = some va) (h2 : W.cell? ⟨B2, 0, none⟩ = some vb) (h3 : W.cell? ⟨B3, 0, none⟩ = some (.func (.func 59) #[] #[]))
    (ha : PRd w0 va l) (hb : PRd w0 vb m) (h0 : J [] W) :
    CallsIn Fence.wide 1 Try.prog 74 #[.func (.yield ly) #[] #[], .pointer (some ⟨B1, 0, none⟩), .pointer (some ⟨B2, 0, none⟩), .pointer (some ⟨B3, 0, none⟩)] W fun e W' => (∃ v, e = .returned v) ∧
      ((∃ ys, ys = prs cmpP l m ∧ J ys W') ∨ (∃ pre, pre <+: prs cmpP l m ∧ Jx pre W')) := by
  obtain ⟨ad1, cap1, rfl, _, k1⟩ := ha
  obtain ⟨ad2, cap2, rfl, _, k2⟩ := hb
  have eg : ∀ args w, (callFunc 59 args).run Try.prog w = .ok (.enter 59 args) w := enters_of Try.func59 (by kernel_rfl) rfl
  have mixed : Try.prog.follows .mixedOrders = true := by kernel_rfl
  have K1 := Lib.hid k1
  have K2 := Lib.hid k2
  have HN := Lib.hid hn₀
  have HW0 := Lib.hid hw0
  have HBN := Lib.hid (And.intro hbk hbn)
  have HBB := Lib.hid (And.intro hb1 (And.intro hb2 hb3))
  have HJ := Lib.hid hJ
  have HY := Lib.hid hY
  have CF := Lib.hid (fun x y w => bothc_c x y w)
  have HC := Lib.hid (And.intro h1 (And.intro h2 h3))
  clear hw0 hbk hbn hb1 hb2 hb3 k1 k2 hn₀ hJ hY h1 h2 h3
  refine callsIn_of_wp Try.func74 rfl (trivial : Fence.wide.fn _) ?_ rfl
  simp only [Try.ntmps74, List.size_toArray, List.length_cons, List.length_nil, Nat.reduceAdd, Nat.reduceSub, Array.replicate_succ, Array.replicate_zero, List.push_toArray, List.append_toArray, List.nil_append, List.cons_append]
  gi_wp2
  gi_loopw [5, 6] (fun v5 v6 wr => ∃ (i j : Nat) (pre : List (Pv × Pv)), i ≤ l.length ∧ j ≤ m.length ∧ v5 = .int .i64 (i : Int) ∧ v6 = .int .i64 (j : Int) ∧ Hid (J pre wr) ∧ Hid (pre ++ prs cmpP (l.drop i) (m.drop j) = prs cmpP l m) ∧ Hid (Kb n₀ Bk W wr) ∧ Hid (pre.length ≤ i))
    (fun v5 v6 _ => (l.length - (intOf v5).toNat) + (m.length - (intOf v6).toNat))
  case atStart => exact ⟨0, 0, [], by omega, by omega, rfl, rfl, Lib.hid h0, Lib.hid rfl, Lib.hid (Kb.refl _ _ _), Lib.hid (by simp)⟩
  case round =>
    obtain ⟨i, j, pre, hi, hj, rfl, rfl, HJs, HP, HB, HL⟩ := hrel
    have HB' : Hid (Below w0.heap.size w0 wr) := Lib.hid (HW0.out.trans (HB.out.below HBN.out.2 HBN.out.1))
    obtain ⟨⟨x1, y1⟩, ⟨x2, y2⟩, x3, y3⟩ := HBB.out
    obtain ⟨c1, c2, c3⟩ := HC.out
    replace c1 := (HB.out.cell x1 y1).trans c1
    replace c2 := (HB.out.cell x2 y2).trans c2
    replace c3 := (HB.out.cell x3 y3).trans c3
    clear x1 y1 x2 y2 x3 y3
    by_cases hp : i < l.length
    · by_cases hq : j < m.length
      · obtain ⟨b1, o1, rfl, n1⟩ := K1.out (by omega)
        obtain ⟨b2, o2, rfl, n2⟩ := K2.out (by omega)
        have d1 := (n1 i hp).below HB'.out
        have d2 := (n2 j hq).below HB'.out
        have D1 := Lib.hid (List.drop_eq_getElem_cons hp)
        have D2 := Lib.hid (List.drop_eq_getElem_cons hq)
        have hm1 := List.getElem_mem hp
        have hm2 := List.getElem_mem hq
        generalize l[i] = x at d1 D1 hm1
        generalize m[j] = y at d2 D2 hm2
        have hs' := HP.out
        rw [D1.out, D2.out, prs_cons] at hs'
        have HCF := Lib.hid (fun W => CF.out x y W)
        have HRR := Lib.hid (fun W hJw => HY.out pre (x, y) W hJw hm1 hm2)
        clear hm1 hm2
        obtain ⟨xo, xs, xa, xn⟩ := x
        obtain ⟨yo, ys, ya, yn⟩ := y
        obtain ⟨d1, d12, d13, _⟩ := d1
        obtain ⟨d2, d22, d23, _⟩ := d2
        simp only at d1 d12 d13 d2 d22 d23
        have hg1 := World.block_lt_of_cell? _ _ d1
        have hg2 := World.block_lt_of_cell? _ _ d2
        have HPI := Lib.hid hp
        have HQJ := Lib.hid hq
        have f1 : ∀ n os, (grow (wr.drewN n) os).cell? ⟨B1, 0, none⟩ = some (.slice (some ⟨b1, o1, none⟩) l.length cap1) := fun n os => cell_grown (World.block_lt_of_cell? _ _ c1) c1 n os
        have f2 : ∀ n os, (grow (wr.drewN n) os).cell? ⟨B2, 0, none⟩ = some (.slice (some ⟨b2, o2, none⟩) m.length cap2) := fun n os => cell_grown (World.block_lt_of_cell? _ _ c2) c2 n os
        have f3 : ∀ n os, (grow (wr.drewN n) os).cell? ⟨B3, 0, none⟩ = some (.func (.func 59) #[] #[]) := fun n os => cell_grown (World.block_lt_of_cell? _ _ c3) c3 n os
        have f5 : ∀ n os, (grow (wr.drewN n) os).cell? ⟨b1, o1 + i * 3, none⟩ = some (.int .i64 xo) := fun n os => cell_grown hg1 d1 n os
        have f52 : ∀ n os, (grow (wr.drewN n) os).cell? ⟨b1, o1 + i * 3 + 1, none⟩ = some (.int .i64 xs) := fun n os => cell_grown (World.block_lt_of_cell? _ _ d12) d12 n os
        have f53 : ∀ n os, (grow (wr.drewN n) os).cell? ⟨b1, o1 + i * 3 + 2, none⟩ = some xa := fun n os => cell_grown (World.block_lt_of_cell? _ _ d13) d13 n os
        have f6 : ∀ n os, (grow (wr.drewN n) os).cell? ⟨b2, o2 + j * 3, none⟩ = some (.int .i64 yo) := fun n os => cell_grown hg2 d2 n os
        have f62 : ∀ n os, (grow (wr.drewN n) os).cell? ⟨b2, o2 + j * 3 + 1, none⟩ = some (.int .i64 ys) := fun n os => cell_grown (World.block_lt_of_cell? _ _ d22) d22 n os
        have f63 : ∀ n os, (grow (wr.drewN n) os).cell? ⟨b2, o2 + j * 3 + 2, none⟩ = some ya := fun n os => cell_grown (World.block_lt_of_cell? _ _ d23) d23 n os
        clear n1 n2
        generalize hcc : cmpP ⟨xo, xs, xa, xn⟩ ⟨yo, ys, ya, yn⟩ = c at hs'
        have HCC := Lib.hid hcc
        clear hcc
        gi_wp2_with fail
        refine wpIn_region_quiet (C := fun w' => ∃ p : GrownBy, w' = grow (wr.drewN p.n) p.os) rfl (by assumption) (by kernel_rfl) ⟨⟨1, #[]⟩, by rw [grow_empty]; rfl⟩ ?_
        repeat
          refine wpQuietIn_step (fun _ _ _ _ => trivial) (fun K hK => ?_)
          go_simp
          first
            | (refine hK _ ?_; clear hK K)
            | (apply Exists.intro
               refine ⟨fun p => callsIn_wide.2 ((HCF.out _).mono ?_), hK _ ?_⟩
               · rintro e w5 ⟨rfl, os5, rfl⟩
                 exact ⟨by rw [HCC.out], ⟨p.n + 1, p.os ++ os5⟩, by show grow (grow ((wr.drewN p.n).drewN 1) p.os) os5 = _; rw [grow_grow, World.drewN_drewN]⟩
               clear hK K)
        refine wpQuietIn_nil ?_
        intro w6 hw6
        obtain ⟨⟨nq, osq⟩, hw6⟩ := hw6
        have f1' := f1 nq osq
        have f2' := f2 nq osq
        have f5' := f5 nq osq
        have f52' := f52 nq osq
        have f53' := f53 nq osq
        have f6' := f6 nq osq
        have f62' := f62 nq osq
        have f63' := f63 nq osq
        have B6 : Hid (Below wr.heap.size wr w6) := Lib.hid (by
          rw [hw6]
          have := below_grow (wr.drewN nq) osq
          exact ⟨this.os, this.tape, this.output, this.size, this.block⟩)
        have J6 : Hid (J pre w6) := Lib.hid (by rw [hw6]; exact abides_grow HJ.out HJs.out _ _)
        rw [← hw6] at f1' f2' f5' f52' f53' f6' f62' f63'
        clear hw6 f1 f2 f3 f5 f52 f53 f6 f62 f63 d1 d12 d13 d2 d22 d23 hg1 hg2 c1 c2 c3
        have hg1 := World.block_lt_of_cell? _ _ f5'
        have hg2 := World.block_lt_of_cell? _ _ f6'
        by_cases hc0 : c = 0
        · subst hc0
          obtain ⟨fn, tmps, assign, body, hy, hR0⟩ := HRR.out w6.drew (HJ.out _ _ _ none J6.out (grown_below (below_drewN (Below.refl _ _) 1) none) (fun r e => by cases e)) (by have := HL.out; have := HPI.out; omega)
          have hR := RoundIn.mono (R' := fun e W' => ∃ bb : Bool, e = .returned (.bool bb) ∧ Hid ((bb = true → J (pre ++ [(⟨xo, xs, xa, xn⟩, ⟨yo, ys, ya, yn⟩)]) W' ∧ Kb n₀ Bk w6.drew W') ∧ (bb = false → Jx (pre ++ [(⟨xo, xs, xa, xn⟩, ⟨yo, ys, ya, yn⟩)]) W'))) hR0 (fun e W' h => by
            rcases h with ⟨h, h1, h2⟩ | ⟨h, h1⟩
            · exact ⟨true, h, Lib.hid ⟨fun _ => ⟨h1, h2⟩, fun e => by cases e⟩⟩
            · exact ⟨false, h, Lib.hid ⟨fun e => (by cases e), fun _ => h1⟩⟩)
          clear hR0
          have HS2 : Hid (pre ++ [(⟨xo, xs, xa, xn⟩, ⟨yo, ys, ya, yn⟩)] ++ prs cmpP (l.drop (i + 1)) (m.drop (j + 1)) = prs cmpP l m) := Lib.hid (by rw [← hs', if_pos rfl]; simp)
          clear hs'
          gi_wp2_with fail
          gi_region_with_o (refine RoundIn.mono hR ?_; rintro e w7 ⟨bb, rfl, h7⟩)
          all_goals
            cases bb with
            | false =>
              gi_wp2
              refine bodyPost_ret (results_none rfl _ _ _) rfl ?_
              exact ⟨⟨_, rfl⟩, .inr ⟨pre ++ [(⟨xo, xs, xa, xn⟩, ⟨yo, ys, ya, yn⟩)], ⟨_, HS2.out⟩, h7.out.2 (by trivial)⟩⟩
            | true =>
              gi_wp2
              go_roundw
              case rel => exact ⟨i + 1, j + 1, pre ++ [(⟨xo, xs, xa, xn⟩, ⟨yo, ys, ya, yn⟩)], HPI.out, HQJ.out, by go_num, by go_num, Lib.hid (h7.out.1 (by trivial)).1, HS2, Lib.hid (HB.out.trans ((Kb.of_below (below_drewN B6.out 1) (Nat.le_trans HN.out HB.out.size)).trans (h7.out.1 (by trivial)).2)), Lib.hid (by have := HL.out; simp; omega)⟩
              case measure => have := HPI.out; have := HQJ.out; simp [intOf]; omega
        · have e0 : (c == 0) = false := by simpa using hc0
          rw [if_neg hc0] at hs'
          have HS := Lib.hid hs'
          by_cases hcn : c < 0
          · have e1 : decide (c ≤ 0) = true := by simp; omega
            have e2 : decide (0 ≤ c) = false := by simp; omega
            have HS2 : Hid (pre ++ prs cmpP (l.drop (i + 1)) (m.drop j) = prs cmpP l m) := Lib.hid (by rw [← HS.out, if_pos hcn, D2.out])
            clear hs' HS hc0 hcn
            gi_wp2_with fail
            refine wpIn_region_quiet_lit rfl (by kernel_rfl) (by kernel_rfl) ?_
            repeat
              refine wpQuietIn_step (fun _ _ _ _ => trivial) (fun K hK => ?_)
              go_simp
              refine hK _ ?_
              clear hK K
            refine wpQuietIn_nil ?_
            intro w8 hw8
            obtain ⟨n8, hw8⟩ := hw8
            have B8 : Hid (Below w6.heap.size w6 w8) := Lib.hid (by rw [hw8]; exact below_drewN (Below.refl _ _) n8)
            have J8 : Hid (J pre w8) := Lib.hid (HJ.out _ _ _ none J6.out (grown_below B8.out none) (fun r e => by cases e))
            clear hw8
            gi_wp2
            go_roundw
            case rel => exact ⟨i + 1, j, pre, HPI.out, by have := HQJ.out; omega, by go_num, rfl, J8, HS2, Lib.hid (HB.out.trans (Kb.of_below (bn B6.out B8.out) (Nat.le_trans HN.out HB.out.size))), Lib.hid (by have := HL.out; omega)⟩
            case measure => have := HPI.out; have := HQJ.out; simp [intOf]; omega
          · have e1 : decide (c ≤ 0) = false := by simp; omega
            have e2 : decide (0 ≤ c) = true := by simp; omega
            have HS2 : Hid (pre ++ prs cmpP (l.drop i) (m.drop (j + 1)) = prs cmpP l m) := Lib.hid (by rw [← HS.out, if_neg hcn, D1.out])
            clear hs' HS hc0 hcn
            gi_wp2_with fail
            refine wpIn_region_quiet_lit rfl (by kernel_rfl) (by kernel_rfl) ?_
            repeat
              refine wpQuietIn_step (fun _ _ _ _ => trivial) (fun K hK => ?_)
              go_simp
              refine hK _ ?_
              clear hK K
            refine wpQuietIn_nil ?_
            intro w8 hw8
            obtain ⟨n8, hw8⟩ := hw8
            have B8 : Hid (Below w6.heap.size w6 w8) := Lib.hid (by rw [hw8]; exact below_drewN (Below.refl _ _) n8)
            have J8 : Hid (J pre w8) := Lib.hid (HJ.out _ _ _ none J6.out (grown_below B8.out none) (fun r e => by cases e))
            clear hw8
            gi_wp2
            go_roundw
            case rel => exact ⟨i, j + 1, pre, by have := HPI.out; omega, HQJ.out, rfl, by go_num, J8, HS2, Lib.hid (HB.out.trans (Kb.of_below (bn B6.out B8.out) (Nat.le_trans HN.out HB.out.size))), Lib.hid (by have := HL.out; omega)⟩
            case measure => have := HPI.out; have := HQJ.out; simp [intOf]; omega
      · have hs' := HP.out
        rw [List.drop_of_length_le (l := m) (by omega), prs_nil2, List.append_nil] at hs'
        have HS := Lib.hid hs'
        clear hs'
        gi_wp2
        go_end0
        exact ⟨⟨_, rfl⟩, .inl ⟨pre, HS.out, HJs.out⟩⟩
    · have hs' := HP.out
      rw [List.drop_of_length_le (l := l) (by omega), prs_nil, List.append_nil] at hs'
      have HS := Lib.hid hs'
      clear hs'
      gi_wp2
      go_end0
      exact ⟨⟨_, rfl⟩, .inl ⟨pre, HS.out, HJs.out⟩⟩
end Go.Proofs.Ytgdajnjfkokmdaa
