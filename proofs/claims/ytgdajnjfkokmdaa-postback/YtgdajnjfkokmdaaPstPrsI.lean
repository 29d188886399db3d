/-
  What two rising lists of numbers share, pair by pair: the iterator of the program, by contract.
-/
import Derived.Test.YtgdajnjfkokmdaaPstFold
namespace Go.Proofs.Ytgdajnjfkokmdaa
open Go.RowKit Go.Lib Go.Sort Go.Shelf
set_option maxRecDepth 100000

attribute [local go_sem] Oper.semAt_some Oper.quietIn Oper.quietAtIn Oper.quietUponIn

theorem abides_grow {β : Type} {B : Nat} {J : β → World → Prop} (h : AbidesFrom B J) {s : β} {W : World} (hs : J s W) (q : Nat) (os : Array Obj) : J s (grow (W.drewN q) os) :=
  h s W _ none hs (grown_below (by
    have := below_grow (W.drewN q) os
    exact ⟨this.os, this.tape, this.output, this.size, this.block⟩) none) (fun r e => by cases e)
/-- What a round leaves: all blocks below n₀ but one. -/
structure Kb (n₀ Bk : Nat) (W W' : World) : Prop where
  os : W'.os = W.os
  tape : W'.tape = W.tape
  output : W'.output = W.output
  size : W.heap.size ≤ W'.heap.size
  block : ∀ k, k < n₀ → k ≠ Bk → W'.heap[k]? = W.heap[k]?
theorem Kb.refl (n₀ Bk : Nat) (W : World) : Kb n₀ Bk W W := ⟨rfl, rfl, rfl, Nat.le_refl _, fun _ _ _ => rfl⟩
theorem Kb.trans {n₀ Bk : Nat} {a b c : World} (h : Kb n₀ Bk a b) (k : Kb n₀ Bk b c) : Kb n₀ Bk a c :=
  ⟨k.os.trans h.os, k.tape.trans h.tape, k.output.trans h.output, Nat.le_trans h.size k.size, fun i hi hne => (k.block i hi hne).trans (h.block i hi hne)⟩
theorem Kb.of_below {n₀ Bk N : Nat} {a b : World} (h : Below N a b) (hn : n₀ ≤ N) : Kb n₀ Bk a b := ⟨h.os, h.tape, h.output, h.size, fun i hi _ => h.block i (by omega)⟩
theorem Kb.below {n₀ Bk N : Nat} {a b : World} (h : Kb n₀ Bk a b) (h1 : N ≤ n₀) (h2 : N ≤ Bk) : Below N a b := ⟨h.os, h.tape, h.output, h.size, fun i hi => h.block i (by omega) (by omega)⟩
theorem Kb.cell {n₀ Bk : Nat} {a b : World} (h : Kb n₀ Bk a b) {B k : Nat} (h1 : B < n₀) (h2 : B ≠ Bk) : b.cell? ⟨B, k, none⟩ = a.cell? ⟨B, k, none⟩ := World.cell?_of_block (h.block B h1 h2)
theorem Kb.put {n₀ Bk : Nat} {w : World} (hn : n₀ ≤ w.heap.size) (W : World) (l : Nat) (o o' : Obj) (hl : w.heap.size ≤ l) (h : W.heap[l]? = some o) (h1 : o.isCells = false) (h2 : o.isWalk = false) : Kb n₀ Bk W (W.putObj l o') :=
  Kb.of_below (belowK_b hn W l o o' hl h h1 h2) (Nat.le_refl _)
set_option maxHeartbeats 8000000 in
theorem prsI_in (ly B1 B2 B3 B4 Bk n₀ : Nat) (on : Int) (l m : List Int) (va vb : Value) (J Jx : List (Int × Int) → World → Prop) (hn1 : l.length ≤ 1000000) (hn2 : m.length ≤ 1000000)
    (W w0 : World) (hn₀ : n₀ ≤ W.heap.size) (hw0 : Below w0.heap.size w0 W) (hbk : w0.heap.size ≤ Bk) (hbn : w0.heap.size ≤ n₀) (hb1 : B1 < n₀ ∧ B1 ≠ Bk) (hb2 : B2 < n₀ ∧ B2 ≠ Bk) (hb3 : B3 < n₀ ∧ B3 ≠ Bk) (hb4 : B4 < n₀ ∧ B4 ≠ Bk) (hJ : AbidesFrom W.heap.size J)
    (hY : ∀ pre x W1, J pre W1 → pre.length < l.length → YieldAt Fence.wide 0 Try.prog ly #[.int .i64 x.1, .int .i64 x.2] W1 fun e W' =>
      (e = .returned (.bool true) ∧ J (pre ++ [x]) W' ∧ Kb n₀ Bk W1 W') ∨ (e = .returned (.bool false) ∧ Jx (pre ++ [x]) W'))
    (h1 : W.cell? ⟨B1, 0, none⟩ = some va) (h2 : W.cell? ⟨B2, 0, none⟩ = some vb) (h3 : W.cell? ⟨B3, 0, none⟩ = some (.func (.func 54) #[] #[.pointer (some ⟨B4, 0, none⟩)])) (h4 : W.cell? ⟨B4, 0, none⟩ = some (.int .i64 on))
    (ha : Nl w0 va l) (hb : Nl w0 vb m) (h0 : J [] W) :
    CallsIn Fence.wide 1 Try.prog 71 #[.func (.yield ly) #[] #[], .pointer (some ⟨B1, 0, none⟩), .pointer (some ⟨B2, 0, none⟩), .pointer (some ⟨B3, 0, none⟩)] W fun e W' => (∃ v, e = .returned v) ∧
      ((∃ ys, ys = prs (cmpF on) l m ∧ J ys W') ∨ (∃ pre, pre <+: prs (cmpF on) l m ∧ Jx pre W')) := by
  obtain ⟨ad1, cap1, rfl, k1⟩ := ha.form
  obtain ⟨ad2, cap2, rfl, k2⟩ := hb.form
  have eg : ∀ args w, (callFunc 54 args).run Try.prog w = .ok (.enter 54 args) w := enters_of Try.func54 (by kernel_rfl) rfl
  have mixed : Try.prog.follows .mixedOrders = true := by kernel_rfl
  have K1 := Lib.hid k1
  have K2 := Lib.hid k2
  have HN := Lib.hid hn₀
  have HW0 := Lib.hid hw0
  have HBN := Lib.hid (And.intro hbk hbn)
  have HBB := Lib.hid (And.intro hb1 (And.intro hb2 (And.intro hb3 hb4)))
  have HJ := Lib.hid hJ
  have HY := Lib.hid hY
  have CF := Lib.hid (fun x y B w hB => fol_c x y on B w hB)
  have hcm : ∀ x y, cmpI x (wrap64 (y - on)) = cmpF on x y := fun x y => rfl
  simp only [hcm] at CF
  have HC := Lib.hid (And.intro h1 (And.intro h2 (And.intro h3 h4)))
  clear hw0 hbk hbn hb1 hb2 hb3 hb4 ha hb k1 k2 hn₀ hJ hY hcm h1 h2 h3 h4
  refine callsIn_of_wp Try.func71 rfl (trivial : Fence.wide.fn _) ?_ rfl
  simp only [Try.ntmps71, List.size_toArray, List.length_cons, List.length_nil, Nat.reduceAdd, Nat.reduceSub, Array.replicate_succ, Array.replicate_zero, List.push_toArray, List.append_toArray, List.nil_append, List.cons_append]
  gi_wp2
  gi_loopw [5, 6] (fun v5 v6 wr => ∃ (i j : Nat) (pre : List (Int × Int)), i ≤ l.length ∧ j ≤ m.length ∧ v5 = .int .i64 (i : Int) ∧ v6 = .int .i64 (j : Int) ∧ Hid (J pre wr) ∧ Hid (pre ++ prs (cmpF on) (l.drop i) (m.drop j) = prs (cmpF on) l m) ∧ Hid (Kb n₀ Bk W wr) ∧ Hid (pre.length ≤ i))
    (fun v5 v6 _ => (l.length - (intOf v5).toNat) + (m.length - (intOf v6).toNat))
  case atStart => exact ⟨0, 0, [], by omega, by omega, rfl, rfl, Lib.hid h0, Lib.hid rfl, Lib.hid (Kb.refl _ _ _), Lib.hid (by simp)⟩
  case round =>
    obtain ⟨i, j, pre, hi, hj, rfl, rfl, HJs, HP, HB, HL⟩ := hrel
    have HB' : Hid (Below w0.heap.size w0 wr) := Lib.hid (HW0.out.trans (HB.out.below HBN.out.2 HBN.out.1))
    obtain ⟨⟨x1, y1⟩, ⟨x2, y2⟩, ⟨x3, y3⟩, x4, y4⟩ := HBB.out
    obtain ⟨c1, c2, c3, c4⟩ := HC.out
    replace c1 := (HB.out.cell x1 y1).trans c1
    replace c2 := (HB.out.cell x2 y2).trans c2
    replace c3 := (HB.out.cell x3 y3).trans c3
    replace c4 := (HB.out.cell x4 y4).trans c4
    clear x1 y1 x2 y2 x3 y3 x4 y4
    by_cases hp : i < l.length
    · by_cases hq : j < m.length
      · obtain ⟨b1, o1, rfl, n1⟩ := K1.out (by omega)
        obtain ⟨b2, o2, rfl, n2⟩ := K2.out (by omega)
        have d1 := (n1.below HB'.out) i hp
        have d2 := (n2.below HB'.out) j hq
        have D1 := Lib.hid (List.drop_eq_getElem_cons hp)
        have D2 := Lib.hid (List.drop_eq_getElem_cons hq)
        generalize l[i] = x at d1 D1
        generalize m[j] = y at d2 D2
        have hs' := HP.out
        rw [D1.out, D2.out, prs_cons] at hs'
        have hg1 := World.block_lt_of_cell? _ _ d1
        have hg2 := World.block_lt_of_cell? _ _ d2
        have HPI := Lib.hid hp
        have HQJ := Lib.hid hq
        have f1 : ∀ n os, (grow (wr.drewN n) os).cell? ⟨B1, 0, none⟩ = some (.slice (some ⟨b1, o1, none⟩) l.length cap1) := fun n os => cell_grown (World.block_lt_of_cell? _ _ c1) c1 n os
        have f2 : ∀ n os, (grow (wr.drewN n) os).cell? ⟨B2, 0, none⟩ = some (.slice (some ⟨b2, o2, none⟩) m.length cap2) := fun n os => cell_grown (World.block_lt_of_cell? _ _ c2) c2 n os
        have f3 : ∀ n os, (grow (wr.drewN n) os).cell? ⟨B3, 0, none⟩ = some (.func (.func 54) #[] #[.pointer (some ⟨B4, 0, none⟩)]) := fun n os => cell_grown (World.block_lt_of_cell? _ _ c3) c3 n os
        have f4 : ∀ n os, (grow (wr.drewN n) os).cell? ⟨B4, 0, none⟩ = some (.int .i64 on) := fun n os => cell_grown (World.block_lt_of_cell? _ _ c4) c4 n os
        have f5 : ∀ n os, (grow (wr.drewN n) os).cell? ⟨b1, o1 + i, none⟩ = some (.int .i64 x) := fun n os => cell_grown hg1 d1 n os
        have f6 : ∀ n os, (grow (wr.drewN n) os).cell? ⟨b2, o2 + j, none⟩ = some (.int .i64 y) := fun n os => cell_grown hg2 d2 n os
        have F4 := Lib.hid f4
        clear n1 n2 f4
        generalize hcc : cmpF on x y = c at hs'
        have HCC := Lib.hid hcc
        clear hcc
        gi_wp2_with fail
        refine wpIn_region_quiet (C := fun w' => ∃ p : GrownBy, w' = grow (wr.drewN p.n) p.os) rfl (by assumption) (by kernel_rfl) ⟨⟨1, #[]⟩, by rw [grow_empty]; rfl⟩ ?_
        repeat
          refine wpQuietIn_step (fun _ _ _ _ => trivial) (fun K hK => ?_)
          go_simp
          first
            | (refine hK _ ?_; clear hK K)
            | (apply Exists.intro
               refine ⟨fun p => callsIn_wide.2 ((CF.out x y B4 _ (F4.out p.n p.os)).mono ?_), hK _ ?_⟩
               · rintro e w5 ⟨rfl, rfl⟩
                 exact ⟨by rw [HCC.out], p, rfl⟩
               clear hK K)
        refine wpQuietIn_nil ?_
        intro w6 hw6
        obtain ⟨⟨nq, osq⟩, hw6⟩ := hw6
        have f1' := f1 nq osq
        have f2' := f2 nq osq
        have f5' := f5 nq osq
        have f6' := f6 nq osq
        have B6 : Hid (Below wr.heap.size wr w6) := Lib.hid (by
          rw [hw6]
          have := below_grow (wr.drewN nq) osq
          exact ⟨this.os, this.tape, this.output, this.size, this.block⟩)
        have J6 : Hid (J pre w6) := Lib.hid (by rw [hw6]; exact abides_grow HJ.out HJs.out _ _)
        rw [← hw6] at f1' f2' f5' f6'
        clear hw6 f1 f2 f3 f5 f6 F4 d1 d2 hg1 hg2 c1 c2 c3 c4
        have hg1 := World.block_lt_of_cell? _ _ f5'
        have hg2 := World.block_lt_of_cell? _ _ f6'
        by_cases hc0 : c = 0
        · subst hc0
          obtain ⟨fn, tmps, assign, body, hy, hR0⟩ := HY.out pre (x, y) w6.drew (HJ.out _ _ _ none J6.out (grown_below (below_drewN (Below.refl _ _) 1) none) (fun r e => by cases e)) (by have := HL.out; have := HPI.out; omega)
          have hR := RoundIn.mono (R' := fun e W' => ∃ bb : Bool, e = .returned (.bool bb) ∧ Hid ((bb = true → J (pre ++ [(x, y)]) W' ∧ Kb n₀ Bk w6.drew W') ∧ (bb = false → Jx (pre ++ [(x, y)]) W'))) hR0 (fun e W' h => by
            rcases h with ⟨h, h1, h2⟩ | ⟨h, h1⟩
            · exact ⟨true, h, Lib.hid ⟨fun _ => ⟨h1, h2⟩, fun e => by cases e⟩⟩
            · exact ⟨false, h, Lib.hid ⟨fun e => (by cases e), fun _ => h1⟩⟩)
          clear hR0
          have HS2 : Hid (pre ++ [(x, y)] ++ prs (cmpF on) (l.drop (i + 1)) (m.drop (j + 1)) = prs (cmpF on) l m) := Lib.hid (by rw [← hs', if_pos rfl]; simp)
          clear hs'
          gi_wp2_with fail
          gi_region_with_o (refine RoundIn.mono hR ?_; rintro e w7 ⟨bb, rfl, h7⟩)
          all_goals
            cases bb with
            | false =>
              gi_wp2
              refine bodyPost_ret (results_none rfl _ _ _) rfl ?_
              exact ⟨⟨_, rfl⟩, .inr ⟨pre ++ [(x, y)], ⟨_, HS2.out⟩, h7.out.2 (by trivial)⟩⟩
            | true =>
              gi_wp2
              go_roundw
              case rel => exact ⟨i + 1, j + 1, pre ++ [(x, y)], HPI.out, HQJ.out, by go_num, by go_num, Lib.hid (h7.out.1 (by trivial)).1, HS2, Lib.hid (HB.out.trans ((Kb.of_below (below_drewN B6.out 1) (Nat.le_trans HN.out HB.out.size)).trans (h7.out.1 (by trivial)).2)), Lib.hid (by have := HL.out; simp; omega)⟩
              case measure => have := HPI.out; have := HQJ.out; simp [intOf]; omega
        · have e0 : (c == 0) = false := by simpa using hc0
          rw [if_neg hc0] at hs'
          have HS := Lib.hid hs'
          by_cases hcn : c < 0
          · have e1 : decide (c ≤ 0) = true := by simp; omega
            have e2 : decide (0 ≤ c) = false := by simp; omega
            have HS2 : Hid (pre ++ prs (cmpF on) (l.drop (i + 1)) (m.drop j) = prs (cmpF on) l m) := Lib.hid (by rw [← HS.out, if_pos hcn, D2.out])
            clear hs' HS hc0 hcn
            gi_wp2_with fail
            refine wpIn_region_quiet_lit rfl (by kernel_rfl) (by kernel_rfl) ?_
            repeat
              refine wpQuietIn_step (fun _ _ _ _ => trivial) (fun K hK => ?_)
              go_simp
              refine hK _ ?_
              clear hK K
            refine wpQuietIn_nil ?_
            intro w8 hw8
            obtain ⟨n8, hw8⟩ := hw8
            have B8 : Hid (Below w6.heap.size w6 w8) := Lib.hid (by rw [hw8]; exact below_drewN (Below.refl _ _) n8)
            have J8 : Hid (J pre w8) := Lib.hid (HJ.out _ _ _ none J6.out (grown_below B8.out none) (fun r e => by cases e))
            clear hw8
            gi_wp2
            go_roundw
            case rel => exact ⟨i + 1, j, pre, HPI.out, by have := HQJ.out; omega, by go_num, rfl, J8, HS2, Lib.hid (HB.out.trans (Kb.of_below (bn B6.out B8.out) (Nat.le_trans HN.out HB.out.size))), Lib.hid (by have := HL.out; omega)⟩
            case measure => have := HPI.out; have := HQJ.out; simp [intOf]; omega
          · have e1 : decide (c ≤ 0) = false := by simp; omega
            have e2 : decide (0 ≤ c) = true := by simp; omega
            have HS2 : Hid (pre ++ prs (cmpF on) (l.drop i) (m.drop (j + 1)) = prs (cmpF on) l m) := Lib.hid (by rw [← HS.out, if_neg hcn, D1.out])
            clear hs' HS hc0 hcn
            gi_wp2_with fail
            refine wpIn_region_quiet_lit rfl (by kernel_rfl) (by kernel_rfl) ?_
            repeat
              refine wpQuietIn_step (fun _ _ _ _ => trivial) (fun K hK => ?_)
              go_simp
              refine hK _ ?_
              clear hK K
            refine wpQuietIn_nil ?_
            intro w8 hw8
            obtain ⟨n8, hw8⟩ := hw8
            have B8 : Hid (Below w6.heap.size w6 w8) := Lib.hid (by rw [hw8]; exact below_drewN (Below.refl _ _) n8)
            have J8 : Hid (J pre w8) := Lib.hid (HJ.out _ _ _ none J6.out (grown_below B8.out none) (fun r e => by cases e))
            clear hw8
            gi_wp2
            go_roundw
            case rel => exact ⟨i, j + 1, pre, by have := HPI.out; omega, HQJ.out, rfl, by go_num, J8, HS2, Lib.hid (HB.out.trans (Kb.of_below (bn B6.out B8.out) (Nat.le_trans HN.out HB.out.size))), Lib.hid (by have := HL.out; omega)⟩
            case measure => have := HPI.out; have := HQJ.out; simp [intOf]; omega
      · have hs' := HP.out
        rw [List.drop_of_length_le (l := m) (by omega), prs_nil2, List.append_nil] at hs'
        have HS := Lib.hid hs'
        clear hs'
        gi_wp2
        go_end0
        exact ⟨⟨_, rfl⟩, .inl ⟨pre, HS.out, HJs.out⟩⟩
    · have hs' := HP.out
      rw [List.drop_of_length_le (l := l) (by omega), prs_nil, List.append_nil] at hs'
      have HS := Lib.hid hs'
      clear hs'
      gi_wp2
      go_end0
      exact ⟨⟨_, rfl⟩, .inl ⟨pre, HS.out, HJs.out⟩⟩
end Go.Proofs.Ytgdajnjfkokmdaa
