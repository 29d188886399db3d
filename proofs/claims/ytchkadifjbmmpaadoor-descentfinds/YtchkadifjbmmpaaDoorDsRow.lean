/-
  Package descent: rows of ranges; key, tops, parts, by contract.
-/
import Derived.Test.YtchkadifjbmmpaaDoorTrOps
import Derived.Test.YtchkadifjbmmpaaDoorWRecBase
namespace Go.Proofs.YtchkadifjbmmpaaDoor
open Go.RowKit Go.Lib Go.Maps
set_option maxRecDepth 100000
set_option linter.unusedSimpArgs false

abbrev Rg := Int × Int × Int
def cs3 : List Rg → List Value
  | [] => []
  | p :: t => .int .i64 p.1 :: .int .i64 p.2.1 :: .int .i64 p.2.2 :: cs3 t
theorem cs3_len : ∀ l : List Rg, (cs3 l).length = l.length * 3
  | [] => rfl
  | p :: t => by simp [cs3, cs3_len t]; omega
theorem cs3_app : ∀ (l l' : List Rg), cs3 (l ++ l') = cs3 l ++ cs3 l'
  | [], _ => rfl
  | p :: t, l' => by simp [cs3, cs3_app t l']
theorem cs3_one : ∀ (l : List Rg), ∀ u ∈ cs3 l, u.oneCell' = true
  | [], u, h => by simp [cs3] at h
  | r :: t, u, h => by
    simp only [cs3, List.mem_cons] at h
    rcases h with rfl | rfl | rfl | h
    · rfl
    · rfl
    · rfl
    · exact cs3_one t u h
theorem cs3_at : ∀ (l : List Rg) (k : Nat) (hk : k < l.length), (cs3 l)[k * 3]? = some (.int .i64 l[k].1) ∧ (cs3 l)[k * 3 + 1]? = some (.int .i64 l[k].2.1) ∧ (cs3 l)[k * 3 + 2]? = some (.int .i64 l[k].2.2)
  | [], _, hk => by simp at hk
  | p :: t, 0, _ => by simp [cs3]
  | p :: t, k + 1, hk => by
    have h := cs3_at t k (by simpa using hk)
    rw [show (k + 1) * 3 = k * 3 + 1 + 1 + 1 from by omega]
    simp only [cs3, List.getElem?_cons_succ, List.getElem_cons_succ]
    exact h
/-- The row v, of one's own from block B on, holds the ranges l. -/
def GRow (w : World) (B : Nat) (v : Value) (l : List Rg) : Prop := w.ownsRow B 75 3 v l.length (cs3 l)
theorem GRow.nil (w : World) (B : Nat) : GRow w B (.slice none 0 0) [] := World.ownsRow_nil _ _ _ _
theorem GRow.below {w w' : World} {B : Nat} {v : Value} {l : List Rg} (h : GRow w B v l) (hb : Below w.heap.size w w') : GRow w' B v l := D.own_below h hb
theorem GRow.mono {w : World} {B B' : Nat} {v : Value} {l : List Rg} (h : GRow w B v l) (hb : B' ≤ B) : GRow w B' v l := D.own_mono h hb
theorem GRow.far {w w' : World} {B : Nat} {v : Value} {l : List Rg} {r : Option Nat} (h : GRow w B v l) (hg : w.grownBy w' r) (hne : ∀ g, r = some g → v.ownBlock ≠ some g) : GRow w' B v l := by
  refine World.ownsRow.kept h hg ?_
  cases hv : v.ownBlock with
  | none => exact .inl rfl
  | some g' => exact .inr fun e => hne g' e.symm hv
theorem GRow.form {w : World} {B : Nat} {v : Value} {l : List Rg} (h : GRow w B v l) : ∃ ad cap, v = .slice ad l.length cap := by
  rcases h.2 with ⟨rfl, h1⟩ | ⟨g2, cap, cur, rfl, _⟩
  · exact ⟨none, 0, by rw [h1]⟩
  · exact ⟨_, _, rfl⟩
theorem GRow.at {w : World} {B : Nat} {ad : Option Addr} {n cap : Nat} {l : List Rg} (h : GRow w B (.slice ad n cap) l) (k : Nat) (hk : k < l.length) : ∃ g, ad = some ⟨g, 0, none⟩ ∧ w.cell? ⟨g, k * 3, none⟩ = some (.int .i64 l[k].1) ∧ w.cell? ⟨g, k * 3 + 1, none⟩ = some (.int .i64 l[k].2.1) ∧ w.cell? ⟨g, k * 3 + 2, none⟩ = some (.int .i64 l[k].2.2) := by
  have h0 := h
  rcases h.2 with ⟨_, h1⟩ | ⟨g2, cap2, cur, e, _⟩
  · omega
  · simp only [Value.slice.injEq] at e
    obtain ⟨rfl, rfl, rfl⟩ := e
    have h1 := cs3_at l k hk
    exact ⟨g2, rfl, (World.ownsRow.cellAt h0 (k * 3) (by omega)).trans h1.1, (World.ownsRow.cellAt h0 (k * 3 + 1) (by omega)).trans h1.2.1, (World.ownsRow.cellAt h0 (k * 3 + 2) (by omega)).trans h1.2.2⟩
theorem rgInfo : (Tryd.prog.info? 75).map (fun i => (i.zero, i.size, i.bytes)) = some (some (.agg #[.int .i64 0, .int .i64 0, .int .i64 0]), 3, 24) := by kernel_rfl
/-- Ranges behind ranges. -/
theorem gapps_run (m l : List Rg) (v : Value) (ad : Option Addr) (cap : Nat) (B : Nat) (w : World) (ty : TypeId) (hv : GRow w B v m) (h : ∀ k (hk : k < l.length), ∃ g, ad = some ⟨g, 0, none⟩ ∧ w.cell? ⟨g, k * 3, none⟩ = some (.int .i64 l[k].1) ∧ w.cell? ⟨g, k * 3 + 1, none⟩ = some (.int .i64 l[k].2.1) ∧ w.cell? ⟨g, k * 3 + 2, none⟩ = some (.int .i64 l[k].2.2)) (hn : m.length + l.length ≤ 1000000) (hB : B ≤ w.heap.size) :
    ∃ A C w1, (Builtin.append_ #[76, 76] ty #[v, .slice ad l.length cap]).run Tryd.prog w = .ok (.slice A (m ++ l).length C) w1 ∧ GRow w1 B (.slice A (m ++ l).length C) (m ++ l) ∧ w.grownBy w1 v.ownBlock ∧ ((Value.slice A (m ++ l).length C).ownBlock = v.ownBlock ∨ (Value.slice A (m ++ l).length C).ownBlock = some w.heap.size) := by
  obtain ⟨i0, hi, hz0, hz1, hz2⟩ := info_parts rgInfo
  obtain ⟨am, cm, rfl⟩ := hv.form
  by_cases h0 : 0 < l.length
  · obtain ⟨g, rfl, _⟩ := h 0 h0
    have h2 : ∀ k (hk : k < l.length), w.cell? ⟨g, k * 3, none⟩ = some (.int .i64 l[k].1) ∧ w.cell? ⟨g, k * 3 + 1, none⟩ = some (.int .i64 l[k].2.1) ∧ w.cell? ⟨g, k * 3 + 2, none⟩ = some (.int .i64 l[k].2.2) := fun k hk => by
      obtain ⟨g', e, hc⟩ := h k hk
      cases e
      exact hc
    obtain ⟨v', w', h1, h3, h4, _, h9⟩ := run_append_own_at (P := Tryd.prog) w B 76 ty 75 i0 _ 3 24 Tryd.underlying76 hi hz0 hz1 hz2 rfl (by decide) (.slice am m.length cm) m.length (cs3 m) hv ⟨g, 0, none⟩ l.length cap (cs3 l) (cs3_len l) (fun j u hu => by
      have hj : j < l.length * 3 := by have := (List.getElem?_eq_some_iff.1 hu).1; rwa [cs3_len] at this
      rw [Go.WideShapes.add_plain, Nat.zero_add]
      have key : ∀ q r, q < l.length → r < 3 → w.cell? ⟨g, q * 3 + r, none⟩ = (cs3 l)[q * 3 + r]? := fun q r hq hr => by
        have h5 := h2 q hq
        have h6 := cs3_at l q hq
        match r, hr with
        | 0, _ => exact h5.1.trans h6.1.symm
        | 1, _ => exact h5.2.1.trans h6.2.1.symm
        | 2, _ => exact h5.2.2.trans h6.2.2.symm
      have hd : j / 3 * 3 + j % 3 = j := by omega
      have := key (j / 3) (j % 3) (by omega) (Nat.mod_lt _ (by decide))
      rw [hd] at this
      rw [this, hu]) (cs3_one l) (by unfold maxLen; omega) (by omega) hB
    have hr : GRow w' B v' (m ++ l) := by
      unfold GRow
      rw [List.length_append, cs3_app]
      exact h3
    obtain ⟨A, C, rfl⟩ := hr.form
    exact ⟨A, C, w', h1, hr, h4, h9⟩
  · obtain rfl : l = [] := List.eq_nil_of_length_eq_zero (by omega)
    refine ⟨am, cm, w, ?_, by rw [List.append_nil]; exact hv, D.grown_refl _ _, .inl (by rw [List.append_nil])⟩
    rw [List.append_nil]
    rcases hv.2 with ⟨e, h1⟩ | ⟨g, cap', cur, e, _, _, hn, _⟩
    · simp only [Value.slice.injEq] at e
      obtain ⟨rfl, h2, rfl⟩ := e
      rw [h2]
      rcases ad with _ | ad
      · simp [Builtin.append_, go_sem, run_underlying Tryd.underlying76]
      · simp [Builtin.append_, go_sem, run_underlying Tryd.underlying76]
    · simp only [Value.slice.injEq] at e
      obtain ⟨rfl, _, rfl⟩ := e
      rcases ad with _ | ad
      · simp [Builtin.append_, go_sem, run_underlying Tryd.underlying76]
        intro hh
        omega
      · simp [Builtin.append_, go_sem, run_underlying Tryd.underlying76]
        intro hh
        omega
/-- One range more. -/
theorem gapp_run (m : List Rg) (x : Rg) (A : Option Addr) (C : Nat) (B : Nat) (w : World) (ty : TypeId) (hv : GRow w B (.slice A m.length C) m) (hn : m.length ≤ 100000) (hB : B ≤ w.heap.size) :
    ∃ A' C' w1, (Builtin.append_ #[76, 76] ty #[.slice A m.length C, .slice (some ⟨w.heap.size, 0, none⟩) 1 1]).run Tryd.prog (w.alloc (.cells #[.int .i64 x.1, .int .i64 x.2.1, .int .i64 x.2.2] 75)) = .ok (.slice A' (m.length + 1) C') w1 ∧ GRow w1 B (.slice A' (m.length + 1) C') (m ++ [x]) ∧ Below B w w1 := by
  have b6 := alloc_below w (.cells #[.int .i64 x.1, .int .i64 x.2.1, .int .i64 x.2.2] 75)
  have hx : R.Bx 75 (w.alloc (.cells #[.int .i64 x.1, .int .i64 x.2.1, .int .i64 x.2.2] 75)) w.heap.size #[.int .i64 x.1, .int .i64 x.2.1, .int .i64 x.2.2] := R.Bx.new _ w _
  obtain ⟨A', C', w1, h1, h2, h3, _⟩ := gapps_run m [x] (.slice A m.length C) (some ⟨w.heap.size, 0, none⟩) 1 B _ ty (hv.below b6) (fun k hk => by
    have hk1 : k < 1 := hk
    match k, hk1 with
    | 0, _ => exact ⟨_, rfl, hx.cell 0, hx.cell 1, hx.cell 2⟩) (by simp; omega) (Nat.le_trans hB b6.size)
  rw [List.length_append, List.length_singleton] at h1 h2
  exact ⟨A', C', w1, h1, h2, (b6.mono hB).trans (D.below_of_grown h3 (Nat.le_trans hB b6.size) (fun g hg => (World.ownsRow.lt hv g hg).1))⟩
theorem key_c (o l i : Int) (w : World) : Calls Tryd.prog 60 #[.agg #[.int .i64 o, .int .i64 l, .int .i64 i]] w fun e w' => e = .returned (.agg #[.int .i64 o, .int .i64 i]) ∧ Below w.heap.size w w' := by
  go_enter Tryd.func60, Tryd.ntmps60
  go_wp2
  have b1 := alloc_below w (.cells #[.int .i64 o, .int .i64 l, .int .i64 i] 75)
  have hx := R.Bx.new 32 (w.alloc (.cells #[.int .i64 o, .int .i64 l, .int .i64 i] 75)) #[.int .i64 o, .int .i64 i]
  have b2 := alloc_below (w.alloc (.cells #[.int .i64 o, .int .i64 l, .int .i64 i] 75)) (.cells #[.int .i64 o, .int .i64 i] 32)
  have r0 := hx.cell 0
  have r1 := hx.cell 1
  simp only [List.getElem?_toArray, List.getElem?_cons_succ, List.getElem?_cons_zero] at r0 r1
  rw [show (w.alloc (.cells #[.int .i64 o, .int .i64 l, .int .i64 i] 75)).heap.size = w.heap.size + 1 by simp] at r0 r1
  refine bodyPost_ret (v := .agg #[.int .i64 o, .int .i64 i]) (by simp [results, Tryd.results60, go_sem, r0, r1]) rfl ⟨rfl, bn b1 b2⟩
/-- The whole ranges of the first origins. -/
def topsL (n : Nat) : List Rg := (List.range n).map fun (j : Nat) => ((j : Int), 0, 0)
theorem topsL_len (n : Nat) : (topsL n).length = n := by simp [topsL]
theorem topsL_next (n : Nat) : topsL (n + 1) = topsL n ++ [((n : Int), 0, 0)] := by simp [topsL, List.range_succ]
set_option maxHeartbeats 4000000 in
theorem tops_c (n : Nat) (w : World) (hn : n ≤ 8) : Calls Tryd.prog 58 #[.int .i64 (n : Int)] w fun e w' => ∃ ad cap, e = .returned (.slice ad n cap) ∧ GRow w' w.heap.size (.slice ad n cap) (topsL n) ∧ Below w.heap.size w w' := by
  have mixed : Tryd.prog.follows .mixedOrders = true := by kernel_rfl
  have R0 : Hid (GRow w w.heap.size (.slice none 0 0) (topsL 0)) := Lib.hid (GRow.nil _ _)
  have hmin : min (n : Int) 8 = (n : Int) := by omega
  have W0 : Hid (Below w.heap.size w w) := Lib.hid (Below.refl _ _)
  go_enter Tryd.func58, Tryd.ntmps58
  go_wp2_with fail
  go_loopw [3, 7] (fun v3 v7 wr => ∃ (j : Nat), j ≤ n ∧ v7 = .int .i64 (j : Int) ∧ Hid (GRow wr w.heap.size v3 (topsL j)) ∧ Hid (Below w.heap.size w wr)) (fun _ v7 _ => n - (RowKit.intOf v7).toNat)
  case atStart => exact ⟨0, by omega, rfl, R0, W0⟩
  case round =>
    obtain ⟨j, hj, rfl, RK, BK⟩ := hrel
    clear R0 W0
    by_cases hp : j < n
    · have HP := Lib.hid hp
      obtain ⟨A, C, rfl⟩ := RK.out.form
      obtain ⟨A', C', w1, run1, r1, b1⟩ := gapp_run (topsL j) ((j : Int), 0, 0) A C w.heap.size wr 76 RK.out (by rw [topsL_len]; omega) BK.out.size
      rw [← topsL_next] at r1
      have HR := Lib.hid run1
      have HR1 := Lib.hid r1
      have HB1 : Hid (Below w.heap.size w w1) := Lib.hid (BK.out.trans b1)
      clear run1 r1 b1
      go_wp2_with (at_builtin; refine D.wpList_append_run rfl _ _ 76 rfl _ _ HR.out ?_; clear HR)
      go_roundw
      case rel => exact ⟨j + 1, HP.out, by go_num, HR1, HB1⟩
      case measure => have := HP.out; simp [RowKit.intOf]; omega
    · obtain rfl : j = n := by omega
      obtain ⟨A, C, rfl⟩ := RK.out.form
      have hln := topsL_len j
      rw [hln] at RK ⊢
      go_wp2_with fail
      go_ret
      exact ⟨A, C, rfl, RK.out, BK.out⟩
/-- A range's parts. -/
def partR (o l i : Int) (j : Nat) : Rg := (o, l + 1, i * 4 + (j : Int))
def partsR (r : Rg) : List Rg := (List.range 4).map (partR r.1 r.2.1 r.2.2)
theorem partsR_len (r : Rg) : (partsR r).length = 4 := by simp [partsR]
def cellsJ (o l i : Int) : Nat → List Value
  | 0 => List.replicate 12 (.int .i64 0)
  | j + 1 => (((cellsJ o l i j).set (j * 3) (.int .i64 o)).set (j * 3 + 1) (.int .i64 (l + 1))).set (j * 3 + 2) (.int .i64 (i * 4 + (j : Int)))
theorem cellsJ_len (o l i : Int) : ∀ j, (cellsJ o l i j).length = 12
  | 0 => rfl
  | j + 1 => by simp [cellsJ, cellsJ_len o l i j]
theorem cellsJ_all (o l i : Int) : cellsJ o l i 4 = cs3 (partsR (o, l, i)) := rfl
set_option maxHeartbeats 4000000 in
theorem parts_c (o : Int) (l i : Nat) (w : World) (hl : l ≤ 5) (hi : i < 1024) : Calls Tryd.prog 62 #[.agg #[.int .i64 o, .int .i64 (l : Int), .int .i64 (i : Int)]] w fun e w' => ∃ g, e = .returned (.slice (some ⟨g, 0, none⟩) 4 4) ∧ GRow w' w.heap.size (.slice (some ⟨g, 0, none⟩) 4 4) (partsR (o, (l : Int), (i : Int))) ∧ Below w.heap.size w w' := by
  have mixed : Tryd.prog.follows .mixedOrders = true := by kernel_rfl
  obtain ⟨i0, hi0, hz0, hz1, hz2⟩ := info_parts rgInfo
  have al := alloc_below w (.cells #[.int .i64 o, .int .i64 (l : Int), .int .i64 (i : Int)] 75)
  have bx0 : R.Bx 75 (w.alloc (.cells #[.int .i64 o, .int .i64 (l : Int), .int .i64 (i : Int)] 75)) w.heap.size #[.int .i64 o, .int .i64 (l : Int), .int .i64 (i : Int)] := R.Bx.new _ w _
  obtain ⟨w1, hw1⟩ : ∃ w1, w1 = w.alloc (.cells #[.int .i64 o, .int .i64 (l : Int), .int .i64 (i : Int)] 75) := ⟨_, rfl⟩
  rw [← hw1] at al bx0
  have hr := run_make (P := Tryd.prog) w1 76 75 i0 _ Tryd.underlying76 hi0 hz0 .i64 .i64 4 4 (by omega) (by omega) (by rw [hz2]; decide) (by omega)
  rw [hz1] at hr
  have hmc : madeCells (Value.agg #[.int .i64 0, .int .i64 0, .int .i64 0]).cells ((4 : Int).toNat * 3) = (List.replicate 12 (Value.int .i64 0)).toArray := by kernel_rfl
  rw [hmc] at hr
  have al2 := alloc_below w1 (.cells (List.replicate 12 (Value.int .i64 0)).toArray 75)
  have R0 : Hid (World.ownsRow (w1.alloc (.cells (List.replicate 12 (Value.int .i64 0)).toArray 75)) w.heap.size 75 3 (.slice (some ⟨w1.heap.size, 0, none⟩) 4 4) 4 (cellsJ o (l : Int) (i : Int) 0)) := Lib.hid
    ⟨rfl, .inr ⟨w1.heap.size, 4, _, rfl, al.size, heap_alloc_new w1 _, Nat.le_refl _, by unfold maxLen; omega, rfl, rfl⟩⟩
  obtain ⟨w2, hw2⟩ : ∃ w2, w2 = w1.alloc (.cells (List.replicate 12 (Value.int .i64 0)).toArray 75) := ⟨_, rfl⟩
  rw [← hw2] at al2 R0 hr
  have W2 : Hid (Below w.heap.size w w2) := Lib.hid (bn al al2)
  have X2 : Hid (R.Bx 75 w2 w.heap.size #[.int .i64 o, .int .i64 (l : Int), .int .i64 (i : Int)]) := Lib.hid (bx0.below al2)
  have hgne : w1.heap.size ≠ w.heap.size := by have := bx0.lt; omega
  have HR : Hid ((Instr.makeSlice 76 (.int .i64 4) (.int .i64 4)).run Tryd.prog (w.alloc (.cells #[.int .i64 o, .int .i64 (l : Int), .int .i64 (i : Int)] 75)) = .ok (.slice (some ⟨w1.heap.size, 0, none⟩) 4 4) w2) := Lib.hid (by rw [← hw1]; exact hr)
  generalize w1.heap.size = g at *
  clear hr al al2 bx0 hi0 hz0 hz1 hz2 hmc hw2 hw1
  go_enter Tryd.func62, Tryd.ntmps62
  go_wp2_with fail
  rw [HR.out]
  clear HR
  go_wp2_with fail
  go_loopw [8] (fun v8 wr => ∃ (j : Nat), j ≤ 4 ∧ v8 = .int .i64 (j : Int) ∧ Hid (World.ownsRow wr w.heap.size 75 3 (.slice (some ⟨g, 0, none⟩) 4 4) 4 (cellsJ o (l : Int) (i : Int) j)) ∧ Hid (R.Bx 75 wr w.heap.size #[.int .i64 o, .int .i64 (l : Int), .int .i64 (i : Int)]) ∧ Hid (Below w.heap.size w wr)) (fun v8 _ => 4 - (RowKit.intOf v8).toNat)
  case atStart => exact ⟨0, by omega, rfl, R0, X2, W2⟩
  case round =>
    obtain ⟨j, hj, rfl, HM, HX, HB⟩ := hrel
    clear R0 X2 W2
    by_cases hp : j < 4
    · have HP := Lib.hid hp
      have hf1 := World.ownsRow.frozenAt HM.out (j * 3)
      have hf2 := World.ownsRow.frozenAt HM.out (j * 3 + 1)
      have hf3 := World.ownsRow.frozenAt HM.out (j * 3 + 2)
      have hcl := cellsJ_len o (l : Int) (i : Int) j
      have hc1 := World.ownsRow.cellAt HM.out (j * 3) (by omega)
      have hc2 := World.ownsRow.cellAt HM.out (j * 3 + 1) (by omega)
      have hc3 := World.ownsRow.cellAt HM.out (j * 3 + 2) (by omega)
      rw [List.getElem?_eq_getElem (by omega)] at hc1 hc2 hc3
      have hlg := (World.ownsRow.lt HM.out g rfl)
      have hl := hlg.2
      have r0 := HX.out.cell 0
      have r1 := HX.out.cell 1
      have r2 := HX.out.cell 2
      simp only [List.getElem?_toArray, List.getElem?_cons_succ, List.getElem?_cons_zero] at r0 r1 r2
      have hxl := HX.out.lt
      obtain ⟨ho1, hg1⟩ := World.ownsRow.stored HM.out (j * 3) (.int .i64 o)
      obtain ⟨ho2, hg2⟩ := World.ownsRow.stored ho1 (j * 3 + 1) (.int .i64 ((l : Int) + 1))
      obtain ⟨ho3, hg3⟩ := World.ownsRow.stored ho2 (j * 3 + 2) (.int .i64 ((i : Int) * 4 + (j : Int)))
      have HO : Hid (World.ownsRow (((wr.setCell ⟨g, j * 3, none⟩ (.int .i64 o)).setCell ⟨g, j * 3 + 1, none⟩ (.int .i64 ((l : Int) + 1))).setCell ⟨g, j * 3 + 2, none⟩ (.int .i64 ((i : Int) * 4 + (j : Int)))) w.heap.size 75 3 (.slice (some ⟨g, 0, none⟩) 4 4) 4 (cellsJ o (l : Int) (i : Int) (j + 1))) := Lib.hid ho3
      have gr := D.grown_trans hg1 (D.grown_trans hg2 hg3)
      have HXX := Lib.hid (HX.out.far gr (fun e => hgne (Option.some.inj e).symm))
      have HBB : Hid (Below w.heap.size w (((wr.setCell ⟨g, j * 3, none⟩ (.int .i64 o)).setCell ⟨g, j * 3 + 1, none⟩ (.int .i64 ((l : Int) + 1))).setCell ⟨g, j * 3 + 2, none⟩ (.int .i64 ((i : Int) * 4 + (j : Int))))) := Lib.hid (HB.out.trans (D.below_of_grown gr HB.out.size (fun _ e => (Option.some.inj e) ▸ hlg.1)))
      generalize (cellsJ o (l : Int) (i : Int) j)[j * 3] = y1 at hc1
      generalize (cellsJ o (l : Int) (i : Int) j)[j * 3 + 1] = y2 at hc2
      generalize (cellsJ o (l : Int) (i : Int) j)[j * 3 + 2] = y3 at hc3
      clear ho1 ho2 ho3 hg1 hg2 hg3 gr hlg hcl
      go_wp2_with fail
      go_roundw
      case rel => exact ⟨j + 1, HP.out, by go_num, HO, HXX, HBB⟩
      case measure => have := HP.out; simp [RowKit.intOf]; omega
    · obtain rfl : j = 4 := by omega
      go_wp2_with fail
      go_ret
      exact ⟨g, rfl, HM.out, HB.out⟩
end Go.Proofs.YtchkadifjbmmpaaDoor
