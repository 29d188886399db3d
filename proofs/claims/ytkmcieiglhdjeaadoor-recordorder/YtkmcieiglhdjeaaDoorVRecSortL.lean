/-
  record's Sort, by contract: the same records, in order, equals as they stood; SameRecords of one list.
-/
import Derived.Test.YtkmcieiglhdjeaaDoorVRecSort
namespace Go.Proofs.YtkmcieiglhdjeaaDoor
open Go.RowKit Go.Lib

/-- l' is l in order, equals as they stood. -/
def Sorts (l l' : List Rc) : Prop := l'.Pairwise Le ∧ Cls l l' ∧ l'.length = l.length
theorem Sorts.unique {l a b : List Rc} (h : Sorts l a) (k : Sorts l b) : a = b := cls_unique _ b a rfl k.1 h.1 (fun x => (h.2.1 x).trans (k.2.1 x).symm)
def dl (l : List Rc) : Nat → Rc := fun k => l.getD k ⟨0, 0, 0, 0, ⟨#[]⟩⟩
theorem dl_at (l : List Rc) (k : Nat) (hk : k < l.length) : dl l k = l[k] := by
  unfold dl
  rw [List.getD_eq_getElem?_getD, List.getElem?_eq_getElem hk]
  rfl
theorem seg_dl (l : List Rc) : seg (dl l) 0 l.length = l := by
  unfold seg
  apply List.ext_getElem
  · simp
  · intro i h1 h2
    simp
    exact dl_at l i h2

def cs5 : List Rc → List Value
  | [] => []
  | r :: t => .int .i64 r.o :: .int .i64 r.s :: .int .i64 r.w :: .int .i64 r.c :: .string r.t :: cs5 t
theorem cs5_len : ∀ l : List Rc, (cs5 l).length = l.length * 5
  | [] => rfl
  | r :: t => by simp [cs5, cs5_len t]; omega
theorem cs5_one : ∀ (l : List Rc), ∀ u ∈ cs5 l, u.oneCell' = true
  | [], u, h => by simp [cs5] at h
  | r :: t, u, h => by
    simp only [cs5, List.mem_cons] at h
    rcases h with rfl | rfl | rfl | rfl | rfl | h
    · rfl
    · rfl
    · rfl
    · rfl
    · rfl
    · exact cs5_one t u h
theorem cs5_at : ∀ (l : List Rc) (k : Nat) (hk : k < l.length), (cs5 l)[k * 5]? = some (.int .i64 l[k].o) ∧ (cs5 l)[k * 5 + 1]? = some (.int .i64 l[k].s) ∧ (cs5 l)[k * 5 + 2]? = some (.int .i64 l[k].w) ∧ (cs5 l)[k * 5 + 3]? = some (.int .i64 l[k].c) ∧ (cs5 l)[k * 5 + 4]? = some (.string l[k].t)
  | [], k, hk => by simp at hk
  | r :: t, 0, _ => by simp [cs5]
  | r :: t, k + 1, hk => by
    have h := cs5_at t k (by simpa using hk)
    rw [show (k + 1) * 5 = k * 5 + 1 + 1 + 1 + 1 + 1 from by omega]
    simp only [cs5, List.getElem_cons_succ]
    refine ⟨?_, ?_, ?_, ?_, ?_⟩
    · simp only [List.getElem?_cons_succ]; exact h.1
    · rw [show k * 5 + 1 + 1 + 1 + 1 + 1 + 1 = (k * 5 + 1) + 1 + 1 + 1 + 1 + 1 from by omega]; simp only [List.getElem?_cons_succ]; exact h.2.1
    · rw [show k * 5 + 1 + 1 + 1 + 1 + 1 + 2 = (k * 5 + 2) + 1 + 1 + 1 + 1 + 1 from by omega]; simp only [List.getElem?_cons_succ]; exact h.2.2.1
    · rw [show k * 5 + 1 + 1 + 1 + 1 + 1 + 3 = (k * 5 + 3) + 1 + 1 + 1 + 1 + 1 from by omega]; simp only [List.getElem?_cons_succ]; exact h.2.2.2.1
    · rw [show k * 5 + 1 + 1 + 1 + 1 + 1 + 4 = (k * 5 + 4) + 1 + 1 + 1 + 1 + 1 from by omega]; simp only [List.getElem?_cons_succ]; exact h.2.2.2.2
theorem Recs.news {w : World} {b o : Nat} {l : List Rc} (h : Recs w b o l) : ∀ j u, (cs5 l)[j]? = some u → w.cell? ((⟨b, o, none⟩ : Addr).add j) = some u := by
  intro j u hu
  have hj : j < l.length * 5 := by have := (List.getElem?_eq_some_iff.1 hu).1; rwa [cs5_len] at this
  have hk : j / 5 < l.length := by omega
  rw [Go.WideShapes.add_plain]
  have h1 := h (j / 5) hk
  have h2 := cs5_at l (j / 5) hk
  have hd : j = j / 5 * 5 + j % 5 := by omega
  have hm : j % 5 < 5 := Nat.mod_lt _ (by decide)
  generalize j / 5 = q at *
  generalize j % 5 = r at *
  subst hd
  match r, hm with
  | 0, _ => rw [show o + (q * 5 + 0) = o + q * 5 from by omega, h1.1, ← hu]; exact h2.1.symm
  | 1, _ => rw [show o + (q * 5 + 1) = o + q * 5 + 1 from by omega, h1.2.1, ← hu]; exact h2.2.1.symm
  | 2, _ => rw [show o + (q * 5 + 2) = o + q * 5 + 2 from by omega, h1.2.2.1, ← hu]; exact h2.2.2.1.symm
  | 3, _ => rw [show o + (q * 5 + 3) = o + q * 5 + 3 from by omega, h1.2.2.2.1, ← hu]; exact h2.2.2.2.1.symm
  | 4, _ => rw [show o + (q * 5 + 4) = o + q * 5 + 4 from by omega, h1.2.2.2.2, ← hu]; exact h2.2.2.2.2.symm

theorem recInfo : (Tryd.prog.info? 27).map (fun i => (i.zero, i.size, i.bytes)) = some (some (.agg #[.int .i64 0, .int .i64 0, .int .i64 0, .int .i64 0, .string ⟨#[]⟩]), 5, 48) := by kernel_rfl

/-- copy, as a step whose answer is known. -/
theorem wpList_copy_run {P : Program} {w : World} {ops : Array Oper} {rest : List Oper} {o : Oper} {a : Act} {Q : Exit → Act → World → Prop} (hgd : o.guard = none) (s x : Operand) (t : TypeId)
    (ho : o.op = .call { callee := .builtin .copy, args := #[s, x], argTypes := #[t, t] }) (v' : Value) (w' : World)
    (hr : (Builtin.copy_ #[t, t] o.type #[a.eval s, a.eval x]).run P w = .ok v' w') (h : wpList P ops Q rest (a.put o.dst v') w') : wpList P ops Q (o :: rest) a w :=
  wpList_plain hgd fun _ hK => by
    unfold Oper.wp execOp
    simp only [ho, resolve, invoke, builtin, Sem.run_bind, Sem.run_pure, Result.andThen_ok, List.map_toArray, List.map_cons, List.map_nil, hr]
    exact hK _ _ h

theorem grown_setCells (g : Nat) : ∀ (vs : List Value) (o : Nat) (w : World), w.grownBy (w.setCells g o vs) (some g)
  | [], _, w => grown_refl _ _
  | v :: r, o, w => by
    rw [World.setCells]
    refine grown_trans ?_ (grown_setCells g r (o + 1) _)
    exact ⟨rfl, rfl, rfl, by simp [World.setCell], fun i hi hne => Below.heap_setCell w ⟨g, o, none⟩ v i (by rintro rfl; exact hne rfl)⟩

/-- What is copied into a row that was just made. -/
theorem rcopy_run (l : List Rc) (v : Value) (w : World) (g : Nat) (ty : TypeId) (h : Rl w v l) (hg : Bx 27 w g (madeCells #[.int .i64 0, .int .i64 0, .int .i64 0, .int .i64 0, .string ⟨#[]⟩] (l.length * 5))) :
    ∃ x w', (Builtin.copy_ #[28, 28] ty #[.slice (some ⟨g, 0, none⟩) l.length l.length, v]).run Tryd.prog w = .ok x w' ∧ Dt w' g l.length (dl l) ∧ w.grownBy w' (some g) := by
  obtain ⟨i0, hi, hz0, hz1, hz2⟩ := info_parts recInfo
  obtain ⟨ad, cap, rfl, _, hb⟩ := h.form
  by_cases h0 : l.length = 0
  · have : l = [] := List.eq_nil_of_length_eq_zero h0
    subst this
    refine ⟨goInt 0, w, ?_, ⟨hg.lt, fun k hk => by simp at hk, fun k hk => by simp at hk, fun k hk => by simp at hk, fun k hk => by simp at hk, fun k hk => by simp at hk, fun j => hg.soft j⟩, grown_refl _ _⟩
    have hl : ∀ (x : Addr), (loadCells x 0).run Tryd.prog w = .ok #[] w := fun x => by simpa using run_loadCells_list (P := Tryd.prog) w x [] (by simp)
    cases ad <;> simp [Builtin.copy_, run_underlying Tryd.underlying28, Builtin.lenOf, Builtin.firstCells, sizeOf, typeInfo, hi, storeCells, hl]
  · obtain ⟨b, o, rfl, hR⟩ := hb (by omega)
    have hc : ∀ j, j < (cs5 l).length → (w.cell? ⟨g, 0 + j, none⟩).isSome = true := fun j hj => by
      rw [Nat.zero_add, hg.cell j, Array.getElem?_eq_getElem (by rw [size_madeCells, ← cs5_len]; exact hj)]
      rfl
    have hl := run_loadCells_list (P := Tryd.prog) w ⟨b, o, none⟩ (cs5 l) hR.news
    have hst := run_storeCells_cells (P := Tryd.prog) g 0 (cs5 l) 0 w (by simpa using hc) (fun j _ => hg.soft _) (cs5_one l)
    rw [cs5_len] at hl
    refine ⟨goInt l.length, w.setCells g 0 (cs5 l), ?_, ?_, grown_setCells g _ 0 w⟩
    · simp [Builtin.copy_, run_underlying Tryd.underlying28, Builtin.lenOf, Builtin.firstCells, sizeOf, typeInfo, hi, hz1, hl, hst]
    · have hin : ∀ j u, (cs5 l)[j]? = some u → (w.setCells g 0 (cs5 l)).cell? ⟨g, j, none⟩ = some u := fun j u hu => by
        have hj := (List.getElem?_eq_some_iff.1 hu).1
        have h1 := World.cell?_setCells_in g (cs5 l) 0 w hc j hj
        rw [Nat.zero_add] at h1
        rw [h1, ← hu, List.getElem?_eq_getElem hj]
      refine ⟨Nat.lt_of_lt_of_le hg.lt (grown_setCells g _ 0 w).size, fun k hk => ?_, fun k hk => ?_, fun k hk => ?_, fun k hk => ?_, fun k hk => ?_, fun j => by rw [World.frozen?_setCells]; exact hg.soft j⟩
      · rw [dl_at l k hk]; exact hin _ _ (cs5_at l k hk).1
      · rw [dl_at l k hk]; exact hin _ _ (cs5_at l k hk).2.1
      · rw [dl_at l k hk]; exact hin _ _ (cs5_at l k hk).2.2.1
      · rw [dl_at l k hk]; exact hin _ _ (cs5_at l k hk).2.2.2.1
      · rw [dl_at l k hk]; exact hin _ _ (cs5_at l k hk).2.2.2.2

/-- What Sort answers. -/
def sortT (l : List Rc) (w : World) (e : Ending) (w' : World) : Prop :=
  ∃ g d, e = .returned (.slice (some ⟨g, 0, none⟩) l.length l.length) ∧ w.heap.size ≤ g ∧ Dt w' g l.length d ∧ Sorts l (seg d 0 l.length) ∧ Below w.heap.size w w'

set_option maxHeartbeats 4000000 in
theorem sort_c (l : List Rc) (v : Value) (w : World) (h : Rl w v l) (hn : l.length < 40) : Calls Tryd.prog 8 #[v] w (sortT l w) := by
  obtain ⟨i0, hi, hz0, hz1, hz2⟩ := info_parts recInfo
  have hmk := run_make (P := Tryd.prog) w 28 27 i0 _ Tryd.underlying28 hi hz0 .i64 .i64 (l.length : Int) (l.length : Int) (by omega) (Int.le_refl _) (by rw [hz2]; omega) (by omega)
  rw [hz1, Int.toNat_natCast] at hmk
  have hmk2 : (Instr.makeSlice 28 (.int .i64 (l.length : Int)) (.int .i64 (l.length : Int))).run Tryd.prog w = .ok (.slice (some ⟨w.heap.size, 0, none⟩) l.length l.length) (w.alloc (.cells (madeCells #[.int .i64 0, .int .i64 0, .int .i64 0, .int .i64 0, .string ⟨#[]⟩] (l.length * 5)) 27)) := hmk
  obtain ⟨x, w2, hcp, hd2, hg2⟩ := rcopy_run l v _ w.heap.size 3 (h.below (alloc_below w (.cells (madeCells #[.int .i64 0, .int .i64 0, .int .i64 0, .int .i64 0, .string ⟨#[]⟩] (l.length * 5)) 27))) (Bx.new _ _ _)
  have HCP := Lib.hid hcp
  have HD2 := Lib.hid hd2
  have HBY := Lib.hid (by_g w2)
  have hlen := hn
  have B2 : Hid (Below w.heap.size w w2) := Lib.hid ((alloc_below w _).trans (below_of_grown hg2 (by simp) (fun g hg => by cases hg; exact Nat.le_refl _)))
  have hsd := seg_dl l
  obtain ⟨ad, cap, rfl, _⟩ := h.form
  clear h hi hz0 hz1 hz2 hmk hcp hd2 hg2
  have HSD := Lib.hid hsd
  clear hsd
  go_enter Tryd.func8, Tryd.ntmps8
  go_wp2_with (refine wpList_copy_run rfl _ _ 28 rfl _ _ HCP.out ?_)
  refine HBY.out.mono ?_
  rintro e w21 ⟨rfl, hw21⟩
  have hb21 : Below w2.heap.size w2 w21 := by rw [hw21]; exact alloc_below _ _
  have HST := Lib.hid (sortStable_c (bxr := w2.heap.size) w.heap.size l.length l.length (dl l) w21 ⟨HD2.out.below hb21, by rw [hw21]; exact Bx.new _ _ _, by have := HD2.out.lt; omega⟩ hlen)
  have HB21 : Hid (Below w.heap.size w w21) := Lib.hid (bn B2.out hb21)
  clear hw21 hb21 HBY
  go_wp2_with fail
  refine HST.out.mono ?_
  rintro e w3 ⟨rfl, ⟨d3, hd3, hq3⟩, hg3⟩
  go_wp2
  go_ret
  refine ⟨w.heap.size, d3, rfl, Nat.le_refl _, hd3.toDt, ⟨srt_pairwise hq3.srt, ?_, by rw [seg_len]; omega⟩, HB21.out.trans (below_of_grown hg3 HB21.out.size (fun g hg => by cases hg; exact Nat.le_refl _))⟩
  have hc := hq3.cls
  rw [HSD.out] at hc
  exact hc

/-- A row of one's own, as a list. -/
theorem Dt.rl {w : World} {g n : Nat} {d : Nat → Rc} (h : Dt w g n d) : Rl w (.slice (some ⟨g, 0, none⟩) n n) (seg d 0 n) := by
  have hl : (seg d 0 n).length = n := by rw [seg_len]; omega
  refine .inr ⟨⟨g, 0, none⟩, n, by rw [hl], by rw [hl]; exact Nat.le_refl _, fun _ => ⟨g, 0, rfl, fun k hk => ?_⟩⟩
  rw [hl] at hk
  have e : (seg d 0 n)[k]'(by rw [hl]; exact hk) = d k := by simp [seg]
  rw [e, Nat.zero_add]
  exact ⟨h.c0 k hk, h.c1 k hk, h.c2 k hk, h.c3 k hk, h.c4 k hk⟩

set_option maxHeartbeats 4000000 in
theorem samel_c (l : List Rc) (v1 v2 : Value) (w : World) (h1 : Rl w v1 l) (h2 : Rl w v2 l) (hn : l.length ≤ 1000000) :
    Calls Tryd.prog 9 #[v1, v2] w fun e w' => e = .returned (.bool true) ∧ Below w.heap.size w w' := by
  obtain ⟨ad1, cap1, rfl, _, k1⟩ := h1.form
  obtain ⟨ad2, cap2, rfl, _, k2⟩ := h2.form
  have H1 := Lib.hid k1
  have H2 := Lib.hid k2
  clear h1 h2 k1 k2
  go_enter Tryd.func9, Tryd.ntmps9
  go_wp2
  go_loopw [5] (fun v5 wr => ∃ k q : Nat, k ≤ l.length ∧ v5 = .int .i64 (k : Int) ∧ wr = w.drewN q) (fun v5 _ => l.length - (RowKit.intOf v5).toNat)
  case atStart => exact ⟨0, 0, by omega, rfl, rfl⟩
  case round =>
    obtain ⟨k, q, hk, rfl, rfl⟩ := hrel
    by_cases hp : k < l.length
    · obtain ⟨g1, o1, rfl, c1⟩ := H1.out (by omega)
      obtain ⟨g2, o2, rfl, c2⟩ := H2.out (by omega)
      obtain ⟨p0, p1, p2, p3, p4⟩ := c1 k hp
      obtain ⟨q0, q1, q2, q3, q4⟩ := c2 k hp
      have qq := eq_rec l[k] l[k]
      rw [same_self] at qq
      clear c1 c2 H1 H2
      generalize l[k] = R at p0 p1 p2 p3 p4 q0 q1 q2 q3 q4 qq
      go_wp2
      go_quiet (fail)
      go_wp2
      go_roundw
      case rel => exact ⟨k + 1, q + nq, hp, by go_num, rfl⟩
      case measure => simp [RowKit.intOf]; omega
    · go_wp2
      go_ret
      exact ⟨rfl, below_drewN (Below.refl _ _) q⟩
end Go.Proofs.YtkmcieiglhdjeaaDoor
