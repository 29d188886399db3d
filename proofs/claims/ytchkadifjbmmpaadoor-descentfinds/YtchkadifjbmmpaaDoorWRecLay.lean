/-
  A head's bytes, Lay, and chapter 4's own Lay, by contract.
-/
import Derived.Test.YtchkadifjbmmpaaDoorWRecPut
namespace Go.Proofs.YtchkadifjbmmpaaDoor.R
open Go.RowKit Go.Lib
set_option maxRecDepth 100000

def headL (o s wl c n : Int) : List Int := numB o 1 ++ numB s 2 ++ numB wl 6 ++ numB c 2 ++ numB n 1
def txt (t : ByteArray) : List Int := t.data.toList.map fun b => (b.toNat : Int)
def layL (r : Rc) : List Int := headL r.o r.s r.w r.c (r.t.size : Int) ++ txt r.t
theorem headL_len (o s wl c n : Int) : (headL o s wl c n).length = 12 := by simp [headL, numB_len]
theorem txt_len (t : ByteArray) : (txt t).length = t.size := by rw [txt, List.length_map, ← Lib.size_eq]
theorem strCells_txt (t : ByteArray) : strCells t = bys (txt t) := by
  simp [strCells, bys, txt]
theorem layL_len (r : Rc) : (layL r).length = 12 + r.t.size := by simp [layL, headL_len, txt_len]

theorem made_box {T : TypeId} {w w1 : World} {cs : Array Value} (hgr : (w.alloc (.cells cs T)).grownBy w1 none) : Bx T w1 w.heap.size cs ∧ Below w.heap.size w w1 ∧ w.heap.size + 1 ≤ w1.heap.size :=
  ⟨(Bx.new T w cs).far hgr (by simp), bn (alloc_below _ _) (below_of_grown hgr (Nat.le_refl _) (by intro g hg; cases hg)), by have := hgr.size; simpa using this⟩

set_option maxHeartbeats 4000000 in
theorem hlay_c (o s wl c : Int) (n : Nat) (w : World) (hn : n ≤ 1000) :
    Calls Tryd.prog 65 #[.agg #[.int .i64 o, .int .i64 s, .int .i64 wl, .int .i64 c, .int .i64 (n : Int)]] w (rowB w.heap.size (headL o s wl c n) w) := by
  obtain ⟨i0, hi, hz0, hz1, hz2⟩ := info_parts byteInfo
  have HI := Lib.hid hi
  have HZ0 := Lib.hid hz0
  have HZ1 := Lib.hid hz1
  have hb8 : i0.bytes * (12 + n) ≤ 281474976710656 := by rw [hz2]; omega
  clear hi hz0 hz1 hz2
  have HX := Lib.hid (Bx.new 116 w #[.int .i64 o, .int .i64 s, .int .i64 wl, .int .i64 c, .int .i64 (n : Int)])
  go_enter Tryd.func65, Tryd.ntmps65
  go_wp2_with (refine wpList_make_own _ rfl _ _ 55 rfl (w.heap.size + 1) 5 i0 (.int .u8 0) 1 Tryd.underlying55 HI.out HZ0.out HZ1.out .i64 .i64 _ (12 + n) rfl rfl (by omega) hb8 (by unfold maxLen; omega) (by simp) ?_; intro w1 hown1 hgr1; obtain ⟨hx1, hb1, hs1⟩ := made_box hgr1; obtain ⟨c0, c1, c2, c3, c4⟩ := hx1.five; have hl := hx1.lt; have HX1 := Lib.hid hx1; have HO1 := Lib.hid hown1; have HB1 := Lib.hid hb1; clear hb1 hx1 hown1 hgr1)
  refine (put_c [] _ o 1 w1 (w.heap.size + 1) (by have := HO1.out; simpa [BRow, bys] using this) (by decide) (by simp) hs1).mono ?_
  rintro e w2 ⟨v2, rfl, h2, b2⟩
  have hx2 : Bx 116 w2 w.heap.size #[.int .i64 o, .int .i64 s, .int .i64 wl, .int .i64 c, .int .i64 (n : Int)] := (b2.block _ (by omega)).trans HX1.out
  have hs2 := Nat.le_trans hs1 b2.size
  have HB2 : Hid (Below w.heap.size w w2) := Lib.hid (HB1.out.trans (b2.mono (by omega)))
  have H2 := Lib.hid h2
  clear c0 c1 c2 c3 c4 hl h2 b2 HB1 HX1 HO1 hs1
  obtain ⟨c0, c1, c2, c3, c4⟩ := hx2.five
  have hl := hx2.lt
  have HX2 := Lib.hid hx2
  clear hx2
  go_wp2_with fail
  refine (put_c _ _ s 2 w2 (w.heap.size + 1) H2.out (by decide) (by simp [numB_len]) hs2).mono ?_
  rintro e w3 ⟨v3, rfl, h3, b3⟩
  have hx3 : Bx 116 w3 w.heap.size #[.int .i64 o, .int .i64 s, .int .i64 wl, .int .i64 c, .int .i64 (n : Int)] := (b3.block _ (by omega)).trans HX2.out
  have hs3 := Nat.le_trans hs2 b3.size
  have HB3 : Hid (Below w.heap.size w w3) := Lib.hid (HB2.out.trans (b3.mono (by omega)))
  have H3 := Lib.hid h3
  clear c0 c1 c2 c3 c4 hl h3 b3 HB2 HX2 H2 hs2
  obtain ⟨c0, c1, c2, c3, c4⟩ := hx3.five
  have hl := hx3.lt
  have HX3 := Lib.hid hx3
  clear hx3
  go_wp2_with fail
  refine (put_c _ _ wl 6 w3 (w.heap.size + 1) H3.out (by decide) (by simp [numB_len]) hs3).mono ?_
  rintro e w4 ⟨v4, rfl, h4, b4⟩
  have hx4 : Bx 116 w4 w.heap.size #[.int .i64 o, .int .i64 s, .int .i64 wl, .int .i64 c, .int .i64 (n : Int)] := (b4.block _ (by omega)).trans HX3.out
  have hs4 := Nat.le_trans hs3 b4.size
  have HB4 : Hid (Below w.heap.size w w4) := Lib.hid (HB3.out.trans (b4.mono (by omega)))
  have H4 := Lib.hid h4
  clear c0 c1 c2 c3 c4 hl h4 b4 HB3 HX3 H3 hs3
  obtain ⟨c0, c1, c2, c3, c4⟩ := hx4.five
  have hl := hx4.lt
  have HX4 := Lib.hid hx4
  clear hx4
  go_wp2_with fail
  refine (put_c _ _ c 2 w4 (w.heap.size + 1) H4.out (by decide) (by simp [numB_len]) hs4).mono ?_
  rintro e w5 ⟨v5, rfl, h5, b5⟩
  have hx5 : Bx 116 w5 w.heap.size #[.int .i64 o, .int .i64 s, .int .i64 wl, .int .i64 c, .int .i64 (n : Int)] := (b5.block _ (by omega)).trans HX4.out
  have hs5 := Nat.le_trans hs4 b5.size
  have HB5 : Hid (Below w.heap.size w w5) := Lib.hid (HB4.out.trans (b5.mono (by omega)))
  have H5 := Lib.hid h5
  clear c0 c1 c2 c3 c4 hl h5 b5 HB4 HX4 H4 hs4
  obtain ⟨c0, c1, c2, c3, c4⟩ := hx5.five
  have hl := hx5.lt
  clear hx5
  go_wp2_with fail
  refine (put_c _ _ n 1 w5 (w.heap.size + 1) H5.out (by decide) (by simp [numB_len]) hs5).mono ?_
  rintro e w6 ⟨v6, rfl, h6, b6⟩
  go_wp2
  go_ret
  exact ⟨_, rfl, by simpa [headL] using h6.mono (Nat.le_succ _), HB5.out.trans (b6.mono (by omega))⟩

/-- append of a text, as a step of a region that draws. -/
theorem step_append_str {P : Program} {w : World} {ops : Array Oper} {o : Oper} {a : Act} {K : Act → World → Prop} {Q : Exit → Act → World → Prop} {E : Prop} (hgd : o.guard = none) (sl x : Operand) (t u : TypeId)
    (ho : o.op = .call { callee := .builtin .append, args := #[sl, x], argTypes := #[t, u] })
    (base : Nat) (e : TypeId) (i : TypeInfo) (ht : P.underlying t = some (.slice e)) (hu : P.underlying u = some .string) (hi : P.info? e = some i) (hz : i.zero = some (.int .u8 0))
    (hsize : i.size = 1) (hby : i.bytes = 1)
    (v : Value) (n : Nat) (xs : List Value) (hs : a.eval sl = v) (hown : w.ownsRow base e 1 v n xs) (s : ByteArray) (hx : a.eval x = .string s)
    (h63 : n + s.size ≤ maxLen) (hbytes : n + s.size ≤ 140737488355328) (hbase : base ≤ w.heap.size)
    (h : ∀ v' w', w'.ownsRow base e 1 v' (n + s.size) (xs ++ strCells s) → w.grownBy w' v.ownBlock → K (a.put o.dst v') w') :
    if Region.wanted o (yielded ops a.tmps) = true then Oper.wp P o a w K Q else E := by
  have hw : Region.wanted o (yielded ops a.tmps) = true := by simp [Region.wanted, hgd]
  rw [if_pos hw]
  obtain ⟨v', w', hr, h2, h3, h4⟩ := run_append_own_string (P := P) w base t u o.type e i ht hu hi hz hsize hby v n xs hown s h63 hbytes hbase
  unfold Oper.wp execOp
  simp only [ho, resolve, invoke, builtin, Sem.run_bind, Sem.run_pure, Result.andThen_ok, List.map_toArray, List.map_cons, List.map_nil, hs, hx, hr]
  exact h v' w' h2 h3

theorem mayR_size {r : Rc} (h : mayR r = true) : r.t.size ≤ 120 := by
  unfold mayR tmayB at h
  simp only [Bool.and_eq_true, decide_eq_true_eq] at h
  rw [Lib.size_eq]
  exact h.2.2.1

/-- What Lay answers. -/
def layT (r : Rc) (w : World) (e : Ending) (w' : World) : Prop :=
  ∃ v, e = .returned (.tuple #[v, .int .i64 (if mayR r then 0 else 2)]) ∧ BRow w' w.heap.size v (if mayR r then layL r else []) ∧ Below w.heap.size w w'

set_option maxHeartbeats 4000000 in
theorem lay_c (r : Rc) (w : World) (hs : r.t.size ≤ 9223372036854775807) (hT : Tabs w) : Calls Tryd.prog 45 #[.agg #[.int .i64 r.o, .int .i64 r.s, .int .i64 r.w, .int .i64 r.c, .string r.t]] w (layT r w) := by
  have HM := Lib.hid (fun W hT => may_c r W hs hT)
  have HX := Lib.hid (Bx.new 36 w #[.int .i64 r.o, .int .i64 r.s, .int .i64 r.w, .int .i64 r.c, .string r.t])
  unfold layT
  cases hm : mayR r
  · rw [hm] at HM
    go_enter Tryd.func45, Tryd.ntmps45
    go_wp2_with fail
    refine (HM.out _ (hT.below (alloc_below _ _))).mono ?_
    rintro e w1 ⟨rfl, b1⟩
    go_wp2
    go_ret2
    exact ⟨_, rfl, BRow.nil _ _, bn (alloc_below _ _) b1⟩
  · have hz := mayR_size hm
    rw [hm] at HM
    have HL := Lib.hid (fun W => hlay_c r.o r.s r.w r.c r.t.size W (by omega))
    obtain ⟨i0, hi, hz0, hz1, hz2⟩ := info_parts byteInfo
    have HI := Lib.hid hi
    have HZ0 := Lib.hid hz0
    have HZ1 := Lib.hid hz1
    have HZ2 := Lib.hid hz2
    clear hi hz0 hz1 hz2 hm
    go_enter Tryd.func45, Tryd.ntmps45
    go_wp2_with fail
    refine (HM.out _ (hT.below (alloc_below _ _))).mono ?_
    rintro e w1 ⟨rfl, b1⟩
    have hx := HX.out.below b1
    obtain ⟨c0, c1, c2, c3, c4⟩ := hx.five
    have hl := hx.lt
    have HB1 : Hid (Below w.heap.size w w1) := Lib.hid (bn (alloc_below _ _) b1)
    clear hx b1
    go_wp2_with fail
    obtain ⟨W0, hW0⟩ : ∃ W0, W0 = w1.alloc (.cells #[.int .i64 r.o, .int .i64 r.s, .int .i64 r.w, .int .i64 r.c, .int .i64 (r.t.size : Int)] 116) := ⟨_, rfl⟩
    have HS : Hid (∀ w' : World, Below W0.heap.size W0 w' → w'.cell? ⟨w1.heap.size, 0, none⟩ = some (.int .i64 r.o) ∧ w'.cell? ⟨w1.heap.size, 1, none⟩ = some (.int .i64 r.s) ∧ w'.cell? ⟨w1.heap.size, 2, none⟩ = some (.int .i64 r.w) ∧ w'.cell? ⟨w1.heap.size, 3, none⟩ = some (.int .i64 r.c) ∧ w'.cell? ⟨w1.heap.size, 4, none⟩ = some (.int .i64 (r.t.size : Int)) ∧ w'.cell? ⟨w.heap.size, 4, none⟩ = some (.string r.t)) := Lib.hid (by
      intro w' hb'
      have hn := Bx.new 116 w1 #[.int .i64 r.o, .int .i64 r.s, .int .i64 r.w, .int .i64 r.c, .int .i64 (r.t.size : Int)]
      rw [← hW0] at hn
      obtain ⟨d0, d1, d2, d3, d4⟩ := (hn.below hb').five
      refine ⟨d0, d1, d2, d3, d4, ?_⟩
      refine (hb'.cell (by rw [hW0]; simp; omega)).trans ?_
      rw [hW0]
      exact ((alloc_below w1 _).cell (by exact hl)).trans c4)
    have hz0' : w.heap.size ≤ W0.heap.size := by rw [hW0]; simp; omega
    have HB0 : Hid (Below w.heap.size w W0) := Lib.hid (by rw [hW0]; exact HB1.out.alloc HB1.out.size _)
    rw [← hW0]
    clear hW0 c0 c1 c2 c3 c4 HB1
    go_region_held3 (fun w' => w'.cell? ⟨w1.heap.size, 0, none⟩ = some (.int .i64 r.o) ∧ w'.cell? ⟨w1.heap.size, 1, none⟩ = some (.int .i64 r.s) ∧ w'.cell? ⟨w1.heap.size, 2, none⟩ = some (.int .i64 r.w) ∧ w'.cell? ⟨w1.heap.size, 3, none⟩ = some (.int .i64 r.c) ∧ w'.cell? ⟨w1.heap.size, 4, none⟩ = some (.int .i64 (r.t.size : Int)) ∧ w'.cell? ⟨w.heap.size, 4, none⟩ = some (.string r.t)) (exact HS.out _ (by first | assumption | exact (Below.refl _ _).drew | exact Below.refl _ _))
      (first
      | (go_at_call 65; refine (HL.out _).mono ?_; rintro e w2 ⟨v2, rfl, h2, b2⟩; have b2' : Below W0.heap.size W0 w2 := bn (by first | assumption | exact (Below.refl _ _).drew) b2; clear b2)
      | (refine step_append_str rfl _ _ 55 9 rfl W0.heap.size 5 i0 Tryd.underlying55 Tryd.underlying9 HI.out HZ0.out HZ1.out HZ2.out _ _ _ rfl (by exact h2) _ rfl (by unfold maxLen; rw [headL_len]; omega) (by rw [headL_len]; omega) (by exact b2'.size) ?_; intro v3 w3 hown3 hgr3; have b3' : Below W0.heap.size W0 w3 := b2'.trans (below_of_grown hgr3 b2'.size (fun g hg => (World.ownsRow.lt h2 g hg).1))))
    go_wp2
    go_ret2
    refine ⟨v3, rfl, ?_, HB0.out.trans (b3'.mono hz0')⟩
    have h4 := own_mono hown3 hz0'
    rw [headL_len, strCells_txt] at h4
    show BRow w3 w.heap.size v3 (layL r)
    unfold BRow
    rw [layL_len]
    have e : bys (layL r) = bys (headL r.o r.s r.w r.c (r.t.size : Int)) ++ bys (txt r.t) := by simp [bys, layL]
    rw [e]
    exact h4

set_option maxHeartbeats 4000000 in
theorem reflay_c (r : Rc) (w : World) (hs : r.t.size ≤ 9223372036854775807) (hT : Tabs w) : Calls Tryd.prog 29 #[.agg #[.int .i64 r.o, .int .i64 r.s, .int .i64 r.w, .int .i64 r.c, .string r.t]] w (layT r w) := by
  have HM := Lib.hid (fun W hT => refmay_c r W hs hT)
  have HX := Lib.hid (Bx.new 36 w #[.int .i64 r.o, .int .i64 r.s, .int .i64 r.w, .int .i64 r.c, .string r.t])
  unfold layT
  cases hm : mayR r
  · rw [hm] at HM
    go_enter Tryd.func29, Tryd.ntmps29
    go_wp2_with fail
    refine (HM.out _ (hT.below (alloc_below _ _))).mono ?_
    rintro e w1 ⟨rfl, b1⟩
    go_wp2
    go_ret2
    exact ⟨_, rfl, BRow.nil _ _, bn (alloc_below _ _) b1⟩
  · have hz := mayR_size hm
    rw [hm] at HM
    obtain ⟨i0, hi, hz0, hz1, hz2⟩ := info_parts byteInfo
    have HI := Lib.hid hi
    have HZ0 := Lib.hid hz0
    have HZ1 := Lib.hid hz1
    have HZ2 := Lib.hid hz2
    clear hi hz0 hz1 hz2 hm
    go_enter Tryd.func29, Tryd.ntmps29
    go_wp2_with fail
    refine (HM.out _ (hT.below (alloc_below _ _))).mono ?_
    rintro e W0 ⟨rfl, b1⟩
    have HXX := Lib.hid (HX.out.below b1)
    have hl := HXX.out.lt
    have HB0 : Hid (Below w.heap.size w W0) := Lib.hid (bn (alloc_below _ _) b1)
    have hz0' := HB0.out.size
    have HS : Hid (∀ w' : World, Below W0.heap.size W0 w' → w'.cell? ⟨w.heap.size, 0, none⟩ = some (.int .i64 r.o) ∧ w'.cell? ⟨w.heap.size, 1, none⟩ = some (.int .i64 r.s) ∧ w'.cell? ⟨w.heap.size, 2, none⟩ = some (.int .i64 r.w) ∧ w'.cell? ⟨w.heap.size, 3, none⟩ = some (.int .i64 r.c) ∧ w'.cell? ⟨w.heap.size, 4, none⟩ = some (.string r.t)) := Lib.hid (fun w' hb' => (HXX.out.below hb').five)
    have HN : Hid (∀ W v l n (k : Int), Below W0.heap.size W0 W → BRow W W0.heap.size v l → l.length ≤ 20 → k.toNat ≤ 6 → (k.toNat : Int) = k → Calls Tryd.prog 54 #[v, .int .i64 n, .int .i64 k] W (rowB W0.heap.size (l ++ numB n k.toNat) W)) := Lib.hid (fun W v l n k hb hr hl hk he => by
      have h := refnum_c l v n k.toNat W W0.heap.size hr (by omega) (by omega) hb.size
      rw [he] at h
      exact h)
    clear b1
    go_wp2_with fail
    go_region_held3 (fun w' => w'.cell? ⟨w.heap.size, 0, none⟩ = some (.int .i64 r.o) ∧ w'.cell? ⟨w.heap.size, 1, none⟩ = some (.int .i64 r.s) ∧ w'.cell? ⟨w.heap.size, 2, none⟩ = some (.int .i64 r.w) ∧ w'.cell? ⟨w.heap.size, 3, none⟩ = some (.int .i64 r.c) ∧ w'.cell? ⟨w.heap.size, 4, none⟩ = some (.string r.t)) (exact HS.out _ (by first | assumption | exact (Below.refl _ _).drew | exact Below.refl _ _))
      (first
      | (go_at_call 54; refine (HN.out _ _ _ _ _ (by first | assumption | exact (Below.refl _ _).drew | exact Below.refl _ _) (by first | assumption | exact BRow.nil _ _) (by simp [numB_len]) (by decide) (by decide)).mono ?_; rintro e w2 ⟨v2, rfl, h2, b2⟩; have b2' : Below W0.heap.size W0 w2 := Below.trans (by first | assumption | exact (Below.refl _ _).drew) b2; clear b2)
      | fail)
    obtain ⟨c0, c1, c2, c3, c4⟩ := HS.out w2 b2'
    have hl2 : w.heap.size < w2.heap.size := Nat.lt_of_lt_of_le hl b2'.size
    have H2 : Hid (BRow w2 W0.heap.size v2 (headL r.o r.s r.w r.c (r.t.size : Int))) := Lib.hid (by simpa [headL] using h2)
    clear h2 c0 c1 c2 c3
    go_wp2_with (at_builtin; refine wpList_append_own_string _ rfl _ _ 55 9 rfl W0.heap.size 5 i0 Tryd.underlying55 Tryd.underlying9 HI.out HZ0.out HZ1.out HZ2.out _ _ _ rfl (by exact H2.out) _ rfl (by unfold maxLen; rw [headL_len]; omega) (by rw [headL_len]; omega) (by exact b2'.size) ?_; intro v3 w3 hown3 hgr3 hnil3)
    go_ret2
    refine ⟨v3, rfl, ?_, HB0.out.trans ((b2'.trans (below_of_grown hgr3 b2'.size (fun g hg => (World.ownsRow.lt H2.out g hg).1))).mono hz0')⟩
    have h4 := own_mono hown3 hz0'
    rw [headL_len, strCells_txt] at h4
    show BRow w3 w.heap.size v3 (layL r)
    unfold BRow
    rw [layL_len]
    have e : bys (layL r) = bys (headL r.o r.s r.w r.c (r.t.size : Int)) ++ bys (txt r.t) := by simp [bys, layL]
    rw [e]
    exact h4
end Go.Proofs.YtchkadifjbmmpaaDoor.R
