/-
  A ledger, a row of entries beside it, and a list of numbers that is handed to it: one thing for the walks of laws.
-/
import Derived.Test.YtjmkphnppegegaaGreatDoorPkLd
namespace Go.Proofs.YtjmkphnppegegaaGreatDoor
open Go.RowKit Go.Lib
set_option maxRecDepth 100000

/-- A list of numbers that lies in block z, none of own's. -/
structure Kz (w : World) (own : Nat → Prop) (z : Nat) (l : List Int) : Prop where
  bx : Bx 3 w z (l.map fun x => Value.int .i64 x).toArray
  no : ¬ own z
theorem Kz.step {w w' : World} {own own' : Nat → Prop} {z : Nat} {l : List Int} (h : Kz w own z l) (hs : Step w own w' own') : Kz w' own' z l :=
  ⟨(hs.turn.block _ h.bx.lt h.no).trans h.bx, hs.not h.no h.bx.lt⟩
theorem Kz.below {w w' : World} {own : Nat → Prop} {z : Nat} {l : List Int} (h : Kz w own z l) (hb : Below w.heap.size w w') : Kz w' own z l := h.step (.ofBelow hb)
theorem Kz.nl {w : World} {own : Nat → Prop} {z : Nat} {l : List Int} (h : Kz w own z l) : Nl w (.slice (some ⟨z, 0, none⟩) l.length l.length) l := by
  refine .inr ⟨_, l.length, rfl, fun _ => ⟨z, 0, rfl, fun k hk => ?_⟩⟩
  rw [Nat.zero_add, h.bx.cell k]
  simp [hk]
theorem ERow.tag {w : World} {B : Nat} {v : Value} {l : List Ev} (h : ERow w B v l) {z : Nat} {cs : Array Value} (hz : Bx 3 w z cs) : v.ownBlock ≠ some z := fun e => by
  rcases h.2 with ⟨rfl, _⟩ | ⟨g1, cap, cur, rfl, _, h1, _⟩
  · cases e
  · have e' : g1 = z := by simpa [Value.ownBlock] using e
    subst e'
    unfold Bx at hz
    rw [h1] at hz
    simp at hz
/-- A row of entries of one's own, none of whose blocks is own's. -/
structure Rk (w : World) (own : Nat → Prop) (B : Nat) (v : Value) (l : List Ev) : Prop where
  row : ERow w B v l
  no : ∀ g, v.ownBlock = some g → ¬ own g
theorem Rk.step {w w' : World} {own own' : Nat → Prop} {B : Nat} {v : Value} {l : List Ev} (h : Rk w own B v l) (hs : Step w own w' own') : Rk w' own' B v l :=
  ⟨ownsRow_of_block h.row (fun g hg => hs.turn.block g (World.ownsRow.lt h.row g hg).2 (h.no g hg)), fun g hg => hs.not (h.no g hg) (World.ownsRow.lt h.row g hg).2⟩
theorem Rk.below {w w' : World} {own : Nat → Prop} {B : Nat} {v : Value} {l : List Ev} (h : Rk w own B v l) (hb : Below w.heap.size w w') : Rk w' own B v l := h.step (.ofBelow hb)

structure Cr (w0 w : World) (z g p : Nat) (S : Lg) (own : Nat → Prop) (v : Value) (ys : List Ev) (zl : List Int) : Prop where
  ld : Led w g p 60000 S own
  gr : Gr w0 w own
  wn : Wn w0 w (plusB own g) v ys
  kz : zl ≠ [] → Kz w (plusB own g) z zl
  gg : w0.heap.size ≤ g
section
variable {w0 w w' : World} {z g p : Nat} {S S' : Lg} {own own' : Nat → Prop} {v : Value} {ys : List Ev} {zl : List Int}
theorem Cr.stepP (h : Cr w0 w z g p S own v ys zl) (hs : Step w (plusB own g) w' (plusB own' g)) (l : Led w' g p 60000 S' own') : Cr w0 w' z g p S' own' v ys zl :=
  ⟨l, h.gr.stepP h.gg hs, h.wn.step hs, fun e => (h.kz e).step hs, h.gg⟩
theorem Cr.below (h : Cr w0 w z g p S own v ys zl) (hb : Below w.heap.size w w') : Cr w0 w' z g p S own v ys zl := h.stepP (.ofBelow hb) (h.ld.below hb)
theorem Cr.write (h : Cr w0 w z g p S own v ys zl) {n : Nat} (hn : S.n = n) (hl : S.k + S.A.length < 97) (hu : usedP S.P ≤ 59000) (x : Ev) (ha : Nl w0 x.a x.e.v) (hb : Nl w0 x.b x.e.w) (hT : Tabs w0) (c d : Value) (vv ww : List Int) (hv : Nl w c vv) (hw : Nl w d ww) (hk : x.e.k ≠ 1) (hm : mayE x.e n = true) (hz : mayE (baseE vv ww) n = true) :
    Calls Tryz.prog 17 #[.pointer (some ⟨g, 0, none⟩), .agg #[.int .i64 x.e.k, x.a, x.b, .int .i64 x.e.r.o, .int .i64 x.e.r.s, .int .i64 x.e.r.w, .int .i64 x.e.r.c, .string x.e.r.t], c, d] w fun e w' => e = .returned (.int .i64 0) ∧ ∃ own', Cr w0 w' z g p (S.write x.e vv ww) own' v ys zl ∧ Step w (plusB own g) w' (plusB own' g) := by
  have had := adds_le (S := S) (mayE_some hm) (mayE_some hz)
  refine (write_S h.ld x.e x.a x.b c d vv ww (ha.below h.gr.bl) (hb.below h.gr.bl) hv hw (h.gr.tabs hT) hk (by rw [hn]; exact hm) (by rw [hn]; exact hz) hl).mono ?_
  intro e w' hh
  obtain ⟨h1, own', h2, h3⟩ := hh.1 (by omega)
  exact ⟨h1, own', h.stepP h3 h2, h3⟩
theorem Cr.sync (h : Cr w0 w z g p S own v ys zl) : Calls Tryz.prog 19 #[.pointer (some ⟨g, 0, none⟩)] w fun e w' => e = .returned (.int .i64 0) ∧ ∃ own', Cr w0 w' z g p S.sync own' v ys zl ∧ Step w (plusB own g) w' (plusB own' g) := by
  refine (sync_S h.ld).mono ?_
  rintro e w' ⟨rfl, own', h2, h3⟩
  exact ⟨rfl, own', h.stepP (h3.plus g) h2, h3.plus g⟩
theorem Cr.push (h : Cr w0 w z g p S own v ys zl) (x : Ev) (ha : Nl w0 x.a x.e.v) (hc : Nl w0 x.b x.e.w) (hn : ys.length ≤ 1000) (ty T : TypeId) :
    ∃ A C w1, (Builtin.append_ #[22, 22] ty #[v, .slice (some ⟨w.heap.size, 0, none⟩) 1 1]).run Tryz.prog (w.alloc (.cells #[.int .i64 x.e.k, x.a, x.b, .int .i64 x.e.r.o, .int .i64 x.e.r.s, .int .i64 x.e.r.w, .int .i64 x.e.r.c, .string x.e.r.t] T)) = .ok (.slice A (ys.length + 1) C) w1 ∧ Cr w0 w1 z g p S own (.slice A (ys.length + 1) C) (ys ++ [x]) zl := by
  obtain ⟨A, N, C, w1, h1, h2, h3⟩ := h.wn.push h.gr.bl x ha hc hn (fun i hi => by
    rcases hi with k | k
    · exact h.ld.dr.up k
    · rw [k]; exact h.ld.lt) ty T
  have hgr := h.gr.beside h.wn h3
  obtain ⟨_, _, e, _⟩ := h2.er hgr.bl
  simp only [Value.slice.injEq, List.length_append, List.length_singleton] at e
  obtain ⟨_, rfl, _⟩ := e
  refine ⟨A, C, w1, h1, h.ld.beside h.wn h3, hgr, h2, fun e => ?_, h.gg⟩
  have hk := h.kz e
  exact ⟨(h3.block _ hk.bx.lt (h.wn.row.tag hk.bx)).trans hk.bx, hk.no⟩
/-- The same over another box, on the same drive. -/
theorem Cr.opened (h : Cr w0 w z g p S own v ys zl) {wa wb : World} {owna ownb : Nat → Prop} (sa : Step w own wa owna) (sb : Step wa owna wb ownb) (l : Led wb wa.heap.size p 60000 S' ownb) : Cr w0 wb z wa.heap.size p S' ownb v ys zl := by
  have hs := sa.trans sb
  have sz := sa.turn.size
  have hw : Wn w0 w own v ys := h.wn.less (fun _ k => .inl k)
  have hw2 := hw.step hs
  have hlt : ∀ i, v.ownBlock = some i → i < w.heap.size := fun i hi => (World.ownsRow.lt h.wn.row i hi).2
  refine ⟨l, h.gr.step hs, ⟨hw2.row, fun i hi => ?_, hw2.ls⟩, fun e => ?_, Nat.le_trans h.gr.bl.size sz⟩
  · rintro (o | k)
    · exact hw2.no i hi o
    · have := hlt i hi; omega
  · have hk := h.kz e
    have k1 : Kz w own z zl := ⟨hk.bx, fun o => hk.no (.inl o)⟩
    have k2 := k1.step hs
    have := hk.bx.lt
    exact ⟨k2.bx, fun o => by
      rcases o with o | o
      · exact k2.no o
      · omega⟩
theorem Cr.openC (h : Cr w0 w z g p S own v ys zl) (hT : Tabs w0) {n : Nat} (hn : S.n = n) : Calls Tryz.prog 12 #[.pointer (some ⟨p, 0, none⟩), .int .i64 (n : Int)] w fun e w' => ∃ A C xs own', e = .returned (.tuple #[.pointer (some ⟨w.heap.size, 0, none⟩), .slice A xs.length C, .int .i64 0]) ∧ EK w' own' (w.heap.size + 1) (.slice A xs.length C) xs ∧ xs.map Ev.e = S.all ∧ Cr w0 w' z w.heap.size p S own' v ys zl ∧ Step w own w' own' := by
  have hh := open_S h.ld.dr h.ld.ok (by omega) (h.gr.tabs hT)
  rw [hn] at hh
  refine hh.mono ?_
  rintro e w' ⟨vx, xs, own', rfl, h2, h3, h4, h5⟩
  obtain ⟨A, C, rfl, _⟩ := h2.1.er
  exact ⟨A, C, xs, own', rfl, h2, h3, h.opened (.refl _ _) h5 h4, h5⟩
/-- A new ledger on a drive without files, a list of numbers just laid. -/
theorem cr_start {w0 w1 : World} {p : Nat} {own1 : Nat → Prop} (n : Nat) (h1 : 1 ≤ n) (h8 : n ≤ 8) (zl : List Int) (d1 : Dr w1 p [] 60000 own1) (o1 : ∀ i, own1 i → w0.heap.size ≤ i) (b1 : Below w0.heap.size w0 w1) (hT : Tabs w0) :
    Calls Tryz.prog 12 #[.pointer (some ⟨p, 0, none⟩), .int .i64 (n : Int)] (w1.alloc (.cells (zl.map fun x => Value.int .i64 x).toArray 3)) fun e w2 => ∃ A C own2, e = .returned (.tuple #[.pointer (some ⟨w1.heap.size + 1, 0, none⟩), .slice A 1 C, .int .i64 0]) ∧ Cr w0 w2 w1.heap.size (w1.heap.size + 1) p (Lg.new n) own2 (.slice none 0 0) [] zl := by
  have hal := alloc_below w1 (.cells (zl.map fun x => Value.int .i64 x).toArray 3)
  have G1 : Gr w0 (w1.alloc (.cells (zl.map fun x => Value.int .i64 x).toArray 3)) own1 := ⟨bn b1 hal, o1⟩
  have hsz : (w1.alloc (.cells (zl.map fun x => Value.int .i64 x).toArray 3)).heap.size = w1.heap.size + 1 := by simp
  have s1 := b1.size
  refine (new_S n (d1.below hal) h1 h8 (by omega) (fun W own' hs => (G1.step hs).tabs hT)).mono ?_
  intro e w2 hh
  obtain ⟨vx, xs, own2, rfl, h2, h3, h4, h5⟩ := hh.1 (by have := (new_used h1 h8).1; omega)
  have k1 : Kz (w1.alloc (.cells (zl.map fun x => Value.int .i64 x).toArray 3)) own1 w1.heap.size zl := ⟨Bx.new _ _ _, fun o => by have := d1.up o; omega⟩
  have k2 := k1.step h5
  obtain ⟨A, C, rfl, _⟩ := h2.1.er
  have hl : xs.length = 1 := by
    have := congrArg List.length h3
    simpa [Lg.new, Lg.all] using this
  rw [hl, hsz]
  rw [hsz] at h4
  exact ⟨A, C, own2, rfl, h4, G1.step h5, Wn.nil _ _ _, fun _ => ⟨k2.bx, fun o => by
    rcases o with o | o
    · exact k2.no o
    · omega⟩, by omega⟩
theorem cr_start0 {w0 w1 : World} {p : Nat} {own1 : Nat → Prop} (n : Nat) (h1 : 1 ≤ n) (h8 : n ≤ 8) (d1 : Dr w1 p [] 60000 own1) (o1 : ∀ i, own1 i → w0.heap.size ≤ i) (b1 : Below w0.heap.size w0 w1) (hT : Tabs w0) :
    Calls Tryz.prog 12 #[.pointer (some ⟨p, 0, none⟩), .int .i64 (n : Int)] w1 fun e w2 => ∃ A C own2, e = .returned (.tuple #[.pointer (some ⟨w1.heap.size, 0, none⟩), .slice A 1 C, .int .i64 0]) ∧ Cr w0 w2 0 w1.heap.size p (Lg.new n) own2 (.slice none 0 0) [] [] := by
  have G1 : Gr w0 w1 own1 := ⟨b1, o1⟩
  refine (new_S n d1 h1 h8 (by omega) (fun W own' hs => (G1.step hs).tabs hT)).mono ?_
  intro e w2 hh
  obtain ⟨vx, xs, own2, rfl, h2, h3, h4, h5⟩ := hh.1 (by have := (new_used h1 h8).1; omega)
  obtain ⟨A, C, rfl, _⟩ := h2.1.er
  have hl : xs.length = 1 := by
    have := congrArg List.length h3
    simpa [Lg.new, Lg.all] using this
  rw [hl]
  exact ⟨A, C, own2, rfl, h4, G1.step h5, Wn.nil _ _ _, fun k => absurd rfl k, b1.size⟩
theorem Cr.er (h : Cr w0 w z g p S own v ys zl) : Er w v ys := h.wn.er h.gr.bl
/-- An entry of the argument's, as it can be read. -/
theorem Er.cellsAt {w : World} {ad : Option Addr} {n cap : Nat} {l : List Ev} (h : Er w (.slice ad n cap) l) (j : Nat) (hj : j < l.length) : ∃ b o, ad = some ⟨b, o, none⟩ ∧ n = l.length ∧ EvAt w b (o + j * 8) l[j] := by
  obtain ⟨ad2, cap2, e2, _, hs2⟩ := h
  simp only [Value.slice.injEq] at e2
  obtain ⟨rfl, rfl, rfl⟩ := e2
  obtain ⟨b, o, rfl, hat⟩ := hs2 (by omega)
  exact ⟨b, o, rfl, rfl, hat j hj⟩
/-- How much a torn ledger has. -/
theorem Lg.torn_used (S : Lg) {wl : Nat} (h : wl = 0 → S.A ≠ []) : usedP (S.torn wl).P ≤ usedP S.P := by
  rw [Lg.used, Lg.used]
  unfold Lg.torn
  split
  · rename_i h0
    have hA := h h0
    rw [List.getLast?_eq_some_getLast hA, Option.getD_some]
    have e := congrArg sumE (List.dropLast_concat_getLast hA)
    rw [sumE_app] at e
    simp only [sumE] at e ⊢
    omega
  · have := rowsE_take_le S.L wl
    simp only
    omega
/-- Behind a crash, and Open: a beginning of the row. -/
theorem Cr.torn (h : Cr w0 w z g p S own v ys zl) {n f : Nat} (hc : Cs n S (ys.map Ev.e) f) (hys : ys.length ≤ 40) {wa : World} {owna : Nat → Prop} {c : Nat} (da : Dr wa p (S.cP c) 60000 owna) (sa : Step w own wa owna) (hc1 : S.y ≤ c) (hc2 : c ≤ (rowsE S.L).length) (hT : Tabs w0) :
    Calls Tryz.prog 12 #[.pointer (some ⟨p, 0, none⟩), .int .i64 (n : Int)] wa fun e wb => ∃ A C xs S9 ownb, e = .returned (.tuple #[.pointer (some ⟨wa.heap.size, 0, none⟩), .slice A xs.length C, .int .i64 0]) ∧ EK wb ownb (wa.heap.size + 1) (.slice A xs.length C) xs ∧ f ≤ (plainV xs).length ∧ (plainV xs).length ≤ ys.length ∧ (plainV xs).map Ev.e = (ys.take (plainV xs).length).map Ev.e ∧ (plainV xs).map Ev.e = plainE S9.all ∧ xs.length ≤ 100000 ∧ Cr w0 wb z wa.heap.size p S9 ownb v ys zl ∧ S9.n = n ∧ S9.k + S9.A.length < 97 ∧ usedP S9.P ≤ 59000 := by
  have ok := h.ld.ok
  obtain ⟨wl, q1, q2, q3, q4, q5⟩ := open_crash da ok (fun e => Nat.le_trans (hc.y0 e) hc1) hc2 (by omega) ((h.gr.step sa).tabs hT)
  obtain ⟨r, r1, r2, r3⟩ := hc.torn hc1 q3 q4
  have hk := hc.k
  have hA := hc.A
  have hn := hc.n
  have hus := hc.us
  rw [List.length_map] at r2 hA hus
  have hT1 := S.torn_n wl
  have hT2 := S.torn_used q4
  have hT3 := Lg.torn_ok ok q4
  rw [hn] at q5
  refine q5.mono ?_
  rintro e wb ⟨vx, xs, ownb, rfl, h2, h3, h4, h5⟩
  obtain ⟨A, C, rfl, _⟩ := h2.1.er
  have e1 : (plainV xs).map Ev.e = plainE (S.torn wl).all := by rw [plainV_e, h3]
  have e2 : (plainV xs).length = r := by
    have := congrArg List.length e1
    rw [List.length_map, r3, List.length_take, List.length_map] at this
    omega
  have e3 : xs.length ≤ 100000 := by
    have h6 := congrArg List.length h3
    have h7 := hT3.len
    have h8 := congrArg List.length e1
    rw [List.length_map] at h6 h8
    omega
  exact ⟨A, C, xs, S.torn wl, ownb, rfl, h2, by omega, by omega, by rw [e2, e1, r3, List.map_take], e1, e3, h.opened sa h5 h4, hT1.1.trans hn, by omega, by omega⟩
/-- One more behind a row whose entries' lists are another's. -/
theorem left_push {w wx : World} {B D E : Nat} {vl vx vz : Value} {ls xs zs : List Ev} (hr : ERow w B vl ls) (hB : B ≤ w.heap.size) (hD : ∀ i, vl.ownBlock = some i → i < D) (ox : EOwn w E vx xs) (nx : noS (fun i => B ≤ i) vx xs) (hsub : ∀ x ∈ ls, x ∈ xs) (oz : EOwn w D vz zs) (x : Ev) (ha : Nl w x.a x.e.v) (hc : Nl w x.b x.e.w) (hw : Below wx.heap.size wx w) (hxB : wx.heap.size ≤ B) (ha' : Nl wx x.a x.e.v) (hc' : Nl wx x.b x.e.w) (hn : ls.length ≤ 1000) (ty T : TypeId) :
    ∃ A C w1, (Builtin.append_ #[22, 22] ty #[vl, .slice (some ⟨w.heap.size, 0, none⟩) 1 1]).run Tryz.prog (w.alloc (.cells #[.int .i64 x.e.k, x.a, x.b, .int .i64 x.e.r.o, .int .i64 x.e.r.s, .int .i64 x.e.r.w, .int .i64 x.e.r.c, .string x.e.r.t] T)) = .ok (.slice A (ls.length + 1) C) w1 ∧ Er w1 (.slice A (ls.length + 1) C) (ls ++ [x]) ∧ Er w1 vz zs ∧ Below wx.heap.size wx w1 := by
  have hal := alloc_below w (.cells #[.int .i64 x.e.k, x.a, x.b, .int .i64 x.e.r.o, .int .i64 x.e.r.s, .int .i64 x.e.r.w, .int .i64 x.e.r.c, .string x.e.r.t] T)
  obtain ⟨A, N, C, w1, run8, row8, g8, ob8⟩ := eapp_run ls [x] vl _ _ ty B (own_below hr hal) (Er.one w x T ha hc) (by simp; omega) (by simp; omega)
  have ht : Turn (fun i => vl.ownBlock = some i) w w1 := (Turn.ofBelow hal).trans (Turn.ofGrown g8 (fun g hg => hg))
  have hge : ∀ i, vl.ownBlock = some i → B ≤ i := fun i hi => (World.ownsRow.lt hr i hi).1
  have oz1 := oz.turn ht (oz.no hD)
  have ox1 := ox.turn ht ⟨fun i hi k => nx.1 i hi (hge i k), fun u hu i hi k => nx.2 u hu i hi (hge i k)⟩
  have hb1 : Below wx.heap.size wx w1 := hw.trans (ht.below hw.size (fun i hi => Nat.le_trans hxB (hge i hi)))
  have her : Er w1 (.slice A N C) (ls ++ [x]) := ERow.er row8 (fun y hy => by
    rcases List.mem_append.1 hy with hy | hy
    · exact ox1.er.nls y (hsub y hy)
    · rw [List.mem_singleton] at hy
      subst hy
      exact ⟨ha'.below hb1, hc'.below hb1⟩)
  obtain ⟨_, _, e, _⟩ := id her
  simp only [Value.slice.injEq, List.length_append, List.length_singleton] at e
  obtain ⟨_, rfl, _⟩ := e
  exact ⟨A, C, w1, run8, her, oz1.er, hb1⟩
end
end Go.Proofs.YtjmkphnppegegaaGreatDoor
