/-
  Append of a drive, by contract.
-/
import Derived.Test.YtmhmdnlkkpjdjaaDrvRead
import Derived.Test.YtmhmdnlkkpjdjaaDrvName
namespace Go.Proofs.Ytmhmdnlkkpjdjaa
open Go.RowKit Go.Lib

theorem bapp_at (l m : List Int) (v u : Value) (w : World) (ty : TypeId) (h : BRow w 0 v l) (hu : Bl w u m) (hn : l.length + m.length ≤ 2000000) :
    ∃ A C w1, (Builtin.append_ #[22, 22] ty #[v, u]).run Try.prog w = .ok (.slice A (l.length + m.length) C) w1 ∧ BRow w1 0 (.slice A (l.length + m.length) C) (l ++ m) ∧ w.grownBy w1 v.ownBlock ∧ (∀ g, (Value.slice A (l.length + m.length) C).ownBlock = some g → v.ownBlock = some g ∨ w.heap.size ≤ g) := by
  rcases hu with ⟨rfl, rfl⟩ | ⟨ad, cap, rfl, hu⟩
  · obtain ⟨a, c, rfl, hc⟩ := h.bc.2
    have hc' : ¬ c < l.length := by omega
    refine ⟨a, c, w, ?_, by rw [List.append_nil]; exact h, grown_refl _ _, fun g hg => .inl hg⟩
    cases a <;> simp [hc', Builtin.append_, go_sem, run_underlying Try.underlying22]
  · obtain ⟨i0, hi, hz0, hz1, hz2⟩ := info_parts byteInfo
    obtain ⟨v', w', h1, h2, h3, h4, h5⟩ := run_append_own_at (P := Try.prog) w 0 22 ty 5 i0 (.int .u8 0) 1 1 Try.underlying22 hi hz0 hz1 hz2 rfl (by decide) v l.length (bys l) h ad m.length cap (bys m) (by rw [bys_len, Nat.mul_one]) (Bl.news hu) (bys_one m) (by unfold maxLen; omega) (by omega) (Nat.zero_le _)
    have hr : BRow w' 0 v' (l ++ m) := by
      unfold BRow
      rw [List.length_append, show bys (l ++ m) = bys l ++ bys m by simp [bys]]
      exact h2
    obtain ⟨a, c, e, _⟩ := hr.nl.form
    rw [List.length_append] at e
    subst e
    refine ⟨a, c, w', h1, hr, h3, fun g hg => ?_⟩
    rcases h5 with h5 | h5
    · exact .inl (by rw [← h5]; exact hg)
    · rw [h5] at hg
      cases hg
      exact .inr (Nat.le_refl _)

theorem Bl.turned {w w' : World} {v : Value} {l : List Int} {bm n : Nat} {D : DataW Unit} (h : Bl w v l) (hm : w.ownsMap Try.prog 9 ptrElem bm n D) (hg : w.grownBy w' (some bm)) : Bl w' v l := by
  rcases h with h | ⟨ad, cap, h1, h2⟩
  · exact .inl h
  · refine .inr ⟨ad, cap, h1, fun h0 => ?_⟩
    obtain ⟨b, o, e, hs⟩ := h2 h0
    have hb : b ≠ bm := by
      rintro rfl
      obtain ⟨es, clock, hh, _⟩ := hm
      have := hs 0 h0
      simp [World.cell?, hh] at this
    exact ⟨b, o, e, fun k hk => (grown_cell hg (World.block_lt_of_cell? w _ (hs k hk)) (by simpa using hb)).trans (hs k hk)⟩

/-- What is of one's own now: what was, and what is new. -/
def more (own : Nat → Prop) (w w' : World) (i : Nat) : Prop := own i ∨ (w.heap.size ≤ i ∧ i < w'.heap.size)

theorem DrvAt.appended {w w1 : World} {p bm : Nat} {pre post : List Fl} {x : Fl} {m ex : Nat} {own : Nat → Prop} {V : Value} {l : List Int} (h : DrvAt w p bm (pre ++ x :: post) m ex own) (hr : BRow w1 0 V (x.a ++ l)) (hg : w.grownBy w1 x.v.ownBlock)
    (hloc : ∀ g, V.ownBlock = some g → x.v.ownBlock = some g ∨ w.heap.size ≤ g) (U : Int) (hU : U = ((used (pre ++ x :: post) + ex + l.length : Nat) : Int)) (hm : used (pre ++ x :: post) + ex + l.length ≤ m) :
    DrvAt ((w1.setCell ⟨x.b, 0, none⟩ V).setCell ⟨p, 2, none⟩ (.int .i64 U)) p bm (pre ++ { x with v := V, a := x.a ++ l } :: post) m ex (more own w w1) := by
  have hx := h.fl x (by simp)
  have hbp := hx.bp h.hd
  have hpb : p ≠ x.b := fun e => hbp e.symm
  have hbr : ∀ g, x.v.ownBlock = some g → x.b ≠ g := fun g hg e => hx.rb hx hg e.symm
  have hpr : ∀ g, x.v.ownBlock = some g → p ≠ g := fun g hg e => hx.rp h.hd hg e.symm
  have hu : used (pre ++ { x with v := V, a := x.a ++ l } :: post) + ex = used (pre ++ x :: post) + ex + l.length := by rw [used_mid, used_mid]; simp only [List.length_append]; omega
  have hs : ((w1.setCell ⟨x.b, 0, none⟩ V).setCell ⟨p, 2, none⟩ (.int .i64 U)).heap.size = w1.heap.size := by simp [World.setCell]
  have hkeep : ∀ i, i ≠ p → i ≠ x.b → ((w1.setCell ⟨x.b, 0, none⟩ V).setCell ⟨p, 2, none⟩ (.int .i64 U)).heap[i]? = w1.heap[i]? := fun i h1 h2 => by
    rw [Below.heap_setCell _ _ _ _ h1, Below.heap_setCell _ _ _ _ h2]
  have hb1 : Bx 56 w1 x.b _ := (hg.block x.b hx.lt (fun e => hbr _ e.symm rfl)).trans hx.bx
  have hp1 : Bx 51 w1 p _ := (hg.block p h.hd.lt (fun e => hpr _ e.symm rfl)).trans h.hd
  have hrow : ∀ g, V.ownBlock = some g → g ≠ p ∧ g ≠ x.b := fun g hgv => by
    rcases hloc g hgv with k | k
    · exact ⟨fun e => hpr g k e.symm, fun e => hbr g k e.symm⟩
    · have := h.hd.lt
      have := hx.lt
      exact ⟨by omega, by omega⟩
  refine h.turn (ex' := ex) rfl rfl (fun i hi => .inl hi) ?_ ?_ ?_ ?_ hloc (by rw [hu]; exact hm)
  · intro i hi
    rw [hs]
    rcases hi with hi | hi
    · exact Nat.lt_of_lt_of_le (h.up i hi) hg.size
    · exact hi.2
  · rw [hu, ← hU]
    exact ((hp1.setFar (p := ⟨x.b, 0, none⟩) hpb _).set 2 _)
  · refine ⟨.inl hx.ob, ?_, ?_, ?_, ?_⟩
    · exact (hb1.set 0 V).setFar (p := ⟨p, 2, none⟩) hbp _
    · exact ownsRow_of_block hr (fun g hgv => hkeep g (hrow g hgv).1 (hrow g hgv).2)
    · intro g hgv
      rcases hloc g hgv with k | k
      · exact .inl (hx.ov g k)
      · exact .inr ⟨k, (World.ownsRow.lt hr g hgv).2⟩
    · show x.f ≤ (x.a ++ l).length
      have := hx.le
      simp; omega
  · intro i hi h1 h2 h3
    rw [hkeep i h1 h2]
    exact hg.block i (h.up i hi) (fun e => h3 e.symm)
theorem turn_appended {w w1 : World} {p b : Nat} {own : Nat → Prop} {v V : Value} (hg : w.grownBy w1 v.ownBlock) (hov : ∀ g, v.ownBlock = some g → own g) (hp : own p) (hb : own b) (U : Value) : Turn own w ((w1.setCell ⟨b, 0, none⟩ V).setCell ⟨p, 2, none⟩ U) :=
  ((Turn.ofGrown hg hov).set (p := ⟨b, 0, none⟩) hb V).set (p := ⟨p, 2, none⟩) hp U

/-- A step of a drive: what was its own may have turned; what is its own now was, or is new. -/
structure Step (w : World) (own : Nat → Prop) (w' : World) (own' : Nat → Prop) : Prop where
  turn : Turn own w w'
  sub : ∀ i, own i → own' i
  new : ∀ i, own' i → own i ∨ w.heap.size ≤ i

set_option maxHeartbeats 4000000 in
theorem appName_c (p : Nat) (s : ByteArray) (v : Value) (w : World) (hl : s.size ≤ maxLen) (hn : nameB s.data.toList = false) :
    Calls Try.prog 10 #[.pointer (some ⟨p, 0, none⟩), .string s, v] w fun e w' => e = .returned (.int .i64 2) ∧ w = w' := by
  have HN := Lib.hid (name_c s w hl)
  rw [hn] at HN
  clear hn hl
  go_enter Try.func10, Try.ntmps10
  go_wp2_with fail
  refine HN.out.mono ?_
  rintro e w1 ⟨rfl, rfl⟩
  go_wp2
  go_ret
  exact ⟨rfl, rfl⟩

set_option maxHeartbeats 4000000 in
theorem appFull_c (p bm : Nat) (L : List Fl) (m ex : Nat) (own : Nat → Prop) (w : World) (h : DrvAt w p bm L m ex own) (s : ByteArray) (hl : s.size ≤ maxLen) (hn : nameB s.data.toList = true) (v : Value) (l : List Int) (hv : Bl w v l) (hf : m < used L + ex + l.length) :
    Calls Try.prog 10 #[.pointer (some ⟨p, 0, none⟩), .string s, v] w fun e w' => e = .returned (.int .i64 8) ∧ Below w.heap.size w w' := by
  have HN := Lib.hid (name_c s w hl)
  rw [hn] at HN
  have c1 := h.cell1
  have c2 := h.cell2
  have hlt := h.hd.lt
  have hus := h.us
  have hmx := h.mx
  obtain ⟨ad, cap, rfl, _⟩ := hv.form
  clear hn hl h hv
  generalize used L + ex = B at *
  have e1 : decide ((m : Int) - (B : Int) < (l.length : Int)) = true := by simp; omega
  clear hf
  go_enter Try.func10, Try.ntmps10
  go_wp2_with fail
  refine HN.out.mono ?_
  rintro e w1 ⟨rfl, rfl⟩
  go_wp2
  go_quiet (fail)
  go_wp2
  go_ret
  exact ⟨rfl, below_drewN (Below.refl _ _) _⟩

set_option maxHeartbeats 8000000 in
theorem appOld_c (p bm : Nat) (pre post : List Fl) (x : Fl) (m ex : Nat) (own : Nat → Prop) (w : World) (h : DrvAt w p bm (pre ++ x :: post) m ex own) (s : ByteArray) (hs : s.data.toList = x.n) (hl : s.size ≤ maxLen) (hn : nameB s.data.toList = true) (v : Value) (l : List Int) (hv : Bl w v l)
    (hf : used (pre ++ x :: post) + ex + l.length ≤ m) :
    Calls Try.prog 10 #[.pointer (some ⟨p, 0, none⟩), .string s, v] w fun e w' => e = .returned (.int .i64 0) ∧ ∃ V own', DrvAt w' p bm (pre ++ { x with v := V, a := x.a ++ l } :: post) m ex own' ∧ Step w own w' own' := by
  have HN := Lib.hid (name_c s w hl)
  rw [hn] at HN
  have c1 := h.cell1
  have c2 := h.cell2
  have hlt := h.hd.lt
  have hmx := h.mx
  obtain ⟨ad, cap, rfl, _⟩ := hv.form
  have HD := Lib.hid h
  have HV := Lib.hid hv
  have HF := Lib.hid hf
  have HS := Lib.hid hs
  have HL := Lib.hid hl
  clear hn hl h hv hs
  generalize hB : used (pre ++ x :: post) + ex = B at *
  have HB := Lib.hid hB
  clear hB
  have e1 : decide ((m : Int) - (B : Int) < (l.length : Int)) = false := by simp; omega
  go_enter Try.func10, Try.ntmps10
  go_wp2_with fail
  refine HN.out.mono ?_
  rintro e w1 ⟨rfl, rfl⟩
  go_wp2
  go_quiet (fail)
  have HT : Hid (Turn own w (w.drewN nq)) := Lib.hid ((Turn.refl _ _).drewN _)
  have HSZ : Hid ((w.drewN nq).heap.size = w.heap.size) := Lib.hid rfl
  replace HD := Lib.hid (HD.out.drewN nq)
  replace HV : Hid (Bl (w.drewN nq) (.slice ad l.length cap) l) := Lib.hid HV.out
  clear c1 c2 hlt HN e1
  generalize w.drewN nq = W at HT HD HV HSZ ⊢
  have c0 := HD.out.cell0
  have c2 := HD.out.cell2
  rw [HB.out] at c2
  have hlt := HD.out.hd.lt
  have hx := HD.out.fl x (by simp)
  have hfd := DrvAt.find HD.out.mp HD.out.so HS.out HL.out
  obtain ⟨A0, C0, hxv, _⟩ := hx.form
  have d0 := hx.cell0
  rw [hxv] at d0
  obtain ⟨A, C, w1, happ, hr1, hg1, hloc⟩ := bapp_at x.a l x.v (.slice ad l.length cap) W 22 hx.row HV.out (by have := used_mem (L := pre ++ x :: post) (x := x) (by simp); have := HB.out; omega)
  rw [hxv] at happ
  have HAPP := Lib.hid happ
  have hltx := hx.lt
  have hbp := hx.bp HD.out.hd
  have hb1 : Bx 56 w1 x.b _ := (hg1.block x.b hx.lt (fun e => hx.rb hx e.symm rfl)).trans hx.bx
  have hp1 : Bx 51 w1 p _ := (hg1.block p HD.out.hd.lt (fun e => hx.rp HD.out.hd e.symm rfl)).trans HD.out.hd
  have f0 := hb1.soft 0
  have d1 : w1.cell? ⟨x.b, 0, none⟩ = some x.v := by rw [hb1.cell 0]; rfl
  rw [hxv] at d1
  have f2 := hp1.soft 2
  have c3 : w1.cell? ⟨p, 2, none⟩ = some (.int .i64 (B : Int)) := by rw [hp1.cell 2, ← HB.out]; rfl
  have hlt1 := hp1.lt
  have hltx1 := hb1.lt
  have hpb : p ≠ x.b := fun e => hbp e.symm
  have HR : Hid (∀ U : Int, U = ((B + l.length : Nat) : Int) → DrvAt ((w1.setCell ⟨x.b, 0, none⟩ (.slice A (x.a.length + l.length) C)).setCell ⟨p, 2, none⟩ (.int .i64 U)) p bm (pre ++ { x with v := .slice A (x.a.length + l.length) C, a := x.a ++ l } :: post) m ex (more own W w1)) := Lib.hid (fun U hU =>
    HD.out.appended hr1 hg1 hloc U (by rw [HB.out]; exact hU) (by rw [HB.out]; exact HF.out))
  have HTT : Hid (∀ U, Turn own w ((w1.setCell ⟨x.b, 0, none⟩ (.slice A (x.a.length + l.length) C)).setCell ⟨p, 2, none⟩ U)) := Lib.hid (fun U => HT.out.trans (turn_appended hg1 hx.ov HD.out.op hx.ob U))
  clear happ hr1 hg1 hloc hx hxv hb1 hp1 HV HD HT
  generalize x.a.length = n at *
  go_wp2_with (at_builtin; refine wpList_append_run rfl _ _ 22 rfl _ _ HAPP.out ?_)
  go_ret
  refine ⟨rfl, _, more own W w1, HR.out _ ?_, HTT.out _, fun i hi => .inl hi, fun i hi => ?_⟩
  · omega
  · rcases hi with hi | hi
    · exact .inl hi
    · exact .inr (by rw [← HSZ.out]; exact hi.1)

theorem ins_parts_n (n : List UInt8) : ∀ L : List Fl, ∃ pre post, L = pre ++ post ∧ ∀ x : Fl, x.n = n → ins x L = pre ++ x :: post
  | [] => ⟨[], [], rfl, fun _ _ => rfl⟩
  | z :: r => by
    by_cases hb : bytesBefore n z.n = true
    · exact ⟨[], z :: r, rfl, fun x hx => by rw [ins, hx, if_pos hb]; rfl⟩
    · obtain ⟨pre, post, h1, h2⟩ := ins_parts_n n r
      exact ⟨z :: pre, post, by rw [h1]; rfl, fun x hx => by rw [ins, hx, if_neg hb, h2 x hx]; rfl⟩
theorem wpList_mapUpdate_run {P : Program} {w : World} {ops : Array Oper} {rest : List Oper} {o : Oper} {a : Act} {Q : Exit → Act → World → Prop} (hgd : o.guard = none) (m x v : Operand) (t : TypeId)
    (ho : o.op = .mapUpdate t m x v) (w' : World)
    (hr : (Instr.mapUpdate t (a.eval m) (a.eval x) (a.eval v)).run P w = .ok () w') (h : wpList P ops Q rest (a.put o.dst undef) w') : wpList P ops Q (o :: rest) a w :=
  wpList_plain hgd fun _ hK => by
    unfold Oper.wp execOp
    simp only [ho, Sem.run_bind, Sem.run_pure, Result.andThen_ok, hr]
    exact hK _ _ h
/-- A new file, with nothing in it. -/
theorem DrvAt.fresh {W w2 : World} {p bm : Nat} {L : List Fl} {m ex : Nat} {own : Nat → Prop} {n : List UInt8} (h : DrvAt W p bm L m ex own) (hno : ∀ y ∈ L, y.n ≠ n)
    (hm : w2.ownsMap Try.prog 9 ptrElem bm (L.length + 1) (Dof (ins ⟨n, W.heap.size, .slice none 0 0, [], 0⟩ L))) (ht : (W.alloc (.cells #[.slice none 0 0, .int .i64 0] 56)).mapTurned w2 bm) :
    DrvAt w2 p bm (ins ⟨n, W.heap.size, .slice none 0 0, [], 0⟩ L) m ex (fun i => own i ∨ i = W.heap.size) ∧ Turn own W w2 := by
  have hg := ht.grown
  have hbm := h.up bm h.om
  have hblk : ∀ i, i ≠ bm → i < W.heap.size → w2.heap[i]? = W.heap[i]? := fun i h1 h2 => (hg.block i (by simp; omega) (by simpa using h1)).trans (Below.heap_alloc _ _ i h2)
  have hsz : W.heap.size + 1 ≤ w2.heap.size := by have := hg.size; simpa using this
  refine ⟨h.add hno (fun i hi => .inl hi) (fun i hi => ?_) hm ?_ (fun i hi h1 => hblk i h1 (h.up i hi)) (fun y hy => ?_) (by simp), ⟨hg.os.trans rfl, hg.tape.trans rfl, hg.output.trans rfl, by omega, fun i hi hn => hblk i (fun e => hn (by rw [e]; exact h.om)) hi⟩⟩
  · rcases hi with hi | rfl
    · have := h.up i hi
      omega
    · omega
  · refine ⟨.inr rfl, (hg.block W.heap.size (by simp) (by simp; omega)).trans (heap_alloc_new W _), BRow.nil _ _, fun g hg => (by cases hg), Nat.le_refl _⟩
  · have hyf := h.fl y hy
    have := hyf.lt
    exact ⟨by show y.b ≠ W.heap.size; omega, fun g hg e => by cases e⟩

set_option maxHeartbeats 8000000 in
theorem appNew_c (p bm : Nat) (L : List Fl) (m ex : Nat) (own : Nat → Prop) (w : World) (h : DrvAt w p bm L m ex own) (s : ByteArray) (hs : ∀ y ∈ L, y.n ≠ s.data.toList) (hl : s.size ≤ maxLen) (hn : nameB s.data.toList = true) (v : Value) (l : List Int) (hv : Bl w v l)
    (hf : used L + ex + l.length ≤ m) (hL : L.length < maxLen) :
    Calls Try.prog 10 #[.pointer (some ⟨p, 0, none⟩), .string s, v] w fun e w' => e = .returned (.int .i64 0) ∧ ∃ b V own', DrvAt w' p bm (ins ⟨s.data.toList, b, V, l, 0⟩ L) m ex own' ∧ Step w own w' own' := by
  have HN := Lib.hid (name_c s w hl)
  rw [hn] at HN
  have c1 := h.cell1
  have c2 := h.cell2
  have hlt := h.hd.lt
  have hmx := h.mx
  obtain ⟨ad, cap, rfl, _⟩ := hv.form
  have HD := Lib.hid h
  have HV := Lib.hid hv
  have HF := Lib.hid hf
  have HS := Lib.hid hs
  have HL := Lib.hid hl
  have HLL := Lib.hid hL
  clear hn hl h hv hs hL
  generalize hB : used L + ex = B at *
  have HB := Lib.hid hB
  clear hB
  have e1 : decide ((m : Int) - (B : Int) < (l.length : Int)) = false := by simp; omega
  go_enter Try.func10, Try.ntmps10
  go_wp2_with fail
  refine HN.out.mono ?_
  rintro e w1 ⟨rfl, rfl⟩
  go_wp2
  go_quiet (fail)
  have HT : Hid (Turn own w (w.drewN nq)) := Lib.hid ((Turn.refl _ _).drewN _)
  have HSZ : Hid ((w.drewN nq).heap.size = w.heap.size) := Lib.hid rfl
  replace HD := Lib.hid (HD.out.drewN nq)
  replace HV : Hid (Bl (w.drewN nq) (.slice ad l.length cap) l) := Lib.hid HV.out
  clear c1 c2 hlt HN e1
  generalize w.drewN nq = W at HT HD HV HSZ ⊢
  have c0 := HD.out.cell0
  have hlt := HD.out.hd.lt
  have hfd := DrvAt.miss HD.out.mp HS.out HL.out
  obtain ⟨w2, hput, hm2, ht2⟩ := DrvAt.puts (x := ⟨s.data.toList, W.heap.size, .slice none 0 0, [], 0⟩) (HD.out.mp.alloc (.cells #[.slice none 0 0, .int .i64 0] 56)) HS.out (s := s) rfl HL.out HLL.out
  obtain ⟨hD2, hT2⟩ := HD.out.fresh HS.out hm2 ht2
  replace HV := Lib.hid ((HV.out.below (alloc_below W (.cells #[.slice none 0 0, .int .i64 0] 56))).turned (HD.out.mp.alloc _) ht2.grown)
  have HT2 := Lib.hid (HT.out.trans hT2)
  have HPUT := Lib.hid hput
  have hlt0 : p < W.heap.size + 1 := by omega
  have c01 : (W.alloc (.cells #[.slice none 0 0, .int .i64 0] 56)).cell? ⟨p, 0, none⟩ = some (.map (some bm)) := ((alloc_below W _).cell hlt).trans c0
  obtain ⟨pre, post, hLp, hins⟩ := ins_parts_n s.data.toList L
  rw [hins _ rfl] at hD2
  have HD2 := Lib.hid hD2
  have HINS := Lib.hid hins
  have HW2 : Hid (W.heap.size ≤ w2.heap.size) := Lib.hid hT2.size
  have hBu : used (pre ++ ⟨s.data.toList, W.heap.size, .slice none 0 0, [], 0⟩ :: post) + ex = B := by rw [used_mid, ← hLp]; have := HB.out; simp; omega
  have HBU := Lib.hid hBu
  clear hput hm2 ht2 hD2 hT2 hins hLp hBu
  have hx := HD2.out.fl ⟨s.data.toList, W.heap.size, .slice none 0 0, [], 0⟩ (by simp)
  have hltp2 := HD2.out.hd.lt
  have hltx := hx.lt
  have d0 : w2.cell? ⟨W.heap.size, 0, none⟩ = some (.slice none 0 0) := hx.cell0
  obtain ⟨A, C, w1, happ, hr1, hg1, hloc⟩ := bapp_at [] l (.slice none 0 0) (.slice ad l.length cap) w2 22 hx.row HV.out (by simp; omega)
  rw [List.length_nil, Nat.zero_add] at happ hr1 hloc
  have HAPP := Lib.hid happ
  have hbp : W.heap.size ≠ p := by omega
  have hpb : p ≠ W.heap.size := by omega
  have hb1 : Bx 56 w1 W.heap.size _ := (hg1.block _ hx.lt (fun e => by cases e)).trans hx.bx
  have hp1 : Bx 51 w1 p _ := (hg1.block p HD2.out.hd.lt (fun e => by cases e)).trans HD2.out.hd
  have f0 := hb1.soft 0
  have d1 : w1.cell? ⟨W.heap.size, 0, none⟩ = some (.slice none 0 0) := by rw [hb1.cell 0]; rfl
  have f2 := hp1.soft 2
  have c3 : w1.cell? ⟨p, 2, none⟩ = some (.int .i64 (B : Int)) := by rw [hp1.cell 2, ← HBU.out]; rfl
  have hlt1 := hp1.lt
  have hltx1 := hb1.lt
  have HR : Hid (∀ U : Int, U = ((B + l.length : Nat) : Int) → DrvAt ((w1.setCell ⟨W.heap.size, 0, none⟩ (.slice A l.length C)).setCell ⟨p, 2, none⟩ (.int .i64 U)) p bm (pre ++ ⟨s.data.toList, W.heap.size, .slice A l.length C, l, 0⟩ :: post) m ex (more (fun i => own i ∨ i = W.heap.size) w2 w1)) := Lib.hid (fun U hU =>
    HD2.out.appended hr1 hg1 hloc U (by rw [HBU.out]; exact hU) (by rw [HBU.out]; exact HF.out))
  have HTT : Hid (∀ U, Turn own w ((w1.setCell ⟨W.heap.size, 0, none⟩ (.slice A l.length C)).setCell ⟨p, 2, none⟩ U)) := Lib.hid (fun U => by
    have hk : Turn (fun i => own i ∨ i = W.heap.size) w2 ((w1.setCell ⟨W.heap.size, 0, none⟩ (.slice A l.length C)).setCell ⟨p, 2, none⟩ U) := turn_appended hg1 (fun g hg => by cases hg) HD2.out.op hx.ob U
    have h2 := HT2.out
    have hs := HSZ.out
    exact ⟨hk.os.trans h2.os, hk.tape.trans h2.tape, hk.output.trans h2.output, Nat.le_trans h2.size hk.size, fun i hi hn => (hk.block i (Nat.lt_of_lt_of_le hi h2.size) (fun e => by
      rcases e with e | e
      · exact hn e
      · omega)).trans (h2.block i hi hn)⟩)
  clear happ hr1 hg1 hloc hx hb1 hp1 HV HD HT HT2 HD2
  go_wp2_with (first | (at_mapUpdate; refine wpList_mapUpdate_run rfl _ _ _ 49 rfl _ HPUT.out ?_) | (at_builtin; refine wpList_append_run rfl _ _ 22 rfl _ _ HAPP.out ?_))
  go_ret
  refine ⟨rfl, W.heap.size, .slice A l.length C, more (fun i => own i ∨ i = W.heap.size) w2 w1, ?_, HTT.out _, fun i hi => .inl (.inl hi), fun i hi => ?_⟩
  · rw [HINS.out _ rfl]
    refine HR.out _ ?_
    omega
  · have := HSZ.out
    have := HW2.out
    rcases hi with (hi | hi) | hi
    · exact .inl hi
    · exact .inr (by omega)
    · exact .inr (by omega)
end Go.Proofs.Ytmhmdnlkkpjdjaa
