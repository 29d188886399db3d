/-
  Put of package tree, by contract.
-/
import Derived.Test.YtchkadifjbmmpaaDoorTrIn
namespace Go.Proofs.YtchkadifjbmmpaaDoor
open Go.RowKit Go.Lib Go.Maps
set_option maxRecDepth 100000
set_option linter.unusedSimpArgs false

def kyR (r : R.Rc) : Ky := (r.o, r.s)
def putS (S : Sb) (r : R.Rc) : Sb := if R.mayR r = true ∧ kyR r ∉ S.map Prod.fst then S ++ [(kyR r, R.layL r)] else S
def putSs (S : Sb) (l : List R.Rc) : Sb := l.foldl putS S
theorem putSs_next (S : Sb) (l : List R.Rc) (i : Nat) (h : i < l.length) : putSs S (l.take (i + 1)) = putS (putSs S (l.take i)) l[i] := by
  unfold putSs
  rw [List.take_succ_eq_append_getElem h, List.foldl_append]
  rfl
theorem putSs_len : ∀ (S : Sb) (l : List R.Rc), (putSs S l).length ≤ S.length + l.length
  | S, [] => Nat.le_refl _
  | S, a :: r => by
    have h1 := putSs_len (putS S a) r
    have h2 : (putS S a).length ≤ S.length + 1 := by unfold putS; split <;> simp
    show (putSs (putS S a) r).length ≤ _
    simp only [List.length_cons]
    omega
theorem TrIn.no {w : World} {p mb : Nat} {T : List Kb} {own : Nat → Prop} (h : TrIn w p mb T own) {k : Ky} (hk : okKy k) (hn : k ∉ T.map Kb.k) :
    (Instr.lookup 82 (.map (some mb)) (kyv k) true).run Tryd.prog w = .ok (.tuple #[.slice none 0 0, .bool false]) w ∧ (Instr.lookup 82 (.map (some mb)) (kyv k) false).run Tryd.prog w = .ok (.slice none 0 0) w := by
  obtain ⟨l, hl⟩ := kyv_lit k hk
  refine h.mp.look_no (z := .slice none 0 0) keyed Tryd.underlying82 (fun w => by simp [Tryd.zeroValue55]) hl ?_
  rw [tb_fst]
  intro h2
  obtain ⟨x, hx, e⟩ := List.mem_map.1 h2
  exact hn (kyv_inj e ▸ hx)
theorem TrIn.yes {w : World} {p mb : Nat} {T : List Kb} {own : Nat → Prop} (h : TrIn w p mb T own) {x : Kb} (hx : x ∈ T) (hk : okKy x.k) :
    (Instr.lookup 82 (.map (some mb)) (kyv x.k) true).run Tryd.prog w = .ok (.tuple #[x.v, .bool true]) w ∧ (Instr.lookup 82 (.map (some mb)) (kyv x.k) false).run Tryd.prog w = .ok x.v w := by
  obtain ⟨l, hl⟩ := kyv_lit x.k hk
  exact h.mp.look (z := .slice none 0 0) keyed Tryd.underlying82 (fun w => by simp [Tryd.zeroValue55]) hl (v := x.v) (List.mem_map.2 ⟨x, hx, rfl⟩)
theorem bl_of_row {w : World} {B : Nat} {v : Value} {l : List Int} (h : R.BRow w B v l) : D.Bl w v l := D.BRow.nl (B := B) (show D.BRow w B v l from h)
theorem below_da (w : World) (o : Obj) : Below w.heap.size w (w.drew.alloc o) := (Below.refl _ _).drew.alloc (Nat.le_refl _) _
theorem turned_block {a b : World} {m : Nat} (h : a.mapTurned b m) {i : Nat} (hi : i < a.heap.size) (hne : i ≠ m) : b.heap[i]? = a.heap[i]? := h.grown.block i hi (fun e => hne (Option.some.inj e))
theorem row_ne_tb {w : World} {p : Nat} {mv : Option Nat} {F : Nat → Nat → Int} (h : TB w p mv F) {B n : Nat} {v : Value} {xs : List Value} (hr : w.ownsRow B 5 1 v n xs) {g : Nat} (hg : v.ownBlock = some g) : g ≠ p := by
  obtain ⟨cs, h1, _⟩ := h
  rcases hr.2 with ⟨rfl, _⟩ | ⟨g', cap, cur, rfl, _, hh, _⟩
  · cases hg
  · simp only [Value.ownBlock, Option.some.injEq] at hg
    subst hg
    rintro rfl
    rw [h1] at hh
    simp only [Option.some.injEq, Obj.cells.injEq] at hh
    exact absurd hh.2.1 (by decide)
theorem tb_ne_map {w : World} {p mb : Nat} {mv : Option Nat} {F : Nat → Nat → Int} (h : TB w p mv F) {kt : TypeId} {m : List (Value × Value)} (hm : PM Tryd.prog w kt mb m) : p ≠ mb := by
  obtain ⟨cs, h1, _⟩ := h
  exact hm.not_cells h1
/-- One record more. -/
theorem TrIn.push {w3 w4 w9 wA wS : World} {p mb : Nat} {T : List Kb} {own : Nat → Prop} (h : TrIn w3 p mb T own) {k : Ky} {v : Value} {bs : List Int} {B : Nat} (hkB : R.keyB k.1 k.2 = true) (hr : R.BRow w3 B v bs) (hbs : 0 < bs.length ∧ bs.length ≤ 1000) (hb4 : Below w3.heap.size w3 w4)
    (hp9 : PM Tryd.prog w9 32 mb (T.map tb ++ [(kyv k, v)])) (ht9 : w4.mapTurned w9 mb) (hbA : Below w9.heap.size w9 wA) (hgS : wA.grownBy wS (some p)) {F' : Nat → Nat → Int} (hT : TB wS p (some mb) F') (hF : ∀ o a, o < 8 → a < 1365 → F' o a = treeF (T.map kbs ++ [(k, bs)]) o a) :
    TrIn wS p mb (T ++ [⟨k, v, bs⟩]) (fun j => own j ∨ v.ownBlock = some j) ∧ Turn own w3 wS := by
  have hpm := tb_ne_map h.bx h.mp
  have s34 := hb4.size
  have s49 := ht9.grown.size
  have s9A := hbA.size
  have sAS := hgS.size
  have far : ∀ i, i < w3.heap.size → i ≠ mb → i ≠ p → wS.heap[i]? = w3.heap[i]? := fun i hi h1 h2 =>
    (hgS.block i (by omega) (fun e => h2 (Option.some.inj e))).trans ((hbA.block i (by omega)).trans ((turned_block ht9 (by omega) h1).trans (hb4.block i hi)))
  have rows : ∀ {B : Nat} {v : Value} {bs : List Int}, R.BRow w3 B v bs → R.BRow wS B v bs := fun {B v bs} hr => ownsRow_of_block hr fun g hg => far g (World.ownsRow.lt hr g hg).2 (row_ne_map h.mp hr hg) (row_ne_tb h.bx hr hg)
  refine ⟨⟨fun i hi => ?_, .inl h.op, .inl h.om, hT.congr (by rw [List.map_append]; exact hF), ?_, fun x hx => ?_, fun x hx g hg => ?_, fun x hx => ?_, fun x hx => ?_⟩, ?_⟩
  · rcases hi with hi | hi
    · have := h.up i hi
      omega
    · have := (World.ownsRow.lt hr i hi).2
      omega
  · rw [List.map_append]
    refine hp9.of_block ((hgS.block mb ?_ (fun e => hpm (Option.some.inj e).symm)).trans (hbA.block mb ?_))
    · have := hp9.lt
      omega
    · exact hp9.lt
  · rcases List.mem_append.1 hx with hx | hx
    · exact rows (h.tr x hx)
    · rw [List.mem_singleton.1 hx]
      exact D.own_mono (rows hr) (Nat.zero_le _)
  · rcases List.mem_append.1 hx with hx | hx
    · exact .inl (h.tw x hx g hg)
    · rw [List.mem_singleton.1 hx] at hg
      exact .inr hg
  · rcases List.mem_append.1 hx with hx | hx
    · exact h.tk x hx
    · rw [List.mem_singleton.1 hx]
      exact hkB
  · rcases List.mem_append.1 hx with hx | hx
    · exact h.tl x hx
    · rw [List.mem_singleton.1 hx]
      exact hbs
  · exact ((Turn.ofBelow hb4).trans (Turn.ofTurned ht9 h.om)).trans ((Turn.ofBelow hbA).trans (Turn.ofGrown hgS (fun g e => by cases e; exact h.op)))
set_option maxHeartbeats 32000000 in
theorem put_c (p : Nat) (S : Sb) (own : Nat → Prop) (v : Value) (l : List R.Rc) (w : World) (h : Tr w p S own) (hrl : ∀ W, Turn own w W → R.Rl W v l) (hs : ∀ r ∈ l, r.t.size ≤ 9223372036854775807 ∧ okKy (kyR r)) (hn : l.length ≤ 100000) (hSn : S.length ≤ 100000) (hT : ∀ W, Turn own w W → R.Tabs W) :
    Calls Tryd.prog 17 #[.pointer (some ⟨p, 0, none⟩), v] w fun e w' => ∃ own', e = .returned (.int .i64 (((putSs S l).length : Int) - (S.length : Int))) ∧ Tr w' p (putSs S l) own' ∧ Turn own w w' ∧ (∀ i, own' i → own i ∨ w.heap.size ≤ i) := by
  have mixed : Tryd.prog.follows .mixedOrders = true := by kernel_rfl
  obtain ⟨ad, cap, rfl, _, _⟩ := (hrl w (Turn.refl _ _)).form
  obtain ⟨mb, T, hx, hTS⟩ := h
  have p0 := hx.bx.map
  have hpl := hx.bx.lt
  have hlen := fun ty => hx.mp.len Tryd.underlying82 ty
  have hSl : (T.map tb).length = S.length := by rw [← hTS, List.length_map, List.length_map]
  rw [hSl] at hlen
  have HOP : Hid (own p ∧ own mb) := Lib.hid ⟨hx.op, hx.om⟩
  have H := Lib.hid hx
  have HTS := Lib.hid hTS
  have HRL := Lib.hid hrl
  have HSZ := Lib.hid hs
  have HT := Lib.hid hT
  clear hx hTS hrl hs hT hSl
  go_enter Tryd.func17, Tryd.ntmps17
  go_wp2_with fail
  clear p0 hpl hlen
  go_loopw [21] (fun v21 wr => ∃ (i : Nat) (T1 : List Kb) (own1 : Nat → Prop), i ≤ l.length ∧ v21 = .int .i64 (i : Int) ∧ Hid (TrIn wr p mb T1 own1) ∧ Hid (T1.map kbs = putSs S (l.take i)) ∧ Hid (Turn own w wr) ∧ Hid (∀ j, own1 j → own j ∨ w.heap.size ≤ j)) (fun v21 _ => l.length - (RowKit.intOf v21).toNat)
  case atStart => exact ⟨0, T, own, by omega, rfl, H, Lib.hid (by rw [HTS.out]; rfl), Lib.hid (Turn.refl _ _), Lib.hid (fun j hj => .inl hj)⟩
  case round =>
    obtain ⟨i, T1, own1, hi, rfl, H1, HS1, HTU1, HO1⟩ := hrel
    clear H HTS
    by_cases hp : i < l.length
    · obtain ⟨ad', cap', e, _, ck⟩ := (HRL.out wr HTU1.out).form
      simp only [Value.slice.injEq, true_and] at e
      obtain ⟨rfl, rfl⟩ := e
      obtain ⟨g, o, rfl, dk⟩ := ck (by omega)
      have a1 := dk i hp
      have HNX := Lib.hid (putSs_next S l i hp)
      have HKY := Lib.hid (HSZ.out _ (List.getElem_mem hp))
      have HP := Lib.hid hp
      generalize l[i] = r at a1 HNX HKY
      obtain ⟨q0, q1, q2, q3, q4⟩ := a1
      have hgl := World.block_lt_of_cell? _ _ q0
      obtain ⟨kb, hkb⟩ : ∃ kb, kb = wr.heap.size := ⟨_, rfl⟩
      obtain ⟨w1, hw1⟩ : ∃ w1, w1 = wr.alloc (.cells #[.int .i64 r.o, .int .i64 r.s, .int .i64 r.w, .int .i64 r.c, .string r.t] 36) := ⟨_, rfl⟩
      have hal : Below wr.heap.size wr w1 := by rw [hw1]; exact alloc_below _ _
      have bx : R.Bx 36 w1 kb #[.int .i64 r.o, .int .i64 r.s, .int .i64 r.w, .int .i64 r.c, .string r.t] := by rw [hw1, hkb]; exact R.Bx.new _ wr _
      have hno : ¬ own1 kb := fun h => by have := H1.out.up _ h; omega
      have hkw : w.heap.size ≤ kb := by rw [hkb]; exact HTU1.out.size
      have h1 := H1.out.below hal
      have p0 := h1.bx.map
      have hl0 := h1.bx.lt
      have b0 := bx.cell 0
      have b1 := bx.cell 1
      simp only [List.getElem?_toArray, List.getElem?_cons_succ, List.getElem?_cons_zero] at b0 b1
      have hl1 := bx.lt
      have H1b := Lib.hid h1
      have BX := Lib.hid bx
      have HNO := Lib.hid hno
      have HKW := Lib.hid hkw
      have HT1 := Lib.hid (HTU1.out.trans (Turn.ofBelow hal))
      by_cases hin : kyR r ∈ T1.map Kb.k
      · obtain ⟨x, hx, hxk⟩ := List.mem_map.1 hin
        have hlk : ∀ n, (Instr.lookup 82 (.map (some mb)) (.agg #[.int .i64 r.o, .int .i64 r.s]) true).run Tryd.prog (w1.drewN n) = .ok (.tuple #[x.v, .bool true]) (w1.drewN n) := fun n => by
          have := ((h1.below (below_drewN (Below.refl _ _) n)).yes hx (hxk ▸ HKY.out.2)).1
          rw [hxk] at this
          exact this
        have HSE : Hid (putSs S (l.take (i + 1)) = putSs S (l.take i)) := Lib.hid (by
          rw [HNX.out]
          unfold putS
          rw [if_neg (fun hc => hc.2 (by rw [← HS1.out, kbs_fst]; exact hin))])
        clear hal bx hno hkw h1 ck dk H1 HTU1 hin hx hxk
        go_wp2_with fail
        rw [← hw1, ← hkb]
        clear hw1 hkb q0 q1 q2 q3 q4 hgl
        go_quiet (fail)
        go_wp2_with fail
        go_roundw
        case rel => exact ⟨i + 1, T1, own1, HP.out, by go_num, Lib.hid (H1b.out.below (below_drewN (Below.refl _ _) _)), Lib.hid (by rw [HSE.out]; exact HS1.out), Lib.hid (HT1.out.trans (Turn.ofBelow (below_drewN (Below.refl _ _) _))), HO1⟩
        case measure => have := HP.out; simp [RowKit.intOf]; omega
      · have hlk : ∀ n, (Instr.lookup 82 (.map (some mb)) (.agg #[.int .i64 r.o, .int .i64 r.s]) true).run Tryd.prog (w1.drewN n) = .ok (.tuple #[.slice none 0 0, .bool false]) (w1.drewN n) := fun n => ((h1.below (below_drewN (Below.refl _ _) n)).no HKY.out.2 hin).1
        have HIN := Lib.hid hin
        clear hal bx hno hkw h1 ck dk H1 HTU1 hin
        go_wp2_with fail
        rw [← hw1, ← hkb]
        clear hw1 hkb q0 q1 q2 q3 q4 hgl
        go_quiet (fail)
        obtain ⟨w2, hw2⟩ : ∃ w2, w2 = w1.drewN nq := ⟨_, rfl⟩
        have b2 : Below w1.heap.size w1 w2 := by rw [hw2]; exact below_drewN (Below.refl _ _) _
        rw [← hw2]
        have H2 := Lib.hid (H1b.out.below b2)
        have BX2 := Lib.hid (BX.out.below b2)
        have HT2 := Lib.hid (HT1.out.trans (Turn.ofBelow b2))
        have TB2 : Hid (R.Tabs w2) := Lib.hid (HT.out w2 HT2.out)
        have CL := Lib.hid (R.lay_c r w2 HKY.out.1 TB2.out)
        have y0 := BX2.out.cell 0
        have y1 := BX2.out.cell 1
        have y2 := BX2.out.cell 2
        have y3 := BX2.out.cell 3
        have y4 := BX2.out.cell 4
        simp only [List.getElem?_toArray, List.getElem?_cons_succ, List.getElem?_cons_zero] at y0 y1 y2 y3 y4
        have hly := BX2.out.lt
        clear hw2 b2 hlk p0 b0 b1 hl0 hl1 H1b BX HT1
        go_wp2_with fail
        refine CL.out.mono ?_
        rintro e w3 ⟨v3, rfl, r3, b3⟩
        have H3 := Lib.hid (H2.out.below b3)
        have BX3 := Lib.hid (BX2.out.below b3)
        have HT3 := Lib.hid (HT2.out.trans (Turn.ofBelow b3))
        have R3 := Lib.hid r3
        have S3 : Hid (w.heap.size ≤ w2.heap.size) := Lib.hid HT2.out.size
        clear y0 y1 y2 y3 y4 hly b3 CL H2 BX2 HT2 r3
        cases hm : R.mayR r with
        | false =>
          rw [if_neg (by simp)]
          have HSE : Hid (putSs S (l.take (i + 1)) = putSs S (l.take i)) := Lib.hid (by
            rw [HNX.out]
            unfold putS
            rw [if_neg (fun hc => by rw [hm] at hc; exact absurd hc.1 (by decide))])
          go_wp2_with fail
          go_roundw
          case rel => exact ⟨i + 1, T1, own1, HP.out, by go_num, H3, Lib.hid (by rw [HSE.out]; exact HS1.out), HT3, HO1⟩
          case measure => have := HP.out; simp [RowKit.intOf]; omega
        | true =>
          rw [if_pos rfl]
          have hkey := hm
          simp only [R.mayR, Bool.and_eq_true] at hkey
          have hkB := hkey.1
          have htm := hkey.2.2
          have hkB2 := hkB
          simp only [R.keyB, Bool.and_eq_true, decide_eq_true_eq] at hkB2
          obtain ⟨on, hon⟩ := Int.eq_ofNat_of_zero_le hkB2.1
          obtain ⟨sn, hsn⟩ := Int.eq_ofNat_of_zero_le (show (0 : Int) ≤ r.s by omega)
          have hon8 : on < 8 := by omega
          have hsn1 : sn < 1024 := by omega
          have hbs : 0 < (R.layL r).length ∧ (R.layL r).length ≤ 1000 := by
            rw [R.layL_len]
            simp only [R.tmayB, Bool.and_eq_true, decide_eq_true_eq] at htm
            have : r.t.size ≤ 120 := by rw [Lib.size_eq]; exact htm.1
            omega
          have HR3 : Hid (R.BRow w3 w2.heap.size v3 (R.layL r)) := Lib.hid (by have := R3.out; rwa [hm, if_pos rfl] at this)
          obtain ⟨ad3, cap3, hv3, _⟩ := (bl_of_row HR3.out).form
          generalize (R.layL r).length = nb at hv3
          subst hv3
          have HSE : Hid (putSs S (l.take (i + 1)) = putSs S (l.take i) ++ [(kyR r, R.layL r)]) := Lib.hid (by
            rw [HNX.out]
            unfold putS
            rw [if_pos ⟨hm, by rw [← HS1.out, kbs_fst]; exact HIN.out⟩])
          obtain ⟨kl, hkl⟩ := kyv_lit (kyR r) HKY.out.2
          have h3d := H3.out.below (Below.refl _ w3).drew
          obtain ⟨w9, hd9, hp9, ht9⟩ := h3d.mp.add keyed Tryd.underlying82 (by
            have := congrArg List.length HS1.out
            rw [List.length_map] at this
            rw [List.length_map]
            have h2 : (putSs S (l.take i)).length ≤ S.length + (l.take i).length := putSs_len _ _
            rw [List.length_take] at h2
            unfold maxLen
            omega) (key := kyv (kyR r)) (v := .slice ad3 nb cap3) hkl (by
            rw [tb_fst]
            intro h2
            obtain ⟨x, hx, e⟩ := List.mem_map.1 h2
            exact HIN.out (kyv_inj e ▸ hx))
          have hpm := tb_ne_map h3d.bx h3d.mp
          have hd9' : (Instr.mapUpdate 82 (.map (some mb)) (.agg #[.int .i64 (on : Int), .int .i64 (sn : Int)]) (.slice ad3 nb cap3)).run Tryd.prog w3.drew = .ok () w9 := by rw [← hon, ← hsn]; exact hd9
          have HD9 := Lib.hid hd9'
          have HP9 := Lib.hid hp9
          have HT9 := Lib.hid ht9
          have s9 := ht9.grown.size
          have X9 : R.Bx 36 w9 kb #[.int .i64 r.o, .int .i64 r.s, .int .i64 r.w, .int .i64 r.c, .string r.t] := (turned_block ht9 (BX3.out.below (Below.refl _ w3).drew).lt (h3d.mp.not_cells (BX3.out.below (Below.refl _ w3).drew))).trans (BX3.out.below (Below.refl _ w3).drew)
          have T9 : Hid (TB w9 p (some mb) (treeF (T1.map kbs))) := Lib.hid (h3d.bx.of_block (turned_block ht9 h3d.bx.lt hpm))
          have R9 : Hid (R.BRow w9 0 (.slice ad3 nb cap3) (R.layL r)) := Lib.hid (D.own_mono (ownsRow_of_block (R.BRow.below HR3.out (Below.refl _ w3).drew) fun g hg => turned_block ht9 (World.ownsRow.lt (R.BRow.below HR3.out (Below.refl _ w3).drew) g hg).2 (row_ne_map h3d.mp (R.BRow.below HR3.out (Below.refl _ w3).drew) hg)) (Nat.zero_le _))
          have HS9 : Hid (w9.cell? ⟨p, 0, none⟩ = some (.map (some mb)) ∧ w9.cell? ⟨kb, 0, none⟩ = some (.int .i64 (on : Int)) ∧ w9.cell? ⟨kb, 1, none⟩ = some (.int .i64 (sn : Int))) := Lib.hid ⟨T9.out.map, by rw [← hon]; exact X9.cell 0, by rw [← hsn]; exact X9.cell 1⟩
          have HSC : Hid (∀ W, Below w3.heap.size w3 W → W.cell? ⟨p, 0, none⟩ = some (.map (some mb)) ∧ W.cell? ⟨kb, 0, none⟩ = some (.int .i64 (on : Int)) ∧ W.cell? ⟨kb, 1, none⟩ = some (.int .i64 (sn : Int))) := Lib.hid (fun W hW => ⟨(H3.out.bx.below hW).map, by rw [← hon]; exact (BX3.out.below hW).cell 0, by rw [← hsn]; exact (BX3.out.below hW).cell 1⟩)
          have HS12 : Hid (∀ W, Below w9.heap.size w9 W → W.cell? ⟨kb, 0, none⟩ = some (.int .i64 (on : Int)) ∧ W.cell? ⟨kb, 1, none⟩ = some (.int .i64 (sn : Int))) := Lib.hid (fun W hW => ⟨(R.Bx.below X9 hW).cell 0 |>.trans (by rw [← hon]; rfl), (R.Bx.below X9 hW).cell 1 |>.trans (by rw [← hsn]; rfl)⟩)
          have hkn : kyR r = ((on : Int), (sn : Int)) := by unfold kyR; rw [hon, hsn]
          have HKN := Lib.hid hkn
          have HKB := Lib.hid hkB
          have CO : Hid (∀ W, Below w9.heap.size w9 W → Calls Tryd.prog 46 #[.slice (some ⟨W.heap.size, 0, none⟩) 1 1] (W.alloc (.cells #[.slice ad3 nb cap3] 55)) fun e w' => e = .returned (.int .u64 (D.fnv 14695981039346656037 (R.layL r))) ∧ W.alloc (.cells #[.slice ad3 nb cap3] 55) = w') := Lib.hid (fun W hW => D.of_c [R.layL r] _ _ ⟨_, _, rfl, fun _ => ⟨W.heap.size, 0, rfl, fun k hk => by
            have hk1 : k < 1 := hk
            match k, hk1 with
            | 0, _ => exact ⟨.slice ad3 nb cap3, (cell_cells (heap_alloc_new W _) 0).trans rfl, (bl_of_row (R.BRow.below R9.out (hW.trans ((alloc_below W _).mono hW.size))))⟩⟩⟩ (by simp) (fun q hq => by simp only [List.mem_singleton] at hq; subst hq; omega))
          have CS : Hid (∀ W, Below w9.heap.size w9 W → Calls Tryd.prog 44 #[.pointer (some ⟨p, 1 + on * 1365, none⟩), .int .i64 (sn : Int), .int .u64 (D.fnv 14695981039346656037 (R.layL r))] W fun e w' => e = .returned (.tuple #[]) ∧ ∃ F', TB w' p (some mb) F' ∧ SetIn (treeF (T1.map kbs)) F' on sn (D.fnv 14695981039346656037 (R.layL r)) ∧ (∀ a, a < 341 → Cons (F' on) a) ∧ W.grownBy w' (some p)) := Lib.hid (fun W hW => by
            have := set_c p on sn (D.fnv 14695981039346656037 (R.layL r)) (some mb) (treeF (T1.map kbs)) W (T9.out.below hW) hon8 hsn1 (treeF_cons _ _)
            rwa [Nat.mul_comm] at this)
          have HBS := Lib.hid hbs
          have HKP : Hid (kb ≠ p) := Lib.hid (fun e => by obtain ⟨cs, h1, _⟩ := T9.out; rw [← e] at h1; have h2 : w9.heap[kb]? = _ := X9; rw [h1] at h2; simp only [Option.some.injEq, Obj.cells.injEq] at h2; exact absurd h2.2.1 (by decide))
          have hob0 : (0 : Int) ≤ (on : Int) := by omega
          have hob1 : (on : Int) < 8 := by omega
          clear hkey hkB htm hkB2 hon hsn hkl h3d hd9 hd9' hp9 ht9 s9 X9 hkn hbs hm R3
          generalize hdg : D.fnv 14695981039346656037 (R.layL r) = dg at *
          have HDG := Lib.hid hdg
          clear hdg
          go_wp2_with fail
          refine wp_region_held_drew (S := fun W => W.cell? ⟨p, 0, none⟩ = some (.map (some mb)) ∧ W.cell? ⟨kb, 0, none⟩ = some (.int .i64 (on : Int)) ∧ W.cell? ⟨kb, 1, none⟩ = some (.int .i64 (sn : Int))) (by kernel_rfl) (HSC.out _ (Below.refl _ _).drew) (fun hHeld => ?_)
          refine take_ok (i := 0) (d := 43) (v := ?_) rfl rfl (by kernel_rfl) (by kernel_rfl) (by kernel_rfl) (fun _ _ _ h => h) (Or.inl ⟨by rfl, ?_⟩) (by assumption) ?_
          rotate_left
          · intro w9 hSw
            try dsimp only at hSw
            first | (go_simp; done) | (go_simp; with_reducible rfl)
          try simp only [Act.put, List.setIfInBounds_toArray, List.set_cons_zero, List.set_cons_succ]
          refine take_ok (i := 1) (d := 44) (v := ?_) rfl rfl (by kernel_rfl) (by kernel_rfl) (by kernel_rfl) (fun _ _ _ h => h) (Or.inl ⟨by rfl, ?_⟩) (by assumption) ?_
          rotate_left
          · intro w9 hSw
            try dsimp only at hSw
            first | (go_simp; done) | (go_simp; with_reducible rfl)
          try simp only [Act.put, List.setIfInBounds_toArray, List.set_cons_zero, List.set_cons_succ]
          refine take_ok (i := 2) (d := 45) (v := ?_) rfl rfl (by kernel_rfl) (by kernel_rfl) (by kernel_rfl) (fun _ _ _ h => h) (Or.inl ⟨by rfl, ?_⟩) (by assumption) ?_
          rotate_left
          · intro w9 hSw
            try dsimp only at hSw
            first | (go_simp; done) | (go_simp; with_reducible rfl)
          try simp only [Act.put, List.setIfInBounds_toArray, List.set_cons_zero, List.set_cons_succ]
          refine take_ok (i := 3) (d := 46) (v := ?_) rfl rfl (by kernel_rfl) (by kernel_rfl) (by kernel_rfl) (fun _ _ _ h => h) (Or.inl ⟨by rfl, ?_⟩) (by assumption) ?_
          rotate_left
          · intro w9 hSw
            try dsimp only at hSw
            first | (go_simp; done) | (go_simp; with_reducible rfl)
          try simp only [Act.put, List.setIfInBounds_toArray, List.set_cons_zero, List.set_cons_succ]
          refine take_ok (i := 4) (d := 47) (v := ?_) rfl rfl (by kernel_rfl) (by kernel_rfl) (by kernel_rfl) (fun _ _ _ h => h) (Or.inl ⟨by rfl, ?_⟩) (by assumption) ?_
          rotate_left
          · intro w9 hSw
            try dsimp only at hSw
            first | (go_simp; done) | (go_simp; with_reducible rfl)
          try simp only [Act.put, List.setIfInBounds_toArray, List.set_cons_zero, List.set_cons_succ]
          refine take_ok (i := 5) (d := 48) (v := ?_) rfl rfl (by kernel_rfl) (by kernel_rfl) (by kernel_rfl) (fun _ _ _ h => h) (Or.inl ⟨by rfl, ?_⟩) (by assumption) ?_
          rotate_left
          · intro w9 hSw
            try dsimp only at hSw
            first | (go_simp; done) | (go_simp; with_reducible rfl)
          try simp only [Act.put, List.setIfInBounds_toArray, List.set_cons_zero, List.set_cons_succ]
          refine take_ok (i := 6) (d := 49) (v := ?_) rfl rfl (by kernel_rfl) (by kernel_rfl) (by kernel_rfl) (fun _ _ _ h => h) (Or.inl ⟨by rfl, ?_⟩) (by assumption) ?_
          rotate_left
          · intro w9 hSw
            try dsimp only at hSw
            first | (go_simp; done) | (go_simp; with_reducible rfl)
          try simp only [Act.put, List.setIfInBounds_toArray, List.set_cons_zero, List.set_cons_succ]
          refine wpAnyH_ready (rs := [7]) (by kernel_rfl) (by simp) ?_
          refine AllReadyH.cons rfl (fun K hK => ?_) AllReadyH.nil
          refine step_mapUpdate_run rfl _ _ _ _ rfl _ _ _ w9 rfl rfl rfl HD9.out ?_
          refine hK.out _ _ (HS9.out) (fun hHeld => ?_)
          clear hK K
          try simp only [Act.put, List.setIfInBounds_toArray, List.set_cons_zero, List.set_cons_succ]
          refine wpAnyH_done (by kernel_rfl) ?_ _
          clear hHeld HSC HD9 HS9
          go_wp2_with fail
          go_region_held3 (fun W => W.cell? ⟨kb, 0, none⟩ = some (.int .i64 (on : Int)) ∧ W.cell? ⟨kb, 1, none⟩ = some (.int .i64 (sn : Int))) (first | exact hSS | exact HS12.out _ (by first | assumption | exact Below.refl _ _ | exact (Below.refl _ _).drew | exact below_da _ _))
            (first
            | (go_at_call 46; refine (CO.out w9.drew (Below.refl _ _).drew).mono ?_; rintro e wA ⟨rfl, hwA⟩; obtain rfl := hwA; have bA : Below w9.heap.size w9 (w9.drew.alloc (.cells #[.slice ad3 nb cap3] 55)) := below_da _ _)
            | (go_at_call 44; refine (CS.out _ bA).mono ?_; rintro e wS ⟨rfl, F', t1, s1, c1, g1⟩; have hSS : wS.cell? ⟨kb, 0, none⟩ = some (.int .i64 (on : Int)) ∧ wS.cell? ⟨kb, 1, none⟩ = some (.int .i64 (sn : Int)) := (fun hh => ⟨(D.grown_cell g1 (World.block_lt_of_cell? _ _ hh.1) (fun e => HKP.out (Option.some.inj e))).trans hh.1, (D.grown_cell g1 (World.block_lt_of_cell? _ _ hh.2) (fun e => HKP.out (Option.some.inj e))).trans hh.2⟩) (HS12.out _ bA))
            | fail)
          have HTP := Lib.hid (told_put (S := T1.map kbs) (k := kyR r) (bs := R.layL r) (by rw [kbs_fst]; exact HIN.out) HKN.out hsn1 (by rw [HDG.out]; exact s1) c1)
          obtain ⟨hI, hU⟩ := H3.out.push HKB.out HR3.out HBS.out (Below.refl _ w3).drew HP9.out HT9.out bA g1 t1 HTP.out
          go_wp2_with fail
          go_roundw
          case rel => exact ⟨i + 1, _, _, HP.out, by go_num, Lib.hid hI, Lib.hid (by rw [HSE.out, List.map_append, HS1.out]; rfl), Lib.hid (HT3.out.join hU (fun j hj => HO1.out j hj)), Lib.hid (fun j hj => hj.elim (HO1.out j) (fun h => .inr (Nat.le_trans S3.out (World.ownsRow.lt HR3.out j h).1)))⟩
          case measure => have := HP.out; simp [RowKit.intOf]; omega
    · have hil : i = l.length := by omega
      subst hil
      have hSS : T1.map kbs = putSs S l := by have := HS1.out; rwa [List.take_length] at this
      have p0 := H1.out.bx.map
      have hl0 := H1.out.bx.lt
      have hlen := fun ty => H1.out.mp.len Tryd.underlying82 ty
      have hSl : (T1.map tb).length = (putSs S l).length := by rw [← hSS, List.length_map, List.length_map]
      rw [hSl] at hlen
      have hSn2 : (putSs S l).length ≤ 200000 := by
        have := putSs_len S l
        omega
      have HRES : Hid (Tr wr p (putSs S l) own1) := Lib.hid ⟨mb, T1, H1.out, hSS⟩
      have HTU := HTU1
      clear hSS hSl
      go_wp2_with fail
      go_ret
      exact ⟨own1, by first | rfl | simp, HRES.out, HTU.out, HO1.out⟩
end Go.Proofs.YtchkadifjbmmpaaDoor
