/-
  Put of package index, by contract.
-/
import Derived.Test.YtdjlgiinekighaaGreatDoorPkIn
import Derived.Test.YtdjlgiinekighaaGreatDoorIter
import Derived.Maps.RangeWalk
namespace Go.Proofs.YtdjlgiinekighaaGreatDoor
open Go.RowKit Go.Lib Go.Sort Go.Shelf Go.Maps Go.Proofs.YtdjlgiinekighaaGreatDoor.P Go.Proofs
set_option maxRecDepth 100000
set_option linter.unusedSimpArgs false

theorem put_text {w w' : World} {p bt bl B : Nat} {T : List Tx} {L : List Wn} {own : Nat → Prop} {x : Tx} (h : IxL w p bt bl T L own) (hr : Go.Proofs.YtdjlgiinekighaaGreatDoor.T.WordsAt w B x.v x.ts) (hk : okKy (txo x)) (hpm : PM Tryz.prog w' 31 bt ((T ++ [x]).map tv)) (ht : w.mapTurned w' bt) :
    ∃ own', (∀ i, own' i → own i ∨ (B ≤ i ∧ i < w.heap.size)) ∧ (∀ i, own i → own' i) ∧ IxL w' p bt bl (T ++ [x]) L own' ∧ Turn own' w w' := by
  refine ⟨fun i => own i ∨ x.v.ownBlock = some i, fun i hi => hi.imp id (fun e => World.ownsRow.lt hr i e), fun i hi => .inl hi, ?_, Turn.ofTurned ht (.inl h.ot)⟩
  refine h.texts (fun i hi => .inl hi) (fun i hi => hi.elim (h.up i) (fun e => (World.ownsRow.lt hr i e).2)) hpm ht fun y hy => ?_
  rcases List.mem_append.1 hy with hy | hy
  · exact ⟨h.tr y hy, fun g hg => .inl (h.tw y hy g hg), h.tk y hy⟩
  · simp only [List.mem_singleton] at hy
    subst hy
    exact ⟨hr.mono (Nat.zero_le _), fun g hg => .inr hg, hk⟩
theorem put_few {n : Nat} {T : List Tx} {L : List Wn} {x : Tx} (h : Few n T L) : Few (n + 1) (T ++ [x]) L := ⟨by have := h.t; simp; omega, Nat.le_succ_of_le h.l, fun y hy => Nat.le_succ_of_le (h.e y hy), fun y hy e he => Nat.le_succ_of_le (h.s y hy e he)⟩
set_option maxHeartbeats 4000000 in
theorem put_no (a : Value) (ad : Addr) (r : R.Rc) (w : World) (ha : a = .pointer (some ad)) (hm : R.mayR r = false) (hs : r.t.size ≤ 9223372036854775807) (hR : R.Tabs w) :
    Calls Tryz.prog 14 #[a, .agg #[.int .i64 r.o, .int .i64 r.s, .int .i64 r.w, .int .i64 r.c, .string r.t]] w fun e w' => e = .returned (.int .i64 2) ∧ Below w.heap.size w w' := by
  subst ha
  have CM := Lib.hid (R.may_c r (w.alloc (.cells #[.int .i64 r.o, .int .i64 r.s, .int .i64 r.w, .int .i64 r.c, .string r.t] 35)) hs (hR.below (alloc_below _ _)))
  rw [hm] at CM
  have hb1 := alloc_below w (.cells #[.int .i64 r.o, .int .i64 r.s, .int .i64 r.w, .int .i64 r.c, .string r.t] 35)
  have hx1 := Bx.new 35 w #[.int .i64 r.o, .int .i64 r.s, .int .i64 r.w, .int .i64 r.c, .string r.t]
  obtain ⟨w1, hw1⟩ : ∃ w1, w1 = w.alloc (.cells #[.int .i64 r.o, .int .i64 r.s, .int .i64 r.w, .int .i64 r.c, .string r.t] 35) := ⟨_, rfl⟩
  rw [← hw1] at CM hb1 hx1
  obtain ⟨q0, q1, q2, q3, q4⟩ := R.Bx.five hx1
  have hlt := hx1.lt
  have HB1 := Lib.hid hb1
  clear hx1 hb1 hs hR hm
  go_enter Tryz.func14, Tryz.ntmps14
  go_wp2_with fail
  rw [← hw1]
  clear hw1
  go_wp2_with (go_at_call 33; refine CM.out.mono ?_; rintro e w2 ⟨rfl, b2⟩; have HB2 := Lib.hid (bn HB1.out b2); clear b2)
  go_ret
  exact ⟨rfl, HB2.out⟩
set_option maxHeartbeats 4000000 in
theorem put_old (p n : Nat) (S : Sx) (own : Nat → Prop) (r : R.Rc) (w : World) (h : Ix w p S n own) (hm : R.mayR r = true) (hs : r.t.size ≤ 9223372036854775807) (hR : R.Tabs w) (hin : (r.o, r.s) ∈ S.map Prod.fst) :
    Calls Tryz.prog 14 #[.pointer (some ⟨p, 0, none⟩), .agg #[.int .i64 r.o, .int .i64 r.s, .int .i64 r.w, .int .i64 r.c, .string r.t]] w fun e w' => e = .returned (.int .i64 6) ∧ Below w.heap.size w w' := by
  have mixed : Tryz.prog.follows .mixedOrders = true := by kernel_rfl
  obtain ⟨bt, bl, T, L, hx, rfl, _⟩ := h
  rw [txs_fst] at hin
  obtain ⟨x, hxm, hxk⟩ := List.mem_map.1 hin
  have CM := Lib.hid (R.may_c r (w.alloc (.cells #[.int .i64 r.o, .int .i64 r.s, .int .i64 r.w, .int .i64 r.c, .string r.t] 35)) hs (hR.below (alloc_below _ _)))
  rw [hm] at CM
  have hb1 := alloc_below w (.cells #[.int .i64 r.o, .int .i64 r.s, .int .i64 r.w, .int .i64 r.c, .string r.t] 35)
  have hx1 := Bx.new 35 w #[.int .i64 r.o, .int .i64 r.s, .int .i64 r.w, .int .i64 r.c, .string r.t]
  obtain ⟨w1, hw1⟩ : ∃ w1, w1 = w.alloc (.cells #[.int .i64 r.o, .int .i64 r.s, .int .i64 r.w, .int .i64 r.c, .string r.t] 35) := ⟨_, rfl⟩
  rw [← hw1] at CM hb1 hx1
  have q := R.Bx.five hx1
  obtain ⟨q0, q1, q2, q3, q4⟩ := q
  have hlt := hx1.lt
  have HB1 := Lib.hid hb1
  have H1 := Lib.hid (hx.below hb1)
  have X1 := Lib.hid hx1
  have HXM := Lib.hid hxm
  clear hx1 hb1 hs hR hm hx hxm hin
  go_enter Tryz.func14, Tryz.ntmps14
  go_wp2_with fail
  rw [← hw1]
  clear hw1
  go_wp2_with (go_at_call 33; refine CM.out.mono ?_; rintro e w2 ⟨rfl, b2⟩; have HB2 := Lib.hid b2; clear b2)
  clear q0 q1 q2 q3 q4 hlt
  have p0 := (H1.out.below HB2.out).hd.cell 0
  obtain ⟨q0, q1, q2, q3, q4⟩ := R.Bx.five (X1.out.below HB2.out)
  simp only [List.getElem?_toArray, List.getElem?_cons_zero] at p0
  have hlt := (X1.out.below HB2.out).lt
  have hpl := (H1.out.below HB2.out).hd.lt
  have hlk : ∀ n, (Instr.lookup 69 (.map (some bt)) (.agg #[.int .i64 r.o, .int .i64 r.s]) true).run Tryz.prog (w2.drewN n) = .ok (.tuple #[x.v, .bool true]) (w2.drewN n) := fun n => by
    have h := (((H1.out.below HB2.out).below (Go.Proofs.YtdjlgiinekighaaGreatDoor.P.below_drewN (Below.refl _ _) n)).text_at HXM.out).1
    rw [hxk] at h
    exact h
  go_quiet (fail)
  go_wp2_with fail
  go_ret
  exact ⟨rfl, Go.Proofs.YtdjlgiinekighaaGreatDoor.P.below_drewN (bn HB1.out HB2.out) _⟩
set_option maxHeartbeats 16000000 in
theorem put_new (p n : Nat) (S : Sx) (own : Nat → Prop) (r : R.Rc) (w : World) (h : Ix w p S n own) (hn2 : n ≤ 900000) (hm : R.mayR r = true) (hs : r.t.size ≤ 9223372036854775807) (hR : R.Tabs w) (hT : T.Tabs w) (hni : (r.o, r.s) ∉ S.map Prod.fst) :
    Calls Tryz.prog 14 #[.pointer (some ⟨p, 0, none⟩), .agg #[.int .i64 r.o, .int .i64 r.s, .int .i64 r.w, .int .i64 r.c, .string r.t]] w fun e w' => e = .returned (.int .i64 0) ∧ ∃ own', Ix w' p (S ++ [((r.o, r.s), wordsOf r.t)]) (n + 200) own' ∧ Turn own w w' ∧ (∀ i, own' i → own i ∨ w.heap.size ≤ i) ∧ (∀ i, own i → own' i) := by
  have mixed : Tryz.prog.follows .mixedOrders = true := by kernel_rfl
  obtain ⟨bt, bl, T, L, hx, rfl, hte, hfu, hfe⟩ := h
  have hni2 := hni
  rw [txs_fst] at hni2
  have hmm := hm
  simp only [R.mayR, Bool.and_eq_true] at hmm
  obtain ⟨rs, hok, hen, hz, hrl⟩ := may_text hmm.2.2
  have hwo := wordsOf_eq hok hen
  have hkk : okKy (r.o, r.s) := by
    have := hmm.1
    simp only [R.keyB, Bool.and_eq_true, decide_eq_true_eq] at this
    exact ⟨⟨by omega, by omega⟩, ⟨by omega, by omega⟩⟩
  have hwf := words_few hrl
  rw [← hwo] at hwf
  have CM := Lib.hid (R.may_c r (w.alloc (.cells #[.int .i64 r.o, .int .i64 r.s, .int .i64 r.w, .int .i64 r.c, .string r.t] 35)) hs (hR.below (alloc_below _ _)))
  rw [hm] at CM
  have hb1 := alloc_below w (.cells #[.int .i64 r.o, .int .i64 r.s, .int .i64 r.w, .int .i64 r.c, .string r.t] 35)
  have hx1 := Bx.new 35 w #[.int .i64 r.o, .int .i64 r.s, .int .i64 r.w, .int .i64 r.c, .string r.t]
  obtain ⟨w1, hw1⟩ : ∃ w1, w1 = w.alloc (.cells #[.int .i64 r.o, .int .i64 r.s, .int .i64 r.w, .int .i64 r.c, .string r.t] 35) := ⟨_, rfl⟩
  rw [← hw1] at CM hb1 hx1
  obtain ⟨q0, q1, q2, q3, q4⟩ := R.Bx.five hx1
  have hlt := hx1.lt
  have HB1 := Lib.hid hb1
  have H1 := Lib.hid (hx.below hb1)
  have X1 := Lib.hid hx1
  have HOK := Lib.hid hok
  have HE := Lib.hid hen
  have HZ := Lib.hid hz
  have HWO := Lib.hid hwo
  have HK := Lib.hid hkk
  have HWF := Lib.hid hwf
  have HNI := Lib.hid hni2
  have HNS := Lib.hid hni
  have HTE := Lib.hid hte
  have HFU := Lib.hid hfu
  have HN := Lib.hid hfe
  have HT1 := Lib.hid (hT.below hb1)
  have HUP := Lib.hid hx.up
  have HNO : Hid (kyv (r.o, r.s) ∉ (T.map tv).map Prod.fst) := Lib.hid (by
    rw [tv_fst]
    intro h2
    obtain ⟨x, hx, e⟩ := List.mem_map.1 h2
    exact hni2 (kyv_inj e ▸ hx))
  clear hx1 hb1 hs hR hT hm hx hni hni2 hmm hok hen hz hrl hwo hkk hwf hte hfu hfe
  go_enter Tryz.func14, Tryz.ntmps14
  go_wp2_with fail
  rw [← hw1]
  clear hw1
  go_wp2_with (go_at_call 33; refine CM.out.mono ?_; rintro e w2 ⟨rfl, b2⟩; have HB2 := Lib.hid b2; clear b2)
  clear q0 q1 q2 q3 q4 hlt CM
  have H2 := Lib.hid (H1.out.below HB2.out)
  have X2 := Lib.hid (X1.out.below HB2.out)
  have p0 := H2.out.hd.cell 0
  obtain ⟨q0, q1, q2, q3, q4⟩ := R.Bx.five X2.out
  simp only [List.getElem?_toArray, List.getElem?_cons_zero] at p0
  have hlt := X2.out.lt
  have hpl := H2.out.hd.lt
  have hlk : ∀ n, (Instr.lookup 69 (.map (some bt)) (.agg #[.int .i64 r.o, .int .i64 r.s]) true).run Tryz.prog (w2.drewN n) = .ok (.tuple #[.slice none 0 0, .bool false]) (w2.drewN n) := fun n => ((H2.out.below (Go.Proofs.YtdjlgiinekighaaGreatDoor.P.below_drewN (Below.refl _ _) n)).text_no HK.out HNI.out).1
  go_quiet (fail)
  obtain ⟨W3, hW3⟩ : ∃ W3, W3 = w2.drewN nq := ⟨_, rfl⟩
  have hb3 : Below w2.heap.size w2 W3 := by rw [hW3]; exact Go.Proofs.YtdjlgiinekighaaGreatDoor.P.below_drewN (Below.refl _ _) _
  rw [← hW3]
  have H3 := Lib.hid (H2.out.below hb3)
  have X3 := Lib.hid (X2.out.below hb3)
  have HT3 := Lib.hid (Turn.ofBelow (S := own) (bn (bn HB1.out HB2.out) hb3))
  have HTT := Lib.hid ((HT1.out.below HB2.out).below hb3)
  clear hW3 hb3 hlk p0 q0 q1 q2 q3 q4 hlt hpl H1 H2 X1 X2
  have HW3 : Hid (w.heap.size < W3.heap.size) := Lib.hid X3.out.lt
  have HSC : Hid (∀ W, Below W3.heap.size W3 W → W.cell? ⟨p, 0, none⟩ = some (.map (some bt)) ∧ W.cell? ⟨w.heap.size, 0, none⟩ = some (.int .i64 r.o) ∧ W.cell? ⟨w.heap.size, 1, none⟩ = some (.int .i64 r.s) ∧ W.cell? ⟨w.heap.size, 4, none⟩ = some (.string r.t)) := Lib.hid (fun W hW => ⟨(H3.out.hd.below hW).cell 0, (X3.out.below hW).cell 0, (X3.out.below hW).cell 1, (X3.out.below hW).cell 4⟩)
  go_wp2_with fail
  refine wp_region_held_drew (S := fun W => W.cell? ⟨p, 0, none⟩ = some (.map (some bt)) ∧ W.cell? ⟨w.heap.size, 0, none⟩ = some (.int .i64 r.o) ∧ W.cell? ⟨w.heap.size, 1, none⟩ = some (.int .i64 r.s) ∧ W.cell? ⟨w.heap.size, 4, none⟩ = some (.string r.t)) (by kernel_rfl) (HSC.out _ (Below.refl _ _).drew) (fun hHeld => ?_)
  refine take_ok (i := 0) (d := 25) (v := ?_) rfl rfl (by kernel_rfl) (by kernel_rfl) (by kernel_rfl) (fun _ _ _ h => h) (Or.inl ⟨by rfl, ?_⟩) (by assumption) ?_
  rotate_left
  · intro w9 hSw
    try dsimp only at hSw
    first | (go_simp; done) | (go_simp; with_reducible rfl)
  try simp only [Act.put, List.setIfInBounds_toArray, List.set_cons_zero, List.set_cons_succ]
  refine take_ok (i := 1) (d := 26) (v := ?_) rfl rfl (by kernel_rfl) (by kernel_rfl) (by kernel_rfl) (fun _ _ _ h => h) (Or.inl ⟨by rfl, ?_⟩) (by assumption) ?_
  rotate_left
  · intro w9 hSw
    try dsimp only at hSw
    first | (go_simp; done) | (go_simp; with_reducible rfl)
  try simp only [Act.put, List.setIfInBounds_toArray, List.set_cons_zero, List.set_cons_succ]
  refine take_ok (i := 2) (d := 27) (v := ?_) rfl rfl (by kernel_rfl) (by kernel_rfl) (by kernel_rfl) (fun _ _ _ h => h) (Or.inl ⟨by rfl, ?_⟩) (by assumption) ?_
  rotate_left
  · intro w9 hSw
    try dsimp only at hSw
    first | (go_simp; done) | (go_simp; with_reducible rfl)
  try simp only [Act.put, List.setIfInBounds_toArray, List.set_cons_zero, List.set_cons_succ]
  refine take_ok (i := 3) (d := 28) (v := ?_) rfl rfl (by kernel_rfl) (by kernel_rfl) (by kernel_rfl) (fun _ _ _ h => h) (Or.inl ⟨by rfl, ?_⟩) (by assumption) ?_
  rotate_left
  · intro w9 hSw
    try dsimp only at hSw
    first | (go_simp; done) | (go_simp; with_reducible rfl)
  try simp only [Act.put, List.setIfInBounds_toArray, List.set_cons_zero, List.set_cons_succ]
  refine take_ok (i := 4) (d := 29) (v := ?_) rfl rfl (by kernel_rfl) (by kernel_rfl) (by kernel_rfl) (fun _ _ _ h => h) (Or.inl ⟨by rfl, ?_⟩) (by assumption) ?_
  rotate_left
  · intro w9 hSw
    try dsimp only at hSw
    first | (go_simp; done) | (go_simp; with_reducible rfl)
  try simp only [Act.put, List.setIfInBounds_toArray, List.set_cons_zero, List.set_cons_succ]
  refine take_ok (i := 5) (d := 30) (v := ?_) rfl rfl (by kernel_rfl) (by kernel_rfl) (by kernel_rfl) (fun _ _ _ h => h) (Or.inl ⟨by rfl, ?_⟩) (by assumption) ?_
  rotate_left
  · intro w9 hSw
    try dsimp only at hSw
    first | (go_simp; done) | (go_simp; with_reducible rfl)
  try simp only [Act.put, List.setIfInBounds_toArray, List.set_cons_zero, List.set_cons_succ]
  refine take_ok (i := 6) (d := 31) (v := ?_) rfl rfl (by kernel_rfl) (by kernel_rfl) (by kernel_rfl) (fun _ _ _ h => h) (Or.inl ⟨by rfl, ?_⟩) (by assumption) ?_
  rotate_left
  · intro w9 hSw
    try dsimp only at hSw
    first | (go_simp; done) | (go_simp; with_reducible rfl)
  try simp only [Act.put, List.setIfInBounds_toArray, List.set_cons_zero, List.set_cons_succ]
  refine take_ok (i := 7) (d := 32) (v := ?_) rfl rfl (by kernel_rfl) (by kernel_rfl) (by kernel_rfl) (fun _ _ _ h => h) (Or.inl ⟨by rfl, ?_⟩) (by assumption) ?_
  rotate_left
  · intro w9 hSw
    try dsimp only at hSw
    first | (go_simp; done) | (go_simp; with_reducible rfl)
  try simp only [Act.put, List.setIfInBounds_toArray, List.set_cons_zero, List.set_cons_succ]
  refine wpAnyH_ready (rs := [8]) (by kernel_rfl) (by simp) ?_
  refine AllReadyH.cons rfl (fun K hK => ?_) AllReadyH.nil
  go_simp
  refine (Go.Proofs.YtdjlgiinekighaaGreatDoor.T.of_ok rs r.t _ HOK.out HE.out HZ.out (HTT.out.below (Below.refl _ W3).drew)).mono ?_
  rintro e w4 ⟨v4, rfl, hr4, b4⟩
  have hb4 : Below W3.heap.size W3 w4 := bn (Below.refl _ W3).drew b4
  have hr4 : Go.Proofs.YtdjlgiinekighaaGreatDoor.T.WordsAt w4 W3.heap.size v4 (GvTok.words rs) := hr4
  rw [← HWO.out] at hr4
  obtain ⟨VA, VC, rfl, _⟩ := own_form hr4
  obtain ⟨kl, hkl⟩ := kyv_lit (r.o, r.s) HK.out
  have h4 := H3.out.below hb4
  obtain ⟨w5, hup, hpm5, ht5⟩ := h4.tm.add (v := .slice VA (wordsOf r.t).length VC) (Keyed.of_law keyLaw) Tryz.underlying69 (by rw [List.length_map]; have := HN.out.t; unfold maxLen; omega) hkl HNO.out
  obtain ⟨own5, ho5, hu5, hix5, htu5⟩ := put_text (x := ⟨r.o, r.s, .slice VA (wordsOf r.t).length VC, wordsOf r.t⟩) h4 hr4 HK.out (by simpa [tv, txo] using hpm5) ht5
  have xr4 := (X3.out.below hb4)
  have xr5 : Bx 35 w5 w.heap.size #[.int .i64 r.o, .int .i64 r.s, .int .i64 r.w, .int .i64 r.c, .string r.t] := (turned_block ht5 xr4.lt (h4.tm.not_cells xr4)).trans xr4
  have HUP := Lib.hid hup
  have HIX5 := Lib.hid hix5
  have HO5 := Lib.hid ho5
  have HU5 := Lib.hid hu5
  have HB4 := Lib.hid hb4
  have X5 := Lib.hid xr5
  have HTU5 := Lib.hid (HT3.out.join ((Turn.ofBelow hb4).join htu5 (fun i hi => (HO5.out i hi).imp id (fun h => h.1))) (fun i hi => .inl hi))
  have HS4 := Lib.hid (show w4.cell? ⟨p, 0, none⟩ = some (.map (some bt)) ∧ w4.cell? ⟨w.heap.size, 0, none⟩ = some (.int .i64 r.o) ∧ w4.cell? ⟨w.heap.size, 1, none⟩ = some (.int .i64 r.s) ∧ w4.cell? ⟨w.heap.size, 4, none⟩ = some (.string r.t) from ⟨h4.hd.cell 0, xr4.cell 0, xr4.cell 1, xr4.cell 4⟩)
  have HS5 := Lib.hid (show w5.cell? ⟨p, 0, none⟩ = some (.map (some bt)) ∧ w5.cell? ⟨w.heap.size, 0, none⟩ = some (.int .i64 r.o) ∧ w5.cell? ⟨w.heap.size, 1, none⟩ = some (.int .i64 r.s) ∧ w5.cell? ⟨w.heap.size, 4, none⟩ = some (.string r.t) from ⟨hix5.hd.cell 0, xr5.cell 0, xr5.cell 1, xr5.cell 4⟩)
  clear hup hix5 ho5 hu5 htu5 xr4 xr5 hpm5 ht5 hr4 b4 hb4 h4 hkl
  refine hK.out _ _ (HS4.out) (fun hHeld => ?_)
  clear hK K
  try simp only [Act.put, List.setIfInBounds_toArray, List.set_cons_zero, List.set_cons_succ]
  refine wpAnyH_ready (rs := [9]) (by kernel_rfl) (by simp) ?_
  refine AllReadyH.cons rfl (fun K hK => ?_) AllReadyH.nil
  refine step_mapUpdate_run rfl _ _ _ _ rfl _ _ _ w5 rfl rfl rfl HUP.out ?_
  refine hK.out _ _ (HS5.out) (fun hHeld => ?_)
  clear hK K
  try simp only [Act.put, List.setIfInBounds_toArray, List.set_cons_zero, List.set_cons_succ]
  refine wpAnyH_done (by kernel_rfl) ?_ _
  clear hHeld HSC HS4 HS5 HUP H3 X3 HTT HT3 HT1 HB1 HB2 HOK HE HZ HWO HB4
  have hxm : (⟨r.o, r.s, .slice VA (wordsOf r.t).length VC, wordsOf r.t⟩ : Tx) ∈ T ++ [⟨r.o, r.s, .slice VA (wordsOf r.t).length VC, wordsOf r.t⟩] := by simp
  have HXM := Lib.hid hxm
  have p0 := HIX5.out.hd.cell 0
  obtain ⟨q0, q1, q2, q3, q4⟩ := R.Bx.five X5.out
  simp only [List.getElem?_toArray, List.getElem?_cons_zero] at p0
  have hlt := X5.out.lt
  have hpl := HIX5.out.hd.lt
  have hlk : ∀ n, (Instr.lookup 69 (.map (some bt)) (.agg #[.int .i64 r.o, .int .i64 r.s]) false).run Tryz.prog (w5.drewN n) = .ok (.slice VA (wordsOf r.t).length VC) (w5.drewN n) := fun n => ((HIX5.out.below (Go.Proofs.YtdjlgiinekighaaGreatDoor.P.below_drewN (Below.refl _ _) n)).text_at HXM.out).2
  clear hxm
  have hwl := HWF.out.1
  generalize hts : wordsOf r.t = ts at *
  have HTS := Lib.hid hts
  clear hts
  go_wp2_with fail
  go_quiet (fail)
  obtain ⟨W6, hW6⟩ : ∃ W6, W6 = w5.drewN nq := ⟨_, rfl⟩
  have hb6 : Below w5.heap.size w5 W6 := by rw [hW6]; exact Go.Proofs.YtdjlgiinekighaaGreatDoor.P.below_drewN (Below.refl _ _) _
  rw [← hW6]
  have H6 := Lib.hid (HIX5.out.below hb6)
  have X6 := Lib.hid (X5.out.below hb6)
  have HT6 := Lib.hid (HTU5.out.trans (Turn.ofBelow hb6))
  clear hW6 hb6 hlk p0 q0 q1 q2 q3 q4 hlt hpl HIX5 X5 HTU5
  have HO6 : Hid (∀ i, own5 i → own i ∨ w.heap.size < i) := Lib.hid (fun i hi => by
    rcases HO5.out i hi with h | h
    · exact .inl h
    · exact .inr (by have := HW3.out; omega))
  go_wp2
  go_loopw [42] (fun v42 wr => ∃ (j : Nat) (L' : List Wn) (own' : Nat → Prop), j ≤ ts.length ∧ v42 = .int .i64 (j : Int) ∧ Hid (IxL wr p bt bl (T ++ [⟨r.o, r.s, .slice VA ts.length VC, ts⟩]) L' own') ∧ Hid (Tells L' (putF (T.map txs) (r.o, r.s) ts j)) ∧ Hid (Full L') ∧ Hid (Few (n + 1 + j) (T ++ [⟨r.o, r.s, .slice VA ts.length VC, ts⟩]) L') ∧ Hid (Turn own w wr) ∧ Hid (∀ i, own' i → own i ∨ w.heap.size < i) ∧ Hid (∀ i, own i → own' i) ∧ Hid (Bx 35 wr w.heap.size #[.int .i64 r.o, .int .i64 r.s, .int .i64 r.w, .int .i64 r.c, .string r.t])) (fun v42 _ => ts.length - (RowKit.intOf v42).toNat)
  case atStart => exact ⟨0, L, own5, by omega, rfl, H6, Lib.hid (by rw [putF_zero _ _ _ HNS.out]; exact HTE.out), HFU, Lib.hid (put_few HN.out), HT6, HO6, HU5, X6⟩
  case round =>
    obtain ⟨j, L', own', hj, rfl, HI, HTE', HFU', HN', HTU', HO', HU', HX'⟩ := hrel
    by_cases hp : j < ts.length
    · obtain ⟨g, C, e, c1, c2⟩ := words_at (HI.out.tr _ HXM.out) hp
      simp only [Value.slice.injEq, true_and] at e
      obtain ⟨rfl, rfl⟩ := e
      have hgl := World.block_lt_of_cell? _ _ c1
      have HNX := Lib.hid (putF_next (T.map txs) (r.o, r.s) ts j HNS.out hp)
      have HTL := Lib.hid (HWF.out.2 _ (List.getElem_mem hp))
      have HP := Lib.hid hp
      generalize ts[j] = tj at c1 HNX HTL
      obtain ⟨w1, hw1⟩ : ∃ w1, w1 = wr.alloc (.cells #[.string ⟨tj.toArray⟩, .int .i64 (j : Int)] 52) := ⟨_, rfl⟩
      have hal : Below wr.heap.size wr w1 := by rw [hw1]; exact alloc_below _ _
      have bx : Bx 52 w1 wr.heap.size #[.string ⟨tj.toArray⟩, .int .i64 (j : Int)] := by rw [hw1]; exact Bx.new _ wr _
      have xr := HX'.out.below hal
      have CST := Lib.hid (stand_c p bt bl (n + 1 + j) _ L' own' _ tj (j : Int) r.o r.s w1 (HI.out.below hal) HTE'.out HFU'.out HN'.out (by omega) HK.out HTL.out)
      have b0 := bx.cell 0
      have b1 := bx.cell 1
      have x0 := xr.cell 0
      have x1 := xr.cell 1
      simp only [List.getElem?_toArray, List.getElem?_cons_succ, List.getElem?_cons_zero] at b0 b1 x0 x1
      have bl1 := bx.lt
      have xl1 := xr.lt
      have hwl1 : wr.heap.size < w1.heap.size := bx.lt
      have XR := Lib.hid xr
      have HT1 := Lib.hid (HTU'.out.trans (Turn.ofBelow hal))
      have HXW : Hid (w.heap.size < wr.heap.size) := Lib.hid HX'.out.lt
      have hxw := HX'.out.lt
      have y0 := HX'.out.cell 0
      have y1 := HX'.out.cell 1
      simp only [List.getElem?_toArray, List.getElem?_cons_succ, List.getElem?_cons_zero] at y0 y1
      clear bx xr hal
      go_wp2_with fail
      rw [← hw1]
      clear hw1
      go_wp2_with (go_at_call 34; refine CST.out.mono ?_; rintro e w2 ⟨rfl, L2, own2, h2, t2, f2, n2, u2, o2, s2⟩; have H2 := Lib.hid h2; have T2 := Lib.hid t2; have F2 := Lib.hid f2; have N2 := Lib.hid n2; have U2 := Lib.hid u2; have O2 := Lib.hid o2; have S2 := Lib.hid s2; clear h2 t2 f2 n2 u2 o2 s2)
      clear c1 c2 hgl b0 b1 x0 x1 y0 y1
      have hnx : ¬ own' w.heap.size := fun h => by
        rcases HO'.out _ h with h | h
        · have := HUP.out _ h; omega
        · omega
      have X2 := Lib.hid ((U2.out.block _ XR.out.lt hnx).trans XR.out)
      go_roundw
      case rel => exact ⟨j + 1, L2, own2, HP.out, by go_num, H2, Lib.hid (by rw [← HNX.out]; exact T2.out), F2, N2, Lib.hid (HT1.out.join (U2.out) (fun i hi => (HO'.out i hi).imp id (fun h => Nat.le_of_lt h))), Lib.hid (fun i hi => (O2.out i hi).elim (HO'.out i) (fun h => .inr (by have := HXW.out; omega))), Lib.hid (fun i hi => S2.out i (HU'.out i hi)), X2⟩
      case measure => have := HP.out; simp [RowKit.intOf]; omega
    · have hjl : j = ts.length := by omega
      go_wp2
      go_ret
      subst hjl
      refine ⟨rfl, own', ⟨bt, bl, _, L', HI.out, by simp [txs, txo, HTS.out], ?_, HFU'.out, ?_⟩, HTU'.out, fun i hi => (HO'.out i hi).imp id (fun h => Nat.le_of_lt h), HU'.out⟩
      · have := HTE'.out
        rwa [putF_all, ← HTS.out] at this
      · have h := HN'.out
        exact ⟨by have := h.t; omega, by have := h.l; omega, fun y hy => by have := h.e y hy; omega, fun y hy e he => by have := h.s y hy e he; omega⟩
end Go.Proofs.YtdjlgiinekighaaGreatDoor
/-
  Drop of package index, by contract.
-/
namespace Go.Proofs.YtdjlgiinekighaaGreatDoor
open Go.RowKit Go.Lib Go.Sort Go.Shelf Go.Maps Go.Proofs.YtdjlgiinekighaaGreatDoor.P Go.Proofs
set_option maxRecDepth 100000
set_option linter.unusedSimpArgs false

def dropS (S : Sx) (k : Ky) : Sx := S.filter fun x => decide (x.1 ≠ k)
def dropSs (S : Sx) (ks : List Ky) : Sx := ks.foldl dropS S
theorem dropS_no {S : Sx} {k : Ky} (h : k ∉ S.map Prod.fst) : dropS S k = S := by
  refine List.filter_eq_self.2 fun x hx => ?_
  simp only [decide_eq_true_eq]
  exact fun e => h (e ▸ List.mem_map_of_mem hx)
theorem dropS_mid {A B : Sx} {k : Ky} {ts : List Bs} (hA : k ∉ A.map Prod.fst) (hB : k ∉ B.map Prod.fst) : dropS (A ++ (k, ts) :: B) k = A ++ B := by
  have h1 := dropS_no hA
  have h2 := dropS_no hB
  unfold dropS at h1 h2 ⊢
  rw [List.filter_append, List.filter_cons, h1, h2]
  simp
theorem posN_ne (ts : List Bs) (i : Nat) (t : Bs) (h : t ∈ ts) : posN i ts t ≠ [] := by
  induction ts generalizing i with
  | nil => cases h
  | cons b r ih =>
    unfold posN
    by_cases hb : b = t
    · rw [if_pos hb]; simp
    · rw [if_neg hb]
      exact ih (i + 1) ((List.mem_cons.1 h).resolve_left (fun e => hb e.symm))
/-- A Key's words, and what Drop makes of them. -/
theorem IxL.text_any {w : World} {p bt bl : Nat} {T : List Tx} {L : List Wn} {own : Nat → Prop} (h : IxL w p bt bl T L own) (hte : Tells L (posS (T.map txs))) {k : Ky} (hk : okKy k) :
    ∃ v ts T', (∀ W L', IxL W p bt bl T L' own → Go.Proofs.YtdjlgiinekighaaGreatDoor.T.WordsAt W 0 v ts) ∧ (∀ W, Below w.heap.size w W → (Instr.lookup 69 (.map (some bt)) (kyv k) false).run Tryz.prog W = .ok v W) ∧ (∀ t ∈ ts, t.length ≤ 1000) ∧ T'.Sublist T ∧ T'.map txs = dropS (T.map txs) k ∧ dropF (T.map txs) k ts ts.length = posS (dropS (T.map txs) k) ∧
      ∀ W L' ty, IxL W p bt bl T L' own → ∃ w', (Builtin.delete_ #[69, 31] ty #[.map (some bt), kyv k]).run Tryz.prog W = .ok (.tuple #[]) w' ∧ IxL w' p bt bl T' L' own ∧ W.mapTurned w' bt := by
  obtain ⟨l, hl⟩ := kyv_lit k hk
  by_cases hin : k ∈ T.map txo
  · obtain ⟨x, hx, hxk⟩ := List.mem_map.1 hin
    obtain ⟨A, B, hT⟩ := List.append_of_mem hx
    have hnd := h.tks
    have hmid : k ∉ (A.map txs).map Prod.fst ∧ k ∉ (B.map txs).map Prod.fst := by
      rw [hT, List.map_append, List.map_cons, List.nodup_append, List.nodup_cons] at hnd
      obtain ⟨_, ⟨h2, _⟩, h4⟩ := hnd
      rw [txs_fst, txs_fst]
      exact ⟨fun hm => h4 _ hm _ (List.mem_cons_self ..) hxk.symm, fun hm => h2 (hxk ▸ hm)⟩
    have hSx : T.map txs = A.map txs ++ (k, x.ts) :: B.map txs := by rw [hT, ← hxk]; simp [txs]
    refine ⟨x.v, x.ts, A ++ B, fun W L' hW => hW.tr x hx, fun W hW => hxk ▸ ((h.below hW).text_at hx).2, fun t ht => ?_, hT ▸ sub_mid, ?_, ?_, fun W L' ty hW => ?_⟩
    · have hp : posS (T.map txs) k t ≠ [] := by
        rw [hSx, posS_mid _ _ _ _ _ _ hmid.1 hmid.2, if_pos rfl]
        exact posN_ne _ _ _ ht
      obtain ⟨y, hy, e, _⟩ := hte.al k t hp
      exact e ▸ h.lt y hy
    · rw [hSx, dropS_mid hmid.1 hmid.2, List.map_append]
    · rw [hSx, dropS_mid hmid.1 hmid.2, dropF_all _ _ _ _ hmid.1 hmid.2]
    · have hpm : PM Tryz.prog W 31 bt (A.map tv ++ (kyv k, x.v) :: B.map tv) := by
        have := hW.tm
        rw [hT] at this
        simpa [tv, ← hxk, txo] using this
      obtain ⟨w', hr, hp', ht'⟩ := hpm.del (Keyed.of_law keyLaw) Tryz.underlying69 hl ty
      rw [← List.map_append] at hp'
      exact ⟨w', hr, hW.texts (fun i hi => hi) hW.up hp' ht' (fun y hy => have hy : y ∈ T := hT ▸ sub_mid.subset hy; ⟨hW.tr y hy, hW.tw y hy, hW.tk y hy⟩), ht'⟩
  · have hin2 : k ∉ (T.map txs).map Prod.fst := by rw [txs_fst]; exact hin
    refine ⟨.slice none 0 0, [], T, fun W L' _ => World.ownsRow_nil _ _ _ _, fun W hW => ((h.below hW).text_no hk hin).2, fun t ht => (by cases ht), List.Sublist.refl _, (dropS_no hin2).symm, ?_, fun W L' ty hW => ?_⟩
    · rw [dropS_no hin2]
      exact dropF_zero _ _ _
    · obtain ⟨w', hr, hp', ht'⟩ := hW.tm.del_no (Keyed.of_law keyLaw) Tryz.underlying69 hl (by
        rw [tv_fst]
        intro h2
        obtain ⟨x, hx, e⟩ := List.mem_map.1 h2
        exact hin (kyv_inj e ▸ hx)) ty
      exact ⟨w', hr, hW.texts (fun i hi => hi) hW.up hp' ht' (fun y hy => ⟨hW.tr y hy, hW.tw y hy, hW.tk y hy⟩), ht'⟩
theorem few_sub_t {n : Nat} {T T' : List Tx} {L : List Wn} (h : Few n T L) (hs : T'.Sublist T) : Few n T' L := ⟨Nat.le_trans hs.length_le h.t, h.l, h.e, h.s⟩
theorem dropSs_next (S : Sx) (ks : List Ky) (i : Nat) (h : i < ks.length) : dropSs S (ks.take (i + 1)) = dropS (dropSs S (ks.take i)) ks[i] := by
  unfold dropSs
  rw [List.take_succ_eq_append_getElem h, List.foldl_append]
  rfl
set_option maxHeartbeats 16000000 in
theorem drop_c (p n : Nat) (S : Sx) (own : Nat → Prop) (v : Value) (kl : List Ky) (w : World) (h : Ix w p S n own) (hkr : ∀ W, Turn own w W → KRd W v kl) (hok : ∀ k ∈ kl, okKy k) (hkn : kl.length ≤ 100000) (hn : n ≤ 1000000) :
    Calls Tryz.prog 12 #[.pointer (some ⟨p, 0, none⟩), v] w fun e w' => e = .returned (.int .i64 ((S.length : Int) - ((dropSs S kl).length : Int))) ∧ Ix w' p (dropSs S kl) n own ∧ Turn own w w' := by
  have mixed : Tryz.prog.follows .mixedOrders = true := by kernel_rfl
  obtain ⟨bt, bl, T, L, hx, hS, hte, hfu, hfe⟩ := h
  obtain ⟨ad, cap, rfl, _, _⟩ := id (hkr w (Turn.refl _ _))
  have p0 := hx.hd.cell 0
  simp only [List.getElem?_toArray, List.getElem?_cons_zero] at p0
  have hpl := hx.hd.lt
  have hlen := fun ty => hx.tm.len Tryz.underlying69 ty
  have hSl : (T.map tv).length = S.length := by rw [← hS, List.length_map, List.length_map]
  rw [hSl] at hlen
  have hSn : S.length ≤ n := by rw [← hS, List.length_map]; exact hfe.t
  have H := Lib.hid hx
  have HS := Lib.hid hS
  have HTE := Lib.hid hte
  have HFU := Lib.hid hfu
  have HN := Lib.hid hfe
  have HKR := Lib.hid hkr
  have HOK := Lib.hid hok
  clear hx hS hte hfu hfe hkr hok hSl
  go_enter Tryz.func12, Tryz.ntmps12
  go_wp2_with fail
  clear p0 hpl hlen
  go_loopw [19] (fun v19 wr => ∃ (i : Nat) (T1 : List Tx) (L1 : List Wn), i ≤ kl.length ∧ v19 = .int .i64 (i : Int) ∧ Hid (IxL wr p bt bl T1 L1 own) ∧ Hid (T1.map txs = dropSs S (kl.take i)) ∧ Hid (Tells L1 (posS (T1.map txs))) ∧ Hid (Full L1) ∧ Hid (Few n T1 L1) ∧ Hid (Turn own w wr)) (fun v19 _ => kl.length - (RowKit.intOf v19).toNat)
  case atStart => exact ⟨0, T, L, by omega, rfl, H, Lib.hid (by rw [HS.out]; rfl), Lib.hid (by rw [HS.out]; exact HTE.out), HFU, HN, Lib.hid (Turn.refl _ _)⟩
  case round =>
    obtain ⟨i, T1, L1, hi, rfl, H1, HS1, HTE1, HFU1, HN1, HTU1⟩ := hrel
    clear H HS HTE HFU HN
    by_cases hp : i < kl.length
    · obtain ⟨ad', cap', e, _, ck⟩ := HKR.out wr HTU1.out
      simp only [Value.slice.injEq, true_and] at e
      obtain ⟨rfl, rfl⟩ := e
      obtain ⟨g, o, rfl, dk⟩ := ck (by omega)
      have a1 := dk i hp
      have HNX := Lib.hid (dropSs_next S kl i hp)
      have HKY := Lib.hid (HOK.out _ (List.getElem_mem hp))
      have HP := Lib.hid hp
      generalize kl[i] = k at a1 HNX HKY
      obtain ⟨ko, ks⟩ := k
      obtain ⟨q0, q1⟩ := a1
      simp only at q0 q1
      have hgl := World.block_lt_of_cell? _ _ q0
      obtain ⟨kb, hkb⟩ : ∃ kb, kb = wr.heap.size := ⟨_, rfl⟩
      obtain ⟨w1, hw1⟩ : ∃ w1, w1 = wr.alloc (.cells #[.int .i64 ko, .int .i64 ks] 31) := ⟨_, rfl⟩
      have hal : Below wr.heap.size wr w1 := by rw [hw1]; exact alloc_below _ _
      have bx : Bx 31 w1 kb #[.int .i64 ko, .int .i64 ks] := by rw [hw1, hkb]; exact Bx.new _ wr _
      have hno : ¬ own kb := fun h => by have := H1.out.up _ h; omega
      have h1 := H1.out.below hal
      obtain ⟨v, ts, T2, hwd, hlk, htl, hsub, hT2, hdf, hdel⟩ := h1.text_any HTE1.out HKY.out
      obtain ⟨VA, VC, rfl, _⟩ := own_form (hwd _ _ h1)
      have hts : ts.length ≤ maxLen := by
        rcases (hwd _ _ h1).2 with ⟨_, h0⟩ | ⟨_, cap, _, _, _, _, hn, hm, _⟩
        · omega
        · omega
      unfold maxLen at hts
      have p0 := h1.hd.cell 0
      have b0 := bx.cell 0
      have b1 := bx.cell 1
      simp only [List.getElem?_toArray, List.getElem?_cons_succ, List.getElem?_cons_zero] at p0 b0 b1
      have hl0 := h1.hd.lt
      have hl1 := bx.lt
      have hlk2 : ∀ n, (Instr.lookup 69 (.map (some bt)) (.agg #[.int .i64 ko, .int .i64 ks]) false).run Tryz.prog (w1.drewN n) = .ok (.slice VA ts.length VC) (w1.drewN n) := fun n => hlk _ (Go.Proofs.YtdjlgiinekighaaGreatDoor.P.below_drewN (Below.refl _ _) n)
      have H1b := Lib.hid h1
      have BX := Lib.hid bx
      have HNO := Lib.hid hno
      have HWD := Lib.hid hwd
      have HTL := Lib.hid htl
      have HSB := Lib.hid hsub
      have HT2 := Lib.hid hT2
      have HDF := Lib.hid hdf
      have HDE := Lib.hid hdel
      have HT1 := Lib.hid (HTU1.out.trans (Turn.ofBelow hal))
      clear hal bx hno h1 hwd hlk htl hsub hT2 hdf hdel ck dk H1 HTU1
      go_wp2_with fail
      rw [← hw1, ← hkb]
      clear hw1 hkb q0 q1 hgl
      go_quiet (fail)
      obtain ⟨W2, hW2⟩ : ∃ W2, W2 = w1.drewN nq := ⟨_, rfl⟩
      have hb2 : Below w1.heap.size w1 W2 := by rw [hW2]; exact Go.Proofs.YtdjlgiinekighaaGreatDoor.P.below_drewN (Below.refl _ _) _
      rw [← hW2]
      have H2 := Lib.hid (H1b.out.below hb2)
      have BX2 := Lib.hid (BX.out.below hb2)
      have HT2b := Lib.hid (HT1.out.trans (Turn.ofBelow hb2))
      clear hW2 hb2 hlk2 p0 b0 b1 hl0 hl1 H1b BX HT1
      go_wp2_with fail
      go_loopw [30] (fun v30 wq => ∃ (j : Nat) (L2 : List Wn), j ≤ ts.length ∧ v30 = .int .i64 (j : Int) ∧ Hid (IxL wq p bt bl T1 L2 own) ∧ Hid (Tells L2 (dropF (T1.map txs) (ko, ks) ts j)) ∧ Hid (Full L2) ∧ Hid (Few n T1 L2) ∧ Hid (Turn own w wq) ∧ Hid (Bx 31 wq kb #[.int .i64 ko, .int .i64 ks])) (fun v30 _ => ts.length - (RowKit.intOf v30).toNat)
      case atStart => exact ⟨0, L1, by omega, rfl, H2, Lib.hid (by rw [dropF_zero]; exact HTE1.out), HFU1, HN1, HT2b, BX2⟩
      case round =>
        obtain ⟨j, L2, hj, rfl, H3, HTE3, HFU3, HN3, HTU3, BX3⟩ := hrel
        clear H2 BX2 HT2b HTE1 HFU1 HN1
        by_cases hq : j < ts.length
        · obtain ⟨gw, C, e, c1, c2⟩ := words_at (HWD.out _ _ H3.out) hq
          simp only [Value.slice.injEq, true_and] at e
          obtain ⟨rfl, rfl⟩ := e
          have hgl := World.block_lt_of_cell? _ _ c1
          have HNY := Lib.hid (dropF_next (T1.map txs) (ko, ks) ts j hq)
          have HTJ := Lib.hid (HTL.out _ (List.getElem_mem hq))
          have HQ := Lib.hid hq
          generalize ts[j] = tj at c1 HNY HTJ
          obtain ⟨w3, hw3⟩ : ∃ w3, w3 = wr.alloc (.cells #[.string ⟨tj.toArray⟩, .int .i64 (j : Int)] 52) := ⟨_, rfl⟩
          have hal : Below wr.heap.size wr w3 := by rw [hw3]; exact alloc_below _ _
          have CLV := Lib.hid (leave_c p bt bl n _ L2 own _ tj (j : Int) ko ks w3 (H3.out.below hal) HTE3.out HFU3.out HN3.out HKY.out HTJ.out)
          have XR := Lib.hid (BX3.out.below hal)
          have HT1 := Lib.hid (HTU3.out.trans (Turn.ofBelow hal))
          have hxw := BX3.out.lt
          have y0 := BX3.out.cell 0
          have y1 := BX3.out.cell 1
          simp only [List.getElem?_toArray, List.getElem?_cons_succ, List.getElem?_cons_zero] at y0 y1
          clear hal
          go_wp2_with fail
          rw [← hw3]
          clear hw3
          go_wp2_with (go_at_call 32; refine CLV.out.mono ?_; rintro e w4 ⟨rfl, L4, h4, t4, f4, n4, u4⟩; have H4 := Lib.hid h4; have T4 := Lib.hid t4; have F4 := Lib.hid f4; have N4 := Lib.hid n4; have U4 := Lib.hid u4; clear h4 t4 f4 n4 u4)
          clear c1 c2 hgl y0 y1
          have X4 := Lib.hid ((U4.out.block _ XR.out.lt HNO.out).trans XR.out)
          go_roundw
          case rel => exact ⟨j + 1, L4, HQ.out, by go_num, H4, Lib.hid (by rw [← HNY.out]; exact T4.out), F4, N4, Lib.hid (HT1.out.trans U4.out), X4⟩
          case measure => have := HQ.out; simp [RowKit.intOf]; omega
        · have hjl : j = ts.length := by omega
          subst hjl
          obtain ⟨w9, hd9, h9, t9⟩ := HDE.out wr.drew L2 0 (H3.out.below (Below.refl _ _).drew)
          have BX9 : Hid (Bx 31 w9 kb #[.int .i64 ko, .int .i64 ks]) := Lib.hid ((turned_block t9 BX3.out.lt (H3.out.tm.not_cells BX3.out)).trans BX3.out)
          have HD9 := Lib.hid hd9
          have H9 := Lib.hid h9
          have HT9 : Hid (Turn own w w9) := Lib.hid ((HTU3.out.trans (Turn.ofBelow (Below.refl _ wr).drew)).trans (Turn.ofTurned t9 h9.ot))
          have HS9 := Lib.hid (show w9.cell? ⟨p, 0, none⟩ = some (.map (some bt)) ∧ w9.cell? ⟨kb, 0, none⟩ = some (.int .i64 ko) ∧ w9.cell? ⟨kb, 1, none⟩ = some (.int .i64 ks) from ⟨h9.hd.cell 0, BX9.out.cell 0, BX9.out.cell 1⟩)
          have HSC : Hid (∀ W, Below wr.heap.size wr W → W.cell? ⟨p, 0, none⟩ = some (.map (some bt)) ∧ W.cell? ⟨kb, 0, none⟩ = some (.int .i64 ko) ∧ W.cell? ⟨kb, 1, none⟩ = some (.int .i64 ks)) := Lib.hid (fun W hW => ⟨(H3.out.hd.below hW).cell 0, (BX3.out.below hW).cell 0, (BX3.out.below hW).cell 1⟩)
          clear hd9 h9 t9
          go_wp2_with fail
          refine wp_region_held_drew (S := fun W => W.cell? ⟨p, 0, none⟩ = some (.map (some bt)) ∧ W.cell? ⟨kb, 0, none⟩ = some (.int .i64 ko) ∧ W.cell? ⟨kb, 1, none⟩ = some (.int .i64 ks)) (by kernel_rfl) (HSC.out _ (Below.refl _ _).drew) (fun hHeld => ?_)
          refine take_ok (i := 0) (d := 39) (v := ?_) rfl rfl (by kernel_rfl) (by kernel_rfl) (by kernel_rfl) (fun _ _ _ h => h) (Or.inl ⟨by rfl, ?_⟩) (by assumption) ?_
          rotate_left
          · intro w9 hSw
            try dsimp only at hSw
            first | (go_simp; done) | (go_simp; with_reducible rfl)
          try simp only [Act.put, List.setIfInBounds_toArray, List.set_cons_zero, List.set_cons_succ]
          refine take_ok (i := 1) (d := 40) (v := ?_) rfl rfl (by kernel_rfl) (by kernel_rfl) (by kernel_rfl) (fun _ _ _ h => h) (Or.inl ⟨by rfl, ?_⟩) (by assumption) ?_
          rotate_left
          · intro w9 hSw
            try dsimp only at hSw
            first | (go_simp; done) | (go_simp; with_reducible rfl)
          try simp only [Act.put, List.setIfInBounds_toArray, List.set_cons_zero, List.set_cons_succ]
          refine take_ok (i := 2) (d := 41) (v := ?_) rfl rfl (by kernel_rfl) (by kernel_rfl) (by kernel_rfl) (fun _ _ _ h => h) (Or.inl ⟨by rfl, ?_⟩) (by assumption) ?_
          rotate_left
          · intro w9 hSw
            try dsimp only at hSw
            first | (go_simp; done) | (go_simp; with_reducible rfl)
          try simp only [Act.put, List.setIfInBounds_toArray, List.set_cons_zero, List.set_cons_succ]
          refine take_ok (i := 3) (d := 42) (v := ?_) rfl rfl (by kernel_rfl) (by kernel_rfl) (by kernel_rfl) (fun _ _ _ h => h) (Or.inl ⟨by rfl, ?_⟩) (by assumption) ?_
          rotate_left
          · intro w9 hSw
            try dsimp only at hSw
            first | (go_simp; done) | (go_simp; with_reducible rfl)
          try simp only [Act.put, List.setIfInBounds_toArray, List.set_cons_zero, List.set_cons_succ]
          refine take_ok (i := 4) (d := 43) (v := ?_) rfl rfl (by kernel_rfl) (by kernel_rfl) (by kernel_rfl) (fun _ _ _ h => h) (Or.inl ⟨by rfl, ?_⟩) (by assumption) ?_
          rotate_left
          · intro w9 hSw
            try dsimp only at hSw
            first | (go_simp; done) | (go_simp; with_reducible rfl)
          try simp only [Act.put, List.setIfInBounds_toArray, List.set_cons_zero, List.set_cons_succ]
          refine wpAnyH_ready (rs := [5]) (by kernel_rfl) (by simp) ?_
          refine AllReadyH.cons rfl (fun K hK => ?_) AllReadyH.nil
          refine step_delete_run rfl _ _ _ _ rfl _ _ w9 rfl rfl HD9.out ?_
          refine hK.out _ _ (HS9.out) (fun hHeld => ?_)
          clear hK K
          try simp only [Act.put, List.setIfInBounds_toArray, List.set_cons_zero, List.set_cons_succ]
          refine wpAnyH_done (by kernel_rfl) ?_ _
          clear hHeld HSC HD9 HS9
          go_wp2_with fail
          go_roundw
          case rel => exact ⟨i + 1, T2, L2, HP.out, by go_num, H9, Lib.hid (by rw [HNX.out, ← HS1.out]; exact HT2.out), Lib.hid (by rw [HT2.out, ← HDF.out]; exact HTE3.out), HFU3, Lib.hid (few_sub_t HN3.out HSB.out), HT9⟩
          case measure => have := HP.out; simp [RowKit.intOf]; omega
    · have hil : i = kl.length := by omega
      subst hil
      have hSS : T1.map txs = dropSs S kl := by have := HS1.out; rwa [List.take_length] at this
      have p0 := H1.out.hd.cell 0
      simp only [List.getElem?_toArray, List.getElem?_cons_zero] at p0
      have hl0 := H1.out.hd.lt
      have hlen := fun ty => H1.out.tm.len Tryz.underlying69 ty
      have hSl : (T1.map tv).length = (dropSs S kl).length := by rw [← hSS, List.length_map, List.length_map]
      rw [hSl] at hlen
      have hSn2 : (dropSs S kl).length ≤ n := by rw [← hSS, List.length_map]; exact HN1.out.t
      have HRES : Hid (Ix wr p (dropSs S kl) n own) := Lib.hid ⟨bt, bl, T1, L1, H1.out, hSS, hSS ▸ HTE1.out, HFU1.out, HN1.out⟩
      have HTU := HTU1
      clear hSS hSl
      go_wp2_with fail
      go_ret
      exact ⟨by first | rfl | simp, HRES.out, HTU.out⟩
end Go.Proofs.YtdjlgiinekighaaGreatDoor
/-
  Word, Keys of package index, by contract.
-/
namespace Go.Proofs.YtdjlgiinekighaaGreatDoor
open Go.RowKit Go.Lib Go.Sort Go.Shelf Go.Maps Go.Proofs.YtdjlgiinekighaaGreatDoor.P Go.Proofs
set_option maxRecDepth 100000
set_option linter.unusedSimpArgs false

theorem posN_up : ∀ (ts : List Bs) (i : Nat) (t : Bs), (posN i ts t).Pairwise (· < ·) ∧ ∀ x ∈ posN i ts t, (i : Int) ≤ x ∧ x < ((i + ts.length : Nat) : Int)
  | [], i, t => ⟨List.Pairwise.nil, fun x hx => (by cases hx)⟩
  | a :: r, i, t => by
    obtain ⟨h1, h2⟩ := posN_up r (i + 1) t
    simp only [posN, List.length_cons]
    split
    · refine ⟨List.pairwise_cons.2 ⟨fun x hx => by have := (h2 x hx).1; omega, h1⟩, fun x hx => ?_⟩
      rcases List.mem_cons.1 hx with rfl | hx
      · omega
      · have := h2 x hx; omega
    · exact ⟨h1, fun x hx => by have := h2 x hx; omega⟩
theorem posS_up (S : Sx) (k : Ky) (t : Bs) : (posS S k t).Pairwise (· < ·) := by
  induction S with
  | nil => exact List.Pairwise.nil
  | cons x r ih =>
    unfold posS
    split
    · exact (posN_up _ _ _).1
    · exact ih
theorem srtI_up {l : List Int} (h : l.Pairwise (· < ·)) : srtI l = l := by
  unfold srtI
  refine List.mergeSort_of_pairwise (h.imp fun {a b} hab => ?_)
  simp only [decide_eq_true_eq]
  omega
/-- The list of a word. -/
def lstS (S : Sx) (t : Bs) : List Po := (srtK ((S.map Prod.fst).filter fun k => decide (posS S k t ≠ []))).map fun k => (⟨k, posS S k t⟩ : Po)
theorem posS_in {S : Sx} {k : Ky} {t : Bs} (h : posS S k t ≠ []) : k ∈ S.map Prod.fst := Classical.byContradiction fun hn => h (posS_no S k t hn)
theorem lstP_tells {L : List Wn} {S : Sx} {x : Wn} (h : Tells L (posS S)) (hS : (S.map Prod.fst).Nodup) (hw : (L.map Wn.t).Nodup) (hx : x ∈ L) (hk : (x.es.map kyo).Nodup) : lstP x.es = lstS S x.t := by
  unfold lstP lstS
  have hp : (x.es.map kyo).Perm ((S.map Prod.fst).filter fun k => decide (posS S k x.t ≠ [])) := by
    refine (List.perm_ext_iff_of_nodup hk (hS.filter _)).2 fun k => ?_
    rw [List.mem_filter, decide_eq_true_eq]
    constructor
    · intro hm
      obtain ⟨e, he, rfl⟩ := List.mem_map.1 hm
      obtain ⟨h1, h2⟩ := h.ns x hx e he
      rw [h1] at h2
      exact ⟨posS_in h2, h2⟩
    · rintro ⟨_, h2⟩
      obtain ⟨y, hy, e, z, hz, ez⟩ := h.al k x.t h2
      have : y = x := by
        obtain ⟨pre, post, rfl⟩ := List.append_of_mem hx
        rcases mem_mid.1 hy with hy | hy
        · exact hy
        · exact absurd e (words_mid hw y hy)
      subst this
      exact ez ▸ List.mem_map_of_mem hz
  rw [srtK_perm_eq hp (hS.filter _)]
  refine List.map_congr_left fun k hkm => ?_
  have hkm2 := hp.mem_iff.2 ((srtK_perm _).mem_iff.1 hkm)
  obtain ⟨e, he, rfl⟩ := List.mem_map.1 hkm2
  have h1 := nsAt_mem hk he
  have h2 := (h.ns x hx e he).1
  have h3 : nsAt x.es (kyo e) = posS S (kyo e) x.t := h1.trans h2
  rw [h3, srtI_up (posS_up _ _ _)]
theorem lstS_no {L : List Wn} {S : Sx} {t : Bs} (h : Tells L (posS S)) (hn : t ∉ L.map Wn.t) : lstS S t = [] := by
  have : ((S.map Prod.fst).filter fun k => decide (posS S k t ≠ [])) = [] := by
    refine List.filter_eq_nil_iff.2 fun k _ hd => ?_
    rw [decide_eq_true_eq] at hd
    obtain ⟨y, hy, e, _⟩ := h.al k t hd
    exact hn (List.mem_map.2 ⟨y, hy, e⟩)
  unfold lstS
  rw [this]
  simp [srtK]
theorem Ix.nd {w : World} {p : Nat} {S : Sx} {n : Nat} {own : Nat → Prop} (h : Ix w p S n own) : (S.map Prod.fst).Nodup := by
  obtain ⟨bt, bl, T, L, h1, rfl, _⟩ := h
  rw [txs_fst]
  exact h1.tks
set_option maxHeartbeats 2000000 in
theorem word_c (p n : Nat) (S : Sx) (own : Nat → Prop) (t : Bs) (w : World) (h : Ix w p S n own) (ht : t.length ≤ 1000) (hn : n ≤ 100000) :
    Calls Tryz.prog 15 #[.pointer (some ⟨p, 0, none⟩), .string ⟨t.toArray⟩] w fun e w' => ∃ v qs, e = .returned v ∧ POwn w' w.heap.size v qs ∧ ps qs = lstS S t ∧ Below w.heap.size w w' := by
  have hnd := h.nd
  obtain ⟨bt, bl, T, L, hx, rfl, hte, hfu, hfe⟩ := h
  obtain ⟨mv, c, hfo⟩ := found_any L t
  have hlk := (hx.find hfo ht).2
  have hq : ∃ es : List Pv, MV w 31 mv (es.map kv) ∧ (∀ x ∈ es, Row w 0 x.a x.ns) ∧ (∀ x ∈ es, x.ns.length ≤ 100000) ∧ (∀ x ∈ es, okKy (x.o, x.s)) ∧ es.length ≤ 100000 ∧ lstP es = lstS (T.map txs) t := by
    rcases hfo with ⟨_, pre, post, b, es, rfl, rfl⟩ | ⟨_, rfl, hno⟩
    · have hm0 : (⟨t, b, es⟩ : Wn) ∈ pre ++ ⟨t, b, es⟩ :: post := mem_mid.2 (.inl rfl)
      exact ⟨es, .inr ⟨b, rfl, hx.lp _ hm0⟩, hx.lr _ hm0, fun x hxm => Nat.le_trans (hfe.s _ hm0 x hxm) hn, hx.lk _ hm0, Nat.le_trans (hfe.e _ hm0) hn, lstP_tells hte hnd hx.ws hm0 (hx.ks hm0)⟩
    · refine ⟨[], .inl ⟨rfl, rfl⟩, fun x hx => (by cases hx), fun x hx => (by cases hx), fun x hx => (by cases hx), by simp, ?_⟩
      rw [lstS_no hte hno]
      simp [lstP, srtK]
  obtain ⟨es, hv, hr, hl, ho, hlen, hls⟩ := hq
  have CL := Lib.hid (list_c mv es w hv (fun x hx => (hr x hx).nl) hl ho hlen)
  have p1 := hx.hd.cell 1
  simp only [List.getElem?_toArray, List.getElem?_cons_succ, List.getElem?_cons_zero] at p1
  have hpl := hx.hd.lt
  have HLS := Lib.hid hls
  clear hx hte hfu hfe hfo hv hr hl ho hlen hls hnd
  go_enter Tryz.func15, Tryz.ntmps15
  go_wp2_with (go_at_call 35; refine CL.out.mono ?_; rintro e w2 ⟨v, qs, rfl, h1, h2, h3⟩)
  go_ret
  exact ⟨_, qs, rfl, h1, h2.trans HLS.out, h3⟩
set_option maxHeartbeats 2000000 in
theorem keys_c (p n : Nat) (S : Sx) (own : Nat → Prop) (w : World) (h : Ix w p S n own) (hn : n ≤ 100000) :
    Calls Tryz.prog 23 #[.pointer (some ⟨p, 0, none⟩)] w fun e w' => ∃ v, e = .returned v ∧ KRow w' w.heap.size v (srtK (S.map Prod.fst)) ∧ Below w.heap.size w w' := by
  obtain ⟨bt, bl, T, L, hx, rfl, hte, hfu, hfe⟩ := h
  have CR := Lib.hid (risingT_c (some bt) (T.map tv) (T.map txo) w (tv_fst T) (.inr ⟨bt, rfl, hx.tm⟩) (by rw [List.length_map]; exact Nat.le_trans hfe.t hn))
  rw [← txs_fst] at CR
  have p0 := hx.hd.cell 0
  simp only [List.getElem?_toArray, List.getElem?_cons_zero] at p0
  have hpl := hx.hd.lt
  clear hx hte hfu hfe
  go_enter Tryz.func23, Tryz.ntmps23
  go_wp2_with (go_at_call 45; refine CR.out.mono ?_; rintro e w2 ⟨v, rfl, h1, h2⟩)
  go_ret
  exact ⟨_, rfl, h1, h2⟩
set_option maxHeartbeats 2000000 in
theorem putNil_c (v : Value) (hv : ∃ r : R.Rc, v = .agg #[.int .i64 r.o, .int .i64 r.s, .int .i64 r.w, .int .i64 r.c, .string r.t]) (w : World) : Calls Tryz.prog 14 #[.pointer none, v] w fun e w' => e = .returned (.int .i64 1) ∧ Below w.heap.size w w' := by
  obtain ⟨r, rfl⟩ := hv
  have hal := Lib.hid (alloc_below w (.cells #[.int .i64 r.o, .int .i64 r.s, .int .i64 r.w, .int .i64 r.c, .string r.t] 35))
  go_enter Tryz.func14, Tryz.ntmps14
  go_wp2
  go_ret
  exact ⟨rfl, hal.out⟩
theorem dropNil_c (v : Value) (w : World) : Calls Tryz.prog 12 #[.pointer none, v] w fun e w' => e = .returned (.int .i64 0) ∧ w' = w := by
  go_enter Tryz.func12, Tryz.ntmps12
  go_wp2
  go_ret
  exact ⟨rfl, rfl⟩
theorem wordNil_c (v : Value) (w : World) : Calls Tryz.prog 15 #[.pointer none, v] w fun e w' => e = .returned (.slice none 0 0) ∧ w' = w := by
  go_enter Tryz.func15, Tryz.ntmps15
  go_wp2
  go_ret
  exact ⟨rfl, rfl⟩
theorem prefixNil_c (v : Value) (w : World) : Calls Tryz.prog 16 #[.pointer none, v] w fun e w' => e = .returned (.slice none 0 0) ∧ w' = w := by
  go_enter Tryz.func16, Tryz.ntmps16
  go_wp2
  go_ret
  exact ⟨rfl, rfl⟩
theorem keysNil_c (w : World) : Calls Tryz.prog 23 #[.pointer none] w fun e w' => e = .returned (.slice none 0 0) ∧ w' = w := by
  go_enter Tryz.func23, Tryz.ntmps23
  go_wp2
  go_ret
  exact ⟨rfl, rfl⟩
theorem wordsNil_c (w : World) : Calls Tryz.prog 26 #[.pointer none] w fun e w' => e = .returned (.slice none 0 0) ∧ w' = w := by
  go_enter Tryz.func26, Tryz.ntmps26
  go_wp2
  go_ret
  exact ⟨rfl, rfl⟩
end Go.Proofs.YtdjlgiinekighaaGreatDoor
/-
  Words of package index, by contract.
-/
namespace Go.Proofs.YtdjlgiinekighaaGreatDoor
open Go.RowKit Go.Lib Go.Sort Go.Shelf Go.Maps Go.Proofs.YtdjlgiinekighaaGreatDoor.P Go.Proofs
set_option maxRecDepth 100000
set_option linter.unusedSimpArgs false

/-- A row of texts. -/
def StrRow (w : World) (B : Nat) (v : Value) (ws : List Bs) : Prop := w.ownsRow B 9 1 v ws.length (ws.map encStr)
theorem keys_perm {w : World} {b : Nat} {ts : List Bs} {vs : List (Value × Value)} (hv : vs.map Prod.fst = ts.map bsv) {D : DataW Value} {n : Nat} (ho : w.ownsMap Tryz.prog 9 RV b n D) (hr : Rep Tryz.prog 9 D vs) : ts.Perm (strKeys D) := by
  have hnd : ts.Nodup := by
    have := hr.nd
    rw [hv] at this
    exact List.Pairwise.of_map bsv (fun a b h e => h (by rw [e])) this
  have hc : Collected D (fun _ => false) ts := by
    refine ⟨hnd, fun x => ?_⟩
    simp only [and_true]
    constructor
    · intro hx
      have hm : bsv x ∈ vs.map Prod.fst := by rw [hv]; exact List.mem_map_of_mem hx
      obtain ⟨p, hp, e⟩ := List.mem_map.1 hm
      obtain ⟨l, hl⟩ := hr.ky p hp
      rw [e] at hl
      obtain ⟨y, hy, hly, _⟩ := Maps.keyOf_str Tryz.underlying9 hl
      have hyx : x = y := encStr_inj hy
      subst hyx
      subst hly
      exact (hr.hs _ _ hl).2 hm
    · intro hh
      obtain ⟨es, hD, hko⟩ := ho.keysOf
      subst hD
      have hh2 := hh
      rw [has_eq, List.any_eq_true] at hh2
      obtain ⟨q, hq, hs⟩ := hh2
      obtain ⟨u, hu⟩ := hko q hq
      obtain ⟨y, rfl, hl, hy⟩ := Maps.keyOf_str Tryz.underlying9 hu
      rw [hl] at hs hu
      have hyx : y = x := by simpa [Lit.sameKey] using hs
      subst hyx
      have := (hr.hs _ _ hu).1 hh
      rw [hv] at this
      obtain ⟨z, hz, e⟩ := List.mem_map.1 this
      exact (bsv_inj e) ▸ hz
  exact hc.perm ho strKeyed Tryz.underlying9 (fun _ => rfl)
/-- The words of an index, in order. -/
def Words (S : Sx) (ws : List Bs) : Prop := ws.Pairwise (fun a b => a < b) ∧ ∀ t, t ∈ ws ↔ ∃ k, posS S k t ≠ []
theorem sort_words {l : List Bs} (h : l.Nodup) : (l.mergeSort fun x y => decide (x ≤ y)).Pairwise (fun a b => a < b) := by
  have tr : ∀ a b c : List UInt8, leB a b = true → leB b c = true → leB a c = true := fun a b c h1 h2 => by simp only [leB, decide_eq_true_eq] at *; exact List.le_trans h1 h2
  have tot : ∀ a b : List UInt8, (leB a b || leB b a) = true := fun a b => by simp only [leB, Bool.or_eq_true, decide_eq_true_eq]; exact List.le_total a b
  have h1 := List.pairwise_mergeSort tr tot l
  have h2 : (l.mergeSort leB).Nodup := (List.mergeSort_perm l leB).nodup_iff.2 h
  refine List.pairwise_iff_getElem.2 fun i j hi hj hij => ?_
  have a := List.pairwise_iff_getElem.1 h1 i j hi hj hij
  have b := List.pairwise_iff_getElem.1 h2 i j hi hj hij
  simp only [leB, decide_eq_true_eq] at a
  exact Classical.byContradiction fun hn => b (List.le_antisymm a (List.not_lt.1 hn))
set_option maxHeartbeats 4000000 in
theorem words_c (p n : Nat) (S : Sx) (own : Nat → Prop) (w : World) (h : Ix w p S n own) (hn : n ≤ 100000) :
    Calls Tryz.prog 26 #[.pointer (some ⟨p, 0, none⟩)] w fun e w' => ∃ v ws, e = .returned v ∧ StrRow w' w.heap.size v ws ∧ Words S ws ∧ ws.length ≤ n ∧ Below w.heap.size w w' := by
  obtain ⟨bt, bl, T, L, hx, rfl, hte, hfu, hfe⟩ := h
  have p1 := hx.hd.cell 1
  simp only [List.getElem?_toArray, List.getElem?_cons_succ, List.getElem?_cons_zero] at p1
  have hpl := hx.hd.lt
  have hws := hx.ws
  obtain ⟨D, ho, hr⟩ := hx.lm
  have hsz : Maps.size D ≤ 100000 := by rw [hr.sz, List.length_map]; exact Nat.le_trans hfe.l hn
  have HP := Lib.hid (keys_perm (ts := L.map Wn.t) (wnv_fst L) ho hr)
  have HM := Lib.hid (Tryz.slices_Sorted_keys_48_49 bl _ D RV w ho (by unfold maxLen; omega) (by omega))
  have HW : Hid (∀ ss : List Bs, ss.Perm (L.map Wn.t) → Words (T.map txs) (ss.mergeSort fun x y => decide (x ≤ y)) ∧ (ss.mergeSort fun x y => decide (x ≤ y)).length = ss.length ∧ ss.length ≤ n) := Lib.hid (fun ss hs => by
    have hl : (ss.mergeSort fun x y => decide (x ≤ y)).length = ss.length := (List.mergeSort_perm _ _).length_eq
    refine ⟨⟨sort_words (hs.nodup_iff.2 hws), fun t => ?_⟩, hl, by rw [hs.length_eq, List.length_map]; exact hfe.l⟩
    rw [(List.mergeSort_perm _ _).mem_iff, hs.mem_iff]
    constructor
    · intro hm
      obtain ⟨x, hxm, rfl⟩ := List.mem_map.1 hm
      cases hes : x.es with
      | nil => exact absurd hes (hfu x hxm)
      | cons e r =>
        obtain ⟨h1, h2⟩ := hte.ns x hxm e (by rw [hes]; simp)
        exact ⟨kyo e, h1 ▸ h2⟩
    · rintro ⟨k, hk⟩
      obtain ⟨y, hy, e, _⟩ := hte.al k t hk
      exact List.mem_map.2 ⟨y, hy, e⟩)
  clear hx hte hfu hfe ho hr hsz hws
  refine (callsIn_wide (n := 6)).1 ?_
  have hfK : Fence.wide.fn 49 := trivial
  have hfS : Fence.wide.fn 48 := trivial
  refine callsIn_of_wp Tryz.func26 rfl trivial ?_ rfl
  simp only [Tryz.ntmps26, List.size_toArray, List.length_cons, List.length_nil, Nat.reduceAdd, Nat.reduceSub, Array.replicate_succ, Array.replicate_zero, List.push_toArray, List.append_toArray, List.nil_append, List.cons_append]
  gi_wp2_with (first
    | (gi_at_call 49; refine (Tryz.maps_Keys_49 _ _).mono ?_; rintro e w' ⟨rfl, rfl⟩)
    | (gi_at_call 48; refine HM.out.mono ?_; rintro e w' ⟨v, ss, rfl, hS, hrow, hnil, hb⟩))
  go_ret
  obtain ⟨hW1, hW2, hW3⟩ := HW.out ss (hS.trans HP.out.symm)
  refine ⟨v, _, rfl, ?_, hW1, by rw [hW2]; exact hW3, ((Below.refl _ w).alloc (Nat.le_refl _) _).trans (hb.mono (by simp))⟩
  have hr2 := own_mono hrow (base' := w.heap.size) (by simp)
  unfold StrRow
  rw [hW2]
  exact hr2
end Go.Proofs.YtdjlgiinekighaaGreatDoor
/-
  Same of package index, by contract.
-/
namespace Go.Proofs.YtdjlgiinekighaaGreatDoor
open Go.RowKit Go.Lib Go.Sort Go.Shelf Go.Maps Go.Proofs.YtdjlgiinekighaaGreatDoor.P Go.Proofs
set_option maxRecDepth 100000
set_option linter.unusedSimpArgs false

theorem eq_word (a b : Bs) (i j : Int) (w : World) : (Op.equalIn 10000 52 (.agg #[.string ⟨a.toArray⟩, .int .i64 i]) (.agg #[.string ⟨b.toArray⟩, .int .i64 j])).run Tryz.prog w = .ok (a == b && i == j) w := by
  have u9 := Tryz.underlying9
  have a9 := Tryz.isAgg9
  have z9 := Tryz.sizeOf9
  have u3 := Tryz.underlying3
  have a3 := Tryz.isAgg3
  have z3 := Tryz.sizeOf3
  rw [show (10000 : Nat) = 9999 + 1 from rfl, run_equalIn_struct w 9999 52 _ _ (by kernel_rfl) (by kernel_rfl)]
  simp only [Program.fieldsOf, Tryz.underlying52]
  go_simp
  by_cases h1 : a = b <;> by_cases h2 : i = j <;> simp [h1, h2]
theorem take_ext {ts us : List Bs} {k : Nat} (h : ts.take k = us.take k) (h1 : k < ts.length) (h2 : k < us.length) (e : ts[k] = us[k]) : ts.take (k + 1) = us.take (k + 1) := by
  rw [List.take_succ_eq_append_getElem h1, List.take_succ_eq_append_getElem h2, h, e]
set_option maxHeartbeats 4000000 in
theorem equalw_c (a b : Value) (ts us : List Bs) (w : World) (ha : Go.Proofs.YtdjlgiinekighaaGreatDoor.T.WordsAt w 0 a ts) (hb : Go.Proofs.YtdjlgiinekighaaGreatDoor.T.WordsAt w 0 b us) :
    Calls Tryz.prog 47 #[a, b] w fun e w' => e = .returned (.bool (decide (ts = us))) ∧ Below w.heap.size w w' := by
  have mixed : Tryz.prog.follows .mixedOrders = true := by kernel_rfl
  obtain ⟨A, C, rfl, _⟩ := own_form ha
  obtain ⟨A', C', rfl, _⟩ := own_form hb
  have hts : ts.length ≤ maxLen := by
    rcases ha.2 with ⟨_, h0⟩ | ⟨_, cap, _, _, _, _, hn, hm, _⟩ <;> omega
  unfold maxLen at hts
  have HA := Lib.hid ha
  have HB := Lib.hid hb
  clear ha hb
  by_cases hl : ts.length = us.length
  case neg =>
    have hd : decide (ts = us) = false := by
      rw [decide_eq_false_iff_not]
      rintro rfl
      exact hl rfl
    have hne : ¬ ((ts.length : Int) = (us.length : Int)) := by omega
    rw [hd]
    clear hd
    go_enter Tryz.func47, Tryz.ntmps47
    go_wp2
    go_ret
    exact ⟨rfl, Below.refl _ _⟩
  case pos =>
    have HL := Lib.hid hl
    rw [← hl]
    clear hl
    go_enter Tryz.func47, Tryz.ntmps47
    go_wp2
    go_loopw [13] (fun v13 wr => ∃ (k q : Nat), k ≤ ts.length ∧ v13 = .int .i64 (k : Int) ∧ Hid (ts.take k = us.take k) ∧ wr = w.drewN q) (fun v13 _ => ts.length - (RowKit.intOf v13).toNat)
    case atStart => exact ⟨0, 0, by omega, rfl, Lib.hid rfl, rfl⟩
    case round =>
      obtain ⟨k, q, hk, rfl, HTK, rfl⟩ := hrel
      by_cases hp : k < ts.length
      · obtain ⟨g, C1, e, c1, c2⟩ := words_at HA.out hp
        simp only [Value.slice.injEq, true_and] at e
        obtain ⟨rfl, rfl⟩ := e
        have hp2 : k < us.length := HL.out ▸ hp
        obtain ⟨g', C1', e, c1', c2'⟩ := words_at HB.out hp2
        have e2 : A' = some ⟨g', 0, none⟩ := by
          simp only [Value.slice.injEq] at e
          exact e.1
        clear e
        subst e2
        have HNX : Hid (ts[k] = us[k] → ts.take (k + 1) = us.take (k + 1)) := Lib.hid (fun e => take_ext HTK.out hp hp2 e)
        have HNE : Hid (ts[k] ≠ us[k] → decide (ts = us) = false) := Lib.hid (fun h => by
          rw [decide_eq_false_iff_not]
          rintro rfl
          exact h rfl)
        have HP := Lib.hid hp
        generalize ts[k] = x at c1 HNX HNE
        generalize us[k] = y at c1' HNX HNE
        have heq : ∀ W, (Op.equalIn 10000 52 (.agg #[.string ⟨x.toArray⟩, .int .i64 (k : Int)]) (.agg #[.string ⟨y.toArray⟩, .int .i64 (k : Int)])).run Tryz.prog W = .ok (x == y && (k : Int) == (k : Int)) W := fun W => eq_word x y _ _ W
        clear hp2
        by_cases hxy : x = y
        · have hb2 : (x == y) = true := by simpa using hxy
          rw [hb2] at heq
          simp only [beq_self_eq_true, Bool.and_self] at heq
          have HTN := Lib.hid (HNX.out hxy)
          clear hxy hb2 HNX HNE
          go_wp2_with fail
          go_quiet (fail)
          go_wp2
          go_roundw
          case rel => exact ⟨k + 1, q + nq, HP.out, by go_num, HTN, by first | rfl | rw [World.drewN_drewN]⟩
          case measure => have := HP.out; simp [RowKit.intOf]; omega
        · have hb2 : (x == y) = false := by simpa using hxy
          rw [hb2] at heq
          simp only [Bool.false_and] at heq
          have HD := Lib.hid (HNE.out hxy)
          clear hxy hb2 HNX HNE
          go_wp2_with fail
          go_quiet (fail)
          go_wp2
          go_ret
          exact ⟨congrArg (fun b => Ending.returned (.bool b)) HD.out.symm, Go.Proofs.YtdjlgiinekighaaGreatDoor.P.below_drewN (Go.Proofs.YtdjlgiinekighaaGreatDoor.P.below_drewN (Below.refl _ _) _) _⟩
      · have hd : decide (ts = us) = true := by
          have h1 := HTK.out
          rw [List.take_of_length_le (by omega), List.take_of_length_le (by have := HL.out; omega)] at h1
          simpa using h1
        have HD := Lib.hid hd
        clear hd
        go_wp2
        go_ret
        exact ⟨congrArg (fun b => Ending.returned (.bool b)) HD.out.symm, Go.Proofs.YtdjlgiinekighaaGreatDoor.P.below_drewN (Below.refl _ _) _⟩
end Go.Proofs.YtdjlgiinekighaaGreatDoor
/-
  maps.EqualFunc of texts, and Same of package index, by contract.
-/
namespace Go.Proofs.YtdjlgiinekighaaGreatDoor
open Go.RowKit Go.Lib Go.Sort Go.Shelf Go.Maps Go.Proofs.YtdjlgiinekighaaGreatDoor.P Go.Proofs
set_option maxRecDepth 100000
set_option linter.unusedSimpArgs false

/-- What Same tells. -/
def sameS (A B : Sx) : Prop := A.length = B.length ∧ ∀ x ∈ A, x ∈ B
open Classical in
noncomputable def sameD (A B : Sx) : Bool := decide (sameS A B)
theorem sameD_yes {A B : Sx} (h : sameS A B) : sameD A B = true := by unfold sameD; simpa using h
theorem sameD_no {A B : Sx} (h : ¬ sameS A B) : sameD A B = false := by unfold sameD; simpa using h
theorem text_look {w : World} {b : Nat} {T : List Tx} (h : PM Tryz.prog w 31 b (T.map tv)) {k : Ky} (hk : okKy k) :
    (∃ x ∈ T, txo x = k ∧ (Instr.lookup 69 (.map (some b)) (kyv k) true).run Tryz.prog w = .ok (.tuple #[x.v, .bool true]) w) ∨ (k ∉ T.map txo ∧ (Instr.lookup 69 (.map (some b)) (kyv k) true).run Tryz.prog w = .ok (.tuple #[.slice none 0 0, .bool false]) w) := by
  obtain ⟨l, hl⟩ := kyv_lit k hk
  by_cases hin : k ∈ T.map txo
  · obtain ⟨x, hx, e⟩ := List.mem_map.1 hin
    exact .inl ⟨x, hx, e, (h.look (z := .slice none 0 0) (Keyed.of_law keyLaw) Tryz.underlying69 (fun w => by simp [Tryz.zeroValue49]) hl (v := x.v) (List.mem_map.2 ⟨x, hx, by rw [← e]; rfl⟩)).1⟩
  · refine .inr ⟨hin, (h.look_no (z := .slice none 0 0) (Keyed.of_law keyLaw) Tryz.underlying69 (fun w => by simp [Tryz.zeroValue49]) hl ?_).1⟩
    rw [tv_fst]
    intro h2
    obtain ⟨x, hx, e⟩ := List.mem_map.1 h2
    exact hin (kyv_inj e ▸ hx)
theorem tx_same : ∀ {T : List Tx}, (T.map txo).Nodup → ∀ {x y : Tx}, x ∈ T → y ∈ T → txo x = txo y → x = y
  | [], _, _, _, hx, _, _ => by cases hx
  | a :: r, h, x, y, hx, hy, e => by
    rw [List.map_cons, List.nodup_cons] at h
    rcases List.mem_cons.1 hx with h1 | h1 <;> rcases List.mem_cons.1 hy with h2 | h2
    · rw [h1, h2]
    · exact absurd (by rw [← h1, e]; exact List.mem_map_of_mem h2) h.1
    · exact absurd (by rw [← h2, ← e]; exact List.mem_map_of_mem h1) h.1
    · exact tx_same h.2 h1 h2 e
set_option maxHeartbeats 8000000 in
theorem equalf_c (b1 b2 : Nat) (T1 T2 : List Tx) (w : World) (h1 : PM Tryz.prog w 31 b1 (T1.map tv)) (h2 : PM Tryz.prog w 31 b2 (T2.map tv)) (r1 : ∀ x ∈ T1, Go.Proofs.YtdjlgiinekighaaGreatDoor.T.WordsAt w 0 x.v x.ts) (r2 : ∀ x ∈ T2, Go.Proofs.YtdjlgiinekighaaGreatDoor.T.WordsAt w 0 x.v x.ts) (hok : ∀ x ∈ T1, okKy (txo x)) (hnd : (T2.map txo).Nodup) :
    Calls Tryz.prog 46 #[.map (some b1), .map (some b2), .func (.func 47) #[] #[]] w fun e w' => e = .returned (.bool (sameD (T1.map txs) (T2.map txs))) ∧ Below w.heap.size w w' := by
  have hlen1 := fun ty => h1.len Tryz.underlying69 ty
  have hlen2 := fun ty => h2.len Tryz.underlying69 ty
  rw [List.length_map] at hlen1 hlen2
  have H1 := Lib.hid h1
  have H2 := Lib.hid h2
  have R1 := Lib.hid r1
  have R2 := Lib.hid r2
  have HOK := Lib.hid hok
  have HND := Lib.hid hnd
  by_cases hl : T1.length = T2.length
  case neg =>
    have HD : Hid (sameD (T1.map txs) (T2.map txs) = false) := Lib.hid (sameD_no (fun h => hl (by simpa using h.1)))
    have hne : ¬ ((T1.length : Int) = (T2.length : Int)) := by omega
    clear h1 h2 r1 r2 hok hnd hl
    go_enter Tryz.func46, Tryz.ntmps46
    go_wp2
    go_ret
    exact ⟨congrArg (fun b => Ending.returned (.bool b)) HD.out.symm, Below.refl _ _⟩
  case pos =>
    have HL := Lib.hid hl
    rw [← hl] at hlen2
    clear h1 h2 r1 r2 hok hnd hl
    go_enter Tryz.func46, Tryz.ntmps46
    go_wp2_with (first
      | (at_range; refine wpList_range_pm rfl _ 69 rfl 31 49 lawKey Tryz.underlying69 b1 (T1.map tv) rfl H1.out ?_; intro w0 hrg0 hg0 hs0))
    go_frame
    clear hlen1 hlen2
    go_loopw [6] (fun v6 wr => v6 = .bool false ∧ ∃ (left : List (Value × Value)), Hid (PR Tryz.prog wr 31 b1 w.heap.size (T1.map tv) left) ∧ Hid (∀ x ∈ T1, tv x ∈ left ∨ txs x ∈ T2.map txs) ∧ Hid (Below w.heap.size w wr)) (fun _ wr => wr.rangeLeft b1 w.heap.size)
    case atStart => exact ⟨rfl, _, Lib.hid hrg0, Lib.hid (fun x hx => .inl (List.mem_map_of_mem hx)), Lib.hid ⟨hg0.os, hg0.tape, hg0.output, hg0.size, fun i hi => hg0.block i hi (fun e => by cases e)⟩⟩
    case round =>
      obtain ⟨rfl, left, hrg, HG, HB⟩ := hrel
      go_wp2_with (first
        | (at_next; refine wpList_next_pm rfl _ rfl 31 lawKey b1 w.heap.size (T1.map tv) left rfl hrg.out ?_ ?_))
      · intro hl0
        subst hl0
        have HD : Hid (sameD (T1.map txs) (T2.map txs) = true) := Lib.hid (sameD_yes ⟨by have := HL.out; simpa using this, fun y hy => by
          obtain ⟨x, hx, rfl⟩ := List.mem_map.1 hy
          rcases HG.out x hx with h | h
          · cases h
          · exact h⟩)
        go_wp2
        go_ret
        exact ⟨congrArg (fun b => Ending.returned (.bool b)) HD.out.symm, HB.out⟩
      · intro pre key v post w2 hl0 hrg2 hg2 hs2 hen hlt
        have hkm : (key, v) ∈ T1.map tv := hrg.out.2.1 _ (by simp [hl0])
        have hnd1 : (T1.map txo).Nodup := by
          have := H1.out.nd
          rw [tv_fst] at this
          exact List.Pairwise.of_map kyv (fun a b h e => h (by rw [e])) this
        obtain ⟨⟨xo, xs, xv, xts⟩, hxm, hxe⟩ := List.mem_map.1 hkm
        simp only [tv, kyv, Prod.mk.injEq] at hxe
        obtain ⟨rfl, rfl⟩ := hxe
        have hb2 : Below w.heap.size w w2 := HB.out.trans (below_of_grown hg2 HB.out.size (fun g hg => by cases hg; exact Nat.le_refl _))
        obtain ⟨w3, hw3⟩ : ∃ w3, w3 = w2.alloc (.cells #[.int .i64 xo, .int .i64 xs] 31) := ⟨_, rfl⟩
        have hal : Below w2.heap.size w2 w3 := by rw [hw3]; exact alloc_below _ _
        have bx : Bx 31 w3 w2.heap.size #[.int .i64 xo, .int .i64 xs] := by rw [hw3]; exact Bx.new _ w2 _
        have hb3 : Below w.heap.size w w3 := bn hb2 hal
        have hrow := (R1.out _ hxm).below hb3
        simp only at hrow
        obtain ⟨XA, XC, rfl, _⟩ := own_form hrow
        have hlook := text_look (H2.out.below hb3) (HOK.out _ hxm)
        have z0 := bx.cell 0
        have z1 := bx.cell 1
        simp only [List.getElem?_toArray, List.getElem?_cons_succ, List.getElem?_cons_zero] at z0 z1
        have bl := bx.lt
        have HRG := Lib.hid (hrg2.below hal)
        have HLT : Hid (w3.rangeLeft b1 w.heap.size < wr.rangeLeft b1 w.heap.size) := Lib.hid (by
          rw [PR.left_same (hal.block b1 hrg2.pm.lt) (hal.block _ hrg2.lt)]
          exact hlt)
        have HB3 := Lib.hid hb3
        have HROW := Lib.hid hrow
        have HL0 := Lib.hid hl0
        have HXM := Lib.hid hxm
        have HN1 := Lib.hid hnd1
        clear hkm hnd1 hb2 hal bx hb3 hrow hrg2 hg2 hs2 hlt hl0 hxm
        rcases hlook with ⟨⟨yo, ys, yv, yts⟩, hy, e, hlk⟩ | ⟨hno, hlk⟩
        · simp only [txo, Prod.mk.injEq] at e
          obtain ⟨e1, e2⟩ := e
          subst e1 e2
          have hrow2 := (R2.out _ hy).below HB3.out
          simp only at hrow2
          obtain ⟨YA, YC, rfl, _⟩ := own_form hrow2
          simp only [txo, kyv] at hlk
          have HY := Lib.hid hy
          have hlk2 := hlk
          rw [hw3] at hlk2
          have CE := Lib.hid (equalw_c _ _ xts yts w3 HROW.out hrow2)
          clear hy hrow2
          by_cases hts : xts = yts
          · have hd : decide (xts = yts) = true := by simpa using hts
            rw [hd] at CE
            have HTS := Lib.hid hts
            clear hd hts
            go_wp2_with fail
            rw [← hw3]
            clear hw3
            go_wp2_with (go_at_call 47; refine CE.out.mono ?_; rintro e w4 ⟨rfl, b4⟩; have HB4 := Lib.hid b4; clear b4)
            go_wp2
            have HRG4 := Lib.hid (HRG.out.below HB4.out)
            go_roundw
            case rel => exact ⟨rfl, pre ++ post, HRG4, Lib.hid (fun x' hx' => by
              rcases HG.out x' hx' with h | h
              · rw [HL0.out] at h
                rcases List.mem_append.1 h with h | h
                · exact .inl (List.mem_append.2 (.inl h))
                · rcases List.mem_cons.1 h with h | h
                  · have hk : x' = ⟨yo, ys, .slice XA xts.length XC, xts⟩ := tx_same HN1.out hx' HXM.out (by
                      simp only [tv, Prod.mk.injEq] at h
                      exact kyv_inj h.1)
                    subst hk
                    refine .inr (List.mem_map.2 ⟨_, HY.out, ?_⟩)
                    simp only [txs, txo]
                    rw [HTS.out]
                  · exact .inl (List.mem_append.2 (.inr h))
              · exact .inr h), Lib.hid (bn HB3.out HB4.out)⟩
            case measure =>
              rw [PR.left_same (HB4.out.block b1 HRG.out.pm.lt) (HB4.out.block _ HRG.out.lt)]
              exact HLT.out
          · have hd : decide (xts = yts) = false := by simpa using hts
            rw [hd] at CE
            have HD : Hid (sameD (T1.map txs) (T2.map txs) = false) := Lib.hid (sameD_no (fun hs => by
              obtain ⟨z, hz, e⟩ := List.mem_map.1 (hs.2 _ (List.mem_map_of_mem HXM.out))
              simp only [txs, Prod.mk.injEq] at e
              have := tx_same HND.out hz HY.out e.1
              subst this
              exact hts e.2.symm))
            clear hd hts
            go_wp2_with fail
            rw [← hw3]
            clear hw3
            go_wp2_with (go_at_call 47; refine CE.out.mono ?_; rintro e w4 ⟨rfl, b4⟩; have HB4 := Lib.hid b4; clear b4)
            go_ret
            exact ⟨congrArg (fun b => Ending.returned (.bool b)) HD.out.symm, bn HB3.out HB4.out⟩
        · simp only [txo, kyv] at hlk
          have hlk2 := hlk
          rw [hw3] at hlk2
          have HD : Hid (sameD (T1.map txs) (T2.map txs) = false) := Lib.hid (sameD_no (fun hs => by
            obtain ⟨z, hz, e⟩ := List.mem_map.1 (hs.2 _ (List.mem_map_of_mem HXM.out))
            simp only [txs, Prod.mk.injEq] at e
            exact hno (e.1 ▸ List.mem_map_of_mem hz)))
          rw [hw3] at HB3
          clear hw3
          go_wp2
          go_ret
          exact ⟨congrArg (fun b => Ending.returned (.bool b)) HD.out.symm, HB3.out⟩
end Go.Proofs.YtdjlgiinekighaaGreatDoor
/-
  Same of package index, by contract.
-/
namespace Go.Proofs.YtdjlgiinekighaaGreatDoor
open Go.RowKit Go.Lib Go.Sort Go.Shelf Go.Maps Go.Proofs.YtdjlgiinekighaaGreatDoor.P Go.Proofs
set_option maxRecDepth 100000
set_option linter.unusedSimpArgs false

set_option maxHeartbeats 8000000 in
theorem same_c (p1 p2 n1 n2 : Nat) (S1 S2 : Sx) (own1 own2 : Nat → Prop) (w : World) (h1 : Ix w p1 S1 n1 own1) (h2 : Ix w p2 S2 n2 own2) :
    Calls Tryz.prog 24 #[.pointer (some ⟨p1, 0, none⟩), .pointer (some ⟨p2, 0, none⟩)] w fun e w' => e = .returned (.bool (sameD S1 S2)) ∧ Below w.heap.size w w' := by
  have mixed : Tryz.prog.follows .mixedOrders = true := by kernel_rfl
  obtain ⟨bt1, bl1, T1, L1, x1, rfl, _⟩ := h1
  obtain ⟨bt2, bl2, T2, L2, x2, rfl, _⟩ := h2
  have HS : Hid (∀ W, Below w.heap.size w W → W.cell? ⟨p1, 0, none⟩ = some (.map (some bt1)) ∧ W.cell? ⟨p2, 0, none⟩ = some (.map (some bt2))) := Lib.hid (fun W hW => ⟨(x1.hd.below hW).cell 0, (x2.hd.below hW).cell 0⟩)
  have HC : Hid (∀ W, Below w.heap.size w W → Calls Tryz.prog 46 #[.map (some bt1), .map (some bt2), .func (.func 47) #[] #[]] W fun e w' => e = .returned (.bool (sameD (T1.map txs) (T2.map txs))) ∧ Below W.heap.size W w') := Lib.hid (fun W hW => equalf_c bt1 bt2 T1 T2 W (x1.below hW).tm (x2.below hW).tm (x1.below hW).tr (x2.below hW).tr x1.tk x2.tks)
  clear x1 x2
  go_enter Tryz.func24, Tryz.ntmps24
  generalize hsd : sameD (T1.map txs) (T2.map txs) = sd at *
  go_wp2_with fail
  go_region_held3 (fun W => W.cell? ⟨p1, 0, none⟩ = some (.map (some bt1)) ∧ W.cell? ⟨p2, 0, none⟩ = some (.map (some bt2))) (exact HS.out _ (by first | assumption | exact (Below.refl _ _).drew)) (first | (go_at_call 46; refine (HC.out _ (by first | assumption | exact (Below.refl _ _).drew)).mono ?_; rintro e w1 ⟨rfl, b1⟩; have hb1 : Below w.heap.size w w1 := bn (by first | assumption | exact (Below.refl _ _).drew) b1))
  go_wp2
  go_ret
  exact ⟨rfl, hb1⟩
end Go.Proofs.YtdjlgiinekighaaGreatDoor
