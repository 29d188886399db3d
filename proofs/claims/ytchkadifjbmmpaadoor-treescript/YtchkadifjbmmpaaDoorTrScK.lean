/-
  PROVED: TreeScript answers true, whatever acts and range it is given. Conditions: the library's two listed tables hold what the program's text, and the pinned table, lay (the card ties them).
-/
import Derived.Test.YtchkadifjbmmpaaDoorTrGrA
import Derived.Test.YtchkadifjbmmpaaDoorTrRefD
import Derived.Test.YtchkadifjbmmpaaDoorTrOrP
import Derived.Test.YtchkadifjbmmpaaDoorTrPaP
import Derived.Test.YtchkadifjbmmpaaDoorTrOrLaw
import Derived.Test.YtchkadifjbmmpaaDoorTrArgs
namespace Go.Proofs.YtchkadifjbmmpaaDoor
open Go.RowKit Go.Lib Go.Maps
set_option maxRecDepth 100000
set_option linter.unusedSimpArgs false

/-- Records as Keys with their bytes. -/
def sx (l : List R.Rc) : Sb := l.map fun r => (kyR r, R.layL r)
theorem sx_keys (l : List R.Rc) : (sx l).map Prod.fst = l.map kyR := by simp [sx]
theorem sx_len (l : List R.Rc) : (sx l).length = l.length := by simp [sx]
theorem sx_put (L : List R.Rc) (r : R.Rc) : putS (sx L) r = sx (refPut L r) := by
  unfold putS refPut
  rw [sx_keys]
  split
  · simp [sx]
  · rfl
theorem put_nd {L : List R.Rc} (r : R.Rc) (h : (L.map kyR).Nodup) : ((refPut L r).map kyR).Nodup := by
  unfold refPut
  split
  · rename_i hc
    rw [List.map_append, List.nodup_append]
    refine ⟨h, by simp, fun a ha b hb e => ?_⟩
    simp only [List.map_cons, List.map_nil, List.mem_singleton] at hb
    subst hb
    exact hc.2 (e ▸ ha)
  · exact h
theorem drop_sub (L : List R.Rc) (k : Ky) : (refDrop L k).Sublist L := List.eraseP_sublist
theorem drop_nd {L : List R.Rc} (k : Ky) (h : (L.map kyR).Nodup) : ((refDrop L k).map kyR).Nodup := ((drop_sub L k).map kyR).nodup h
theorem put_may {L : List R.Rc} (r : R.Rc) (h : ∀ x ∈ L, R.mayR x = true) : ∀ x ∈ refPut L r, R.mayR x = true := by
  unfold refPut
  split
  · rename_i hc
    intro x hx
    rcases List.mem_append.1 hx with hx | hx
    · exact h x hx
    · rw [List.mem_singleton.1 hx]
      exact hc.1
  · exact h
theorem drop_may {L : List R.Rc} (k : Ky) (h : ∀ x ∈ L, R.mayR x = true) : ∀ x ∈ refDrop L k, R.mayR x = true := fun x hx => h x ((drop_sub L k).subset hx)
theorem sx_drop : ∀ {L : List R.Rc} (k : Ky), (L.map kyR).Nodup → dropS (sx L) k = sx (refDrop L k)
  | [], _, _ => rfl
  | a :: L, k, h => by
    rw [List.map_cons, List.nodup_cons] at h
    have ih := sx_drop (L := L) k h.2
    unfold dropS sx refDrop at ih ⊢
    by_cases hk : kyR a = k
    · rw [List.eraseP_cons_of_pos (by simpa using hk), List.map_cons, List.filter_cons_of_neg (by simp [hk])]
      rw [List.filter_eq_self]
      intro x hx
      obtain ⟨r, hr, rfl⟩ := List.mem_map.1 hx
      rw [decide_eq_true_eq]
      intro e
      exact h.1 (hk ▸ e ▸ List.mem_map_of_mem hr)
    · rw [List.eraseP_cons_of_neg (by simpa using hk), List.map_cons, List.filter_cons_of_pos (by simpa using hk), ih]
      rfl
/-- Keys once: a number's digest is told by what is there, in whatever order. -/
theorem leaf_mem {S S' : Sb} (_h : (S.map Prod.fst).Nodup) (h' : (S'.map Prod.fst).Nodup) (hm : ∀ x, x ∈ S ↔ x ∈ S') (o n : Nat) : leafS S o n = leafS S' o n := by
  have one : ∀ {T : Sb}, (T.map Prod.fst).Nodup → ∀ {x y : Ky × List Int}, x ∈ T → y ∈ T → x.1 = y.1 → x = y := by
    intro T hT x y hx hy e
    induction T with
    | nil => cases hx
    | cons a T ih =>
      rw [List.map_cons, List.nodup_cons] at hT
      rcases List.mem_cons.1 hx with ex | hx2
      · rcases List.mem_cons.1 hy with ey | hy2
        · rw [ex, ey]
        · exact absurd (by rw [← ex, e]; exact List.mem_map_of_mem hy2) hT.1
      · rcases List.mem_cons.1 hy with ey | hy2
        · exact absurd (by rw [← ey, ← e]; exact List.mem_map_of_mem hx2) hT.1
        · exact ih hT.2 hx2 hy2
  unfold leafS
  cases hf : S.find? (fun x => decide (x.1 = ((o : Int), (n : Int)))) with
  | some x =>
    cases hf' : S'.find? (fun x => decide (x.1 = ((o : Int), (n : Int)))) with
    | some y =>
      have d1 := List.find?_some hf
      have d2 := List.find?_some hf'
      rw [decide_eq_true_eq] at d1 d2
      have := one h' ((hm x).1 (List.mem_of_find?_eq_some hf)) (List.mem_of_find?_eq_some hf') (d1.trans d2.symm)
      rw [this]
    | none => exact absurd (List.find?_some hf) (List.find?_eq_none.1 hf' x ((hm x).1 (List.mem_of_find?_eq_some hf)))
  | none =>
    cases hf' : S'.find? (fun x => decide (x.1 = ((o : Int), (n : Int)))) with
    | some y => exact absurd (List.find?_some hf') (List.find?_eq_none.1 hf y ((hm y).2 (List.mem_of_find?_eq_some hf')))
    | none => rfl
theorem tree_rev {L : List R.Rc} (h : (L.map kyR).Nodup) (o a : Nat) (ha : a < 1365) : treeF (sx L.reverse) o a = treeF (sx L) o a :=
  treeF_same (fun m _ => leaf_mem (by rw [sx_keys, List.map_reverse]; exact List.pairwise_reverse.2 (List.Pairwise.imp (fun hh e => hh e.symm) h)) (by rw [sx_keys]; exact h) (fun x => by simp [sx]) o m) a ha
theorem same_rev (L : List R.Rc) : sameS (sx L) (sx L.reverse) := ⟨by simp [sx], fun x hx => by simpa [sx] using hx⟩
end Go.Proofs.YtchkadifjbmmpaaDoor
namespace Go.Proofs.YtchkadifjbmmpaaDoor
open Go.RowKit Go.Lib Go.Maps
set_option maxRecDepth 100000
set_option linter.unusedSimpArgs false

theorem put1_c (p : Nat) (S : Sb) (own : Nat → Prop) (r : R.Rc) (w : World) (h : Tr w p S own) (hs : r.t.size ≤ 9223372036854775807 ∧ okKy (kyR r)) (hn : S.length ≤ 100000) (hT : ∀ W, Turn own w W → R.Tabs W) :
    Calls Tryd.prog 17 #[.pointer (some ⟨p, 0, none⟩), .slice (some ⟨w.heap.size, 0, none⟩) 1 1] (w.alloc (.cells #[.int .i64 r.o, .int .i64 r.s, .int .i64 r.w, .int .i64 r.c, .string r.t] 36)) fun e w' =>
      ∃ own', e = .returned (.int .i64 (((putS S r).length : Int) - (S.length : Int))) ∧ Tr w' p (putS S r) own' ∧ Turn own w w' ∧ ∀ i, own' i → own i ∨ w.heap.size ≤ i := by
  have bx : R.Bx 36 (w.alloc (.cells #[.int .i64 r.o, .int .i64 r.s, .int .i64 r.w, .int .i64 r.c, .string r.t] 36)) w.heap.size #[.int .i64 r.o, .int .i64 r.s, .int .i64 r.w, .int .i64 r.c, .string r.t] := R.Bx.new _ w _
  have hb := alloc_below w (.cells #[.int .i64 r.o, .int .i64 r.s, .int .i64 r.w, .int .i64 r.c, .string r.t] 36)
  refine (put_c p S own (.slice (some ⟨w.heap.size, 0, none⟩) 1 1) [r] _ (h.below hb) (fun W hW => ?_) (fun x hx => ?_) (by simp) hn (fun W hW => hT W ((Turn.ofBelow hb).trans hW))).mono ?_
  · have hx : R.Bx 36 W w.heap.size #[.int .i64 r.o, .int .i64 r.s, .int .i64 r.w, .int .i64 r.c, .string r.t] := (hW.block _ bx.lt (fun hh => by have := h.up _ hh; omega)).trans bx
    exact R.rl_one W _ r hx
  · simp only [List.mem_singleton] at hx
    subst hx
    exact hs
  · rintro e w' ⟨own', rfl, h1, t1, o1⟩
    exact ⟨own', rfl, h1, (Turn.ofBelow hb).trans t1, fun i hi => (o1 i hi).imp id (fun hh => Nat.le_trans hb.size hh)⟩
theorem rput1_c (q : Nat) (L : List R.Rc) (r : R.Rc) (w : World) (P : Nat → Prop) (hP : ∀ i, w.heap.size ≤ i → P i) (h : RT w q L P) (hs : r.t.size ≤ 9223372036854775807) (hn : L.length ≤ 1000) (hT : ∀ W, w.grownBy W (some q) → R.Tabs W) :
    Calls Tryd.prog 18 #[.pointer (some ⟨q, 0, none⟩), .slice (some ⟨w.heap.size, 0, none⟩) 1 1] (w.alloc (.cells #[.int .i64 r.o, .int .i64 r.s, .int .i64 r.w, .int .i64 r.c, .string r.t] 36)) fun e w' =>
      ∃ n, e = .returned (.int .i64 n) ∧ n = ((refPut L r).length : Int) - (L.length : Int) ∧ RT w' q (refPut L r) P ∧ w.grownBy w' (some q) := by
  have bx : R.Bx 36 (w.alloc (.cells #[.int .i64 r.o, .int .i64 r.s, .int .i64 r.w, .int .i64 r.c, .string r.t] 36)) w.heap.size #[.int .i64 r.o, .int .i64 r.s, .int .i64 r.w, .int .i64 r.c, .string r.t] := R.Bx.new _ w _
  have hb := alloc_below w (.cells #[.int .i64 r.o, .int .i64 r.s, .int .i64 r.w, .int .i64 r.c, .string r.t] 36)
  obtain ⟨v, h1, h2, hp⟩ := h
  have hq := h1.lt
  refine (rput_c q L [r] (some ⟨w.heap.size, 0, none⟩) 1 _ P (fun i hi => hP i (Nat.le_trans hb.size hi)) ⟨v, h1.below hb, h2.below hb, hp⟩ (fun W hW => ?_) (fun x hx => ?_) (by simp) hn (fun W hW => hT W (grown_trans (grown_below hb _) hW))).mono ?_
  · exact R.rl_one W _ r ((hW.block _ bx.lt (fun e => by have := Option.some.inj e; omega)).trans bx)
  · simp only [List.mem_singleton] at hx
    subst hx
    exact hs
  · rintro e w' ⟨rfl, h3, g3⟩
    exact ⟨_, rfl, rfl, h3, grown_trans (grown_below hb _) g3⟩
theorem rdrop1_c (q : Nat) (L : List R.Rc) (o s : Int) (w : World) (P : Nat → Prop) (hP : ∀ i, w.heap.size ≤ i → P i) (h : RT w q L P) (hn : L.length ≤ 1000) :
    Calls Tryd.prog 16 #[.pointer (some ⟨q, 0, none⟩), .slice (some ⟨w.heap.size, 0, none⟩) 1 1] (w.alloc (.cells #[.int .i64 o, .int .i64 s] 32)) fun e w' =>
      ∃ n, e = .returned (.int .i64 n) ∧ n = (L.length : Int) - ((refDrop L (o, s)).length : Int) ∧ RT w' q (refDrop L (o, s)) P ∧ w.grownBy w' (some q) := by
  have bx : R.Bx 32 (w.alloc (.cells #[.int .i64 o, .int .i64 s] 32)) w.heap.size #[.int .i64 o, .int .i64 s] := R.Bx.new _ w _
  have hb := alloc_below w (.cells #[.int .i64 o, .int .i64 s] 32)
  obtain ⟨v, h1, h2, hp⟩ := h
  have hq := h1.lt
  refine (rdrop_c q L [(o, s)] (.slice (some ⟨w.heap.size, 0, none⟩) 1 1) _ P (fun i hi => hP i (Nat.le_trans hb.size hi)) ⟨v, h1.below hb, h2.below hb, hp⟩ (fun W hW => ?_) (by simp) hn).mono ?_
  · have hx : R.Bx 32 W w.heap.size #[.int .i64 o, .int .i64 s] := (hW.block _ bx.lt (fun e => by have := Option.some.inj e; omega)).trans bx
    refine ⟨_, 1, rfl, by simp, fun _ => ⟨w.heap.size, 0, rfl, fun k hk => ?_⟩⟩
    have hk1 : k < 1 := hk
    match k, hk1 with
    | 0, _ => exact ⟨hx.cell 0, hx.cell 1⟩
  · rintro e w' ⟨rfl, h3, g3⟩
    exact ⟨_, rfl, rfl, h3, grown_trans (grown_below hb _) g3⟩
end Go.Proofs.YtchkadifjbmmpaaDoor
namespace Go.Proofs.YtchkadifjbmmpaaDoor
open Go.RowKit Go.Lib Go.Maps
set_option maxRecDepth 100000
set_option linter.unusedSimpArgs false

structure A3 (w wr : World) (p u q : Nat) (ot ou : Nat → Prop) (S V : Sb) (L : List R.Rc) : Prop where
  t : Tr wr p S ot
  v : Tr wr u V ou
  r : RT wr q L (fun g => ¬ (ot g ∨ ou g))
  nq : ¬ (ot q ∨ ou q)
  d : ∀ j, ot j → ou j → False
  b : Below w.heap.size w wr
  lt : ∀ j, ot j → w.heap.size ≤ j
  lu : ∀ j, ou j → w.heap.size ≤ j
  lq : w.heap.size ≤ q
theorem A3.below {w wr w' : World} {p u q : Nat} {ot ou : Nat → Prop} {S V : Sb} {L : List R.Rc} (h : A3 w wr p u q ot ou S V L) (hb : Below wr.heap.size wr w') : A3 w w' p u q ot ou S V L := by
  obtain ⟨x, h1, h2, h3⟩ := h.r
  exact ⟨h.t.below hb, h.v.below hb, ⟨x, h1.below hb, h2.below hb, h3⟩, h.nq, h.d, bn h.b hb, h.lt, h.lu, h.lq⟩
theorem A3.turnT {w wr w' : World} {p u q : Nat} {ot ou ot' : Nat → Prop} {S S' V : Sb} {L : List R.Rc} (h : A3 w wr p u q ot ou S V L) (ht : Tr w' p S' ot') (t4 : Turn ot wr w') (o4 : ∀ j, ot' j → ot j ∨ wr.heap.size ≤ j) : A3 w w' p u q ot' ou S' V L := by
  obtain ⟨x, h1, h2, h3⟩ := h.r
  refine ⟨ht, h.v.keep t4.size (fun i hi => t4.block i (h.v.up i hi) (fun ho => h.d i ho hi)), ⟨x, (t4.block q h1.lt (fun ho => h.nq (.inl ho))).trans h1, ownsRow_of_block h2 (fun g hg => t4.block g (World.ownsRow.lt h2 g hg).2 (fun ho => h3 g hg (.inl ho))), fun g hg hh => ?_⟩, fun hh => ?_, fun j h5 h6 => ?_, h.b.trans (t4.below h.b.size h.lt), fun j hj => (o4 j hj).elim (h.lt j) (fun h5 => Nat.le_trans h.b.size h5), h.lu, h.lq⟩
  · have hl := (World.ownsRow.lt h2 g hg).2
    rcases hh with hh | hh
    · rcases o4 g hh with h5 | h5
      · exact h3 g hg (.inl h5)
      · omega
    · exact h3 g hg (.inr hh)
  · have hl := h1.lt
    rcases hh with hh | hh
    · rcases o4 q hh with h5 | h5
      · exact h.nq (.inl h5)
      · omega
    · exact h.nq (.inr hh)
  · rcases o4 j h5 with h7 | h7
    · exact h.d j h7 h6
    · have := h.v.up j h6
      omega
theorem A3.turnU {w wr w' : World} {p u q : Nat} {ot ou ou' : Nat → Prop} {S V V' : Sb} {L : List R.Rc} (h : A3 w wr p u q ot ou S V L) (ht : Tr w' u V' ou') (t4 : Turn ou wr w') (o4 : ∀ j, ou' j → ou j ∨ wr.heap.size ≤ j) : A3 w w' p u q ot ou' S V' L := by
  obtain ⟨x, h1, h2, h3⟩ := h.r
  refine ⟨h.t.keep t4.size (fun i hi => t4.block i (h.t.up i hi) (fun ho => h.d i hi ho)), ht, ⟨x, (t4.block q h1.lt (fun ho => h.nq (.inr ho))).trans h1, ownsRow_of_block h2 (fun g hg => t4.block g (World.ownsRow.lt h2 g hg).2 (fun ho => h3 g hg (.inr ho))), fun g hg hh => ?_⟩, fun hh => ?_, fun j h5 h6 => ?_, h.b.trans (t4.below h.b.size h.lu), h.lt, fun j hj => (o4 j hj).elim (h.lu j) (fun h5 => Nat.le_trans h.b.size h5), h.lq⟩
  · have hl := (World.ownsRow.lt h2 g hg).2
    rcases hh with hh | hh
    · exact h3 g hg (.inl hh)
    · rcases o4 g hh with h5 | h5
      · exact h3 g hg (.inr h5)
      · omega
  · have hl := h1.lt
    rcases hh with hh | hh
    · exact h.nq (.inl hh)
    · rcases o4 q hh with h5 | h5
      · exact h.nq (.inr h5)
      · omega
  · rcases o4 j h6 with h7 | h7
    · exact h.d j h5 h7
    · have := h.t.up j h5
      omega
theorem A3.turnR {w wr w' : World} {p u q : Nat} {ot ou : Nat → Prop} {S V : Sb} {L L' : List R.Rc} (h : A3 w wr p u q ot ou S V L) (hr : RT w' q L' (fun g => ¬ (ot g ∨ ou g))) (g4 : wr.grownBy w' (some q)) : A3 w w' p u q ot ou S V L' :=
  ⟨h.t.keep g4.size (fun i hi => g4.block i (h.t.up i hi) (fun e => h.nq (.inl (Option.some.inj e ▸ hi)))), h.v.keep g4.size (fun i hi => g4.block i (h.v.up i hi) (fun e => h.nq (.inr (Option.some.inj e ▸ hi)))), hr, h.nq, h.d, h.b.trans (D.below_of_grown g4 h.b.size (fun _ e => Option.some.inj e ▸ h.lq)), h.lt, h.lu, h.lq⟩
/-- New blocks are nobody's. -/
theorem A3.fresh {w wr : World} {p u q : Nat} {ot ou : Nat → Prop} {S V : Sb} {L : List R.Rc} (h : A3 w wr p u q ot ou S V L) : ∀ i, wr.heap.size ≤ i → ¬ (ot i ∨ ou i) := fun i hi hh => hh.elim (fun h1 => by have := h.t.up i h1; omega) (fun h1 => by have := h.v.up i h1; omega)
end Go.Proofs.YtchkadifjbmmpaaDoor
namespace Go.Proofs.YtchkadifjbmmpaaDoor
open Go.RowKit Go.Lib Go.Maps
set_option maxRecDepth 100000
set_option linter.unusedSimpArgs false

/-- Does a record stand in a range whose level has numbers this many? -/
def stR (o : Int) (n : Nat) (i : Int) (r : R.Rc) : Bool := r.o == o && (r.s.tdiv (n : Int)) == i
def someB (L : List R.Rc) (o : Int) (n : Nat) (i : Int) : Bool := L.any (stR o n i)
theorem may_key {r : R.Rc} (h : R.mayR r = true) : 0 ≤ r.o ∧ r.o < 8 ∧ 0 ≤ r.s ∧ r.s < 1024 := by
  simp only [R.mayR, R.keyB, Bool.and_eq_true, decide_eq_true_eq] at h
  omega
theorem mayr_ok {r : R.Rc} (h : R.mayR r = true) : r.t.size ≤ 9223372036854775807 ∧ okKy (kyR r) := by
  obtain ⟨h1, h2, _, _, h5⟩ := R.mayR_bounds h
  refine ⟨by omega, ⟨?_, ?_⟩, ⟨?_, ?_⟩⟩
  all_goals
    simp only [kyR]
    omega
theorem wd_pos : ∀ k, 0 < wd k
  | 0 => by decide
  | k + 1 => by have := wd_pos k; show 0 < 4 * wd k; omega
theorem pl_five {lv : Nat} (h : lv < 5) : pl lv + wd lv ≤ 341 := by
  have : ∀ k, k < 5 → pl k + wd k ≤ 341 := by decide
  exact this lv h
/-- A part of a range lies in it. -/
theorem stR_up {o : Int} {d i j : Nat} {r : R.Rc} (h0 : 0 ≤ r.s) (hj : j < 4) (h : stR o (wd d) ((4 * i + j : Nat) : Int) r = true) : stR o (wd (d + 1)) (i : Int) r = true := by
  unfold stR at h ⊢
  simp only [Bool.and_eq_true, beq_iff_eq] at h ⊢
  refine ⟨h.1, ?_⟩
  obtain ⟨n, hn⟩ := Int.eq_ofNat_of_zero_le h0
  have h2 := h.2
  rw [hn, ← Int.ofNat_tdiv] at h2 ⊢
  have h3 : n / wd d = 4 * i + j := by exact_mod_cast h2
  have h4 : n / wd (d + 1) = i := by
    show n / (4 * wd d) = i
    rw [Nat.mul_comm, ← Nat.div_div_eq_div_mul, h3]
    omega
  exact_mod_cast h4
theorem treeF_none {L : List R.Rc} (hm : ∀ r ∈ L, R.mayR r = true) (o : Nat) : ∀ (d lv i : Nat), lv + d = 5 → i < wd lv → (∀ r ∈ L, stR (o : Int) (wd d) (i : Int) r = false) → treeF (sx L) o (pl lv + i) = 0
  | 0, lv, i, he, hi, h => by
    obtain rfl : lv = 5 := by omega
    rw [show pl 5 + i = 341 + i from rfl, treeF_leaf]
    unfold leafS
    have : (sx L).find? (fun x => decide (x.1 = ((o : Int), (i : Int)))) = none := by
      rw [List.find?_eq_none]
      intro x hx hd
      rw [decide_eq_true_eq] at hd
      unfold sx at hx
      obtain ⟨r, hr, rfl⟩ := List.mem_map.1 hx
      have h1 := h r hr
      unfold kyR at hd
      simp only [Prod.mk.injEq] at hd
      unfold stR at h1
      rw [show wd 0 = 1 from rfl, hd.1, hd.2] at h1
      simp at h1
    rw [this]
  | d + 1, lv, i, he, hi, h => by
    have h5 := pl_five (show lv < 5 by omega)
    have hc := treeF_cons (sx L) o (pl lv + i) (by omega)
    unfold Cons at hc
    have hw : wd (lv + 1) = 4 * wd lv := rfl
    have hp : pl (lv + 1) = 4 * pl lv + 1 := rfl
    have z : ∀ j, j < 4 → treeF (sx L) o (4 * (pl lv + i) + (j + 1)) = 0 := fun j hj => by
      have := treeF_none hm o d (lv + 1) (4 * i + j) (by omega) (by omega) (fun r hr => by
        cases hh : stR (o : Int) (wd d) ((4 * i + j : Nat) : Int) r with
        | false => rfl
        | true =>
          have := stR_up (may_key (hm r hr)).2.2.1 hj hh
          rw [h r hr] at this
          cases this)
      rw [show 4 * (pl lv + i) + (j + 1) = pl (lv + 1) + (4 * i + j) by omega]
      exact this
    rw [hc, z 0 (by omega), z 1 (by omega), z 2 (by omega), z 3 (by omega)]
    rfl
theorem some_no {L : List R.Rc} {o : Int} {n : Nat} {i : Int} (h : someB L o n i = false) : ∀ r ∈ L, stR o n i r = false := by
  unfold someB at h
  rw [List.any_eq_false] at h
  intro r hr
  simpa using h r hr
/-- At level 5 a range is a number: its digest is that of the record that stands there. -/
theorem leaf_at {L : List R.Rc} {o i k : Nat} (hk : k < L.length) (h : kyR L[k] = ((o : Int), (i : Int))) (hf : ∀ j, j < k → ∀ h : j < L.length, kyR L[j] ≠ ((o : Int), (i : Int))) : leafS (sx L) o i = D.fnv 14695981039346656037 (R.layL L[k]) := by
  have : (sx L).find? (fun x => decide (x.1 = ((o : Int), (i : Int)))) = some (kyR L[k], R.layL L[k]) := by
    rw [List.find?_eq_some_iff_getElem]
    refine ⟨by simpa using h, k, by rw [sx_len]; exact hk, by simp [sx], fun j hj => ?_⟩
    have := hf j hj (by omega)
    simpa [sx] using this
  unfold leafS
  rw [this]
theorem some_yes {L : List R.Rc} {o i : Nat} (h : someB L (o : Int) (wd 0) (i : Int) = true) : ∃ r ∈ L, kyR r = ((o : Int), (i : Int)) := by
  unfold someB at h
  rw [List.any_eq_true] at h
  obtain ⟨r, hr, h⟩ := h
  refine ⟨r, hr, ?_⟩
  unfold stR at h
  simp only [show wd 0 = 1 from rfl, Bool.and_eq_true, beq_iff_eq] at h
  unfold kyR
  rw [h.1]
  have := h.2
  simp at this
  rw [this]
theorem first_at : ∀ {L : List R.Rc} {k : Ky}, (∃ r ∈ L, kyR r = k) → ∃ i, ∃ h : i < L.length, kyR L[i] = k ∧ ∀ j, j < i → ∀ h : j < L.length, kyR L[j] ≠ k
  | [], _, h => by obtain ⟨r, hr, _⟩ := h; cases hr
  | a :: L, k, h => by
    by_cases ha : kyR a = k
    · exact ⟨0, by simp, ha, fun j hj => by omega⟩
    · have h2 : ∃ r ∈ L, kyR r = k := by
        obtain ⟨r, hr, hk⟩ := h
        rcases List.mem_cons.1 hr with rfl | hr
        · exact absurd hk ha
        · exact ⟨r, hr, hk⟩
      obtain ⟨i, hi, h3, h4⟩ := first_at h2
      refine ⟨i + 1, by simpa using hi, h3, fun j hj hjl => ?_⟩
      match j with
      | 0 => exact ha
      | j + 1 => exact h4 j (by omega) (by simpa using hjl)
theorem find_at {L : List R.Rc} {k : Ky} {n : Int} {i : Nat} (hi : i < L.length) (h1 : kyR L[i] = k) (h2 : ∀ j, j < i → ∀ h : j < L.length, kyR L[j] ≠ k) (h : FindS L k n) : n = (i : Int) := by
  rcases h with ⟨_, h⟩ | ⟨m, hm, rfl, h3, h4⟩
  · exact absurd h1 (h _ (List.getElem_mem hi))
  · have : m = i := by
      rcases Nat.lt_trichotomy m i with h5 | h5 | h5
      · exact absurd h3 (h2 m h5 hm)
      · exact h5
      · exact absurd h1 (h4 i h5 hi)
    rw [this]
/-- The digests of a range's first parts. -/
def partsF (S : Sb) (o lv i k : Nat) : List Int := (List.range k).map fun j => treeF S o (pl (lv + 1) + (4 * i + j))
theorem partsF_len (S : Sb) (o lv i k : Nat) : (partsF S o lv i k).length = k := by simp [partsF]
theorem partsF_next (S : Sb) (o lv i k : Nat) : partsF S o lv i (k + 1) = partsF S o lv i k ++ [treeF S o (pl (lv + 1) + (4 * i + k))] := by simp [partsF, List.range_succ]
theorem partsF_all {S : Sb} {o lv i : Nat} (hL : lv < 5) (hi : i < wd lv) : D.allD (partsF S o lv i 4) = treeF S o (pl lv + i) := by
  have h5 := pl_five hL
  have hc := treeF_cons S o (pl lv + i) (by omega)
  unfold Cons at hc
  have hp : pl (lv + 1) = 4 * pl lv + 1 := rfl
  rw [hc]
  have hr : partsF S o lv i 4 = [treeF S o (pl (lv + 1) + (4 * i + 0)), treeF S o (pl (lv + 1) + (4 * i + 1)), treeF S o (pl (lv + 1) + (4 * i + 2)), treeF S o (pl (lv + 1) + (4 * i + 3))] := rfl
  rw [hr, show pl (lv + 1) + (4 * i + 0) = 4 * (pl lv + i) + 1 by omega, show pl (lv + 1) + (4 * i + 1) = 4 * (pl lv + i) + 2 by omega, show pl (lv + 1) + (4 * i + 2) = 4 * (pl lv + i) + 3 by omega, show pl (lv + 1) + (4 * i + 3) = 4 * (pl lv + i) + 4 by omega]
end Go.Proofs.YtchkadifjbmmpaaDoor
namespace Go.Proofs.YtchkadifjbmmpaaDoor
open Go.RowKit Go.Lib Go.Maps
set_option maxRecDepth 100000
set_option linter.unusedSimpArgs false

theorem wd_le : ∀ k, k < 6 → wd k ≤ 1024 := by decide
set_option maxHeartbeats 4000000 in
theorem span_c (lv : Nat) (hL : lv ≤ 5) (w : World) : Calls Tryd.prog 69 #[.int .i64 (lv : Int)] w fun e w' => e = .returned (.int .i64 ((wd (5 - lv) : Nat) : Int)) ∧ w' = w := by
  go_enter Tryd.func69, Tryd.ntmps69
  go_wp2_with fail
  go_loopw [3, 4] (fun v3 v4 wr => ∃ k : Nat, k ≤ 5 - lv ∧ v3 = .int .i64 ((wd k : Nat) : Int) ∧ v4 = .int .i64 ((lv + k : Nat) : Int) ∧ wr = w) (fun _ v4 _ => 5 - (RowKit.intOf v4).toNat)
  case atStart => exact ⟨0, by omega, rfl, rfl, rfl⟩
  case round =>
    obtain ⟨k, hk, rfl, rfl, rfl⟩ := hrel
    by_cases hp : k < 5 - lv
    · have HP := Lib.hid hp
      have HE : Hid (wd (k + 1) = 4 * wd k) := Lib.hid rfl
      have h1 := wd_le k (by omega)
      have e1 : ((lv + k : Nat) : Int) < 5 := by omega
      generalize hz : wd k = z at *
      clear hz hp
      go_wp2_with fail
      go_roundw
      case rel => exact ⟨k + 1, HP.out, by rw [HE.out]; go_num, by go_num, trivial⟩
      case measure => have := HP.out; simp [RowKit.intOf]; omega
    · obtain rfl : k = 5 - lv := by omega
      have e1 : ¬ ((lv + (5 - lv) : Nat) : Int) < 5 := by omega
      go_wp2_with fail
      go_ret
      exact ⟨rfl, rfl⟩
theorem wd_quo {L : Nat} (h : L ≤ 5) : wd 5 / wd (5 - L) = wd L := by
  have : ∀ L, L < 6 → wd 5 / wd (5 - L) = wd L := by decide
  exact this L (by omega)
set_option maxHeartbeats 8000000 in
theorem there_c (o L i : Int) (w : World) : Calls Tryd.prog 49 #[.int .i64 o, .int .i64 L, .int .i64 i] w fun e w' => e = .returned (.bool (sumB o L i)) ∧ w' = w := by
  by_cases e1 : o < 0
  · have hB : sumB o L i = false := by unfold sumB; rw [decide_eq_false_iff_not]; omega
    rw [hB]
    clear hB
    go_enter Tryd.func49, Tryd.ntmps49
    go_wp2_with fail
    go_ret
    exact ⟨rfl, rfl⟩
  · by_cases e2 : 8 ≤ o
    · have hB : sumB o L i = false := by unfold sumB; rw [decide_eq_false_iff_not]; omega
      rw [hB]
      clear hB
      go_enter Tryd.func49, Tryd.ntmps49
      go_wp2_with fail
      go_ret
      exact ⟨rfl, rfl⟩
    · by_cases e3 : L < 0
      · have hB : sumB o L i = false := by unfold sumB; rw [decide_eq_false_iff_not]; omega
        rw [hB]
        clear hB
        go_enter Tryd.func49, Tryd.ntmps49
        go_wp2_with fail
        go_ret
        exact ⟨rfl, rfl⟩
      · by_cases e4 : 5 < L
        · have hB : sumB o L i = false := by unfold sumB; rw [decide_eq_false_iff_not]; omega
          rw [hB]
          clear hB
          go_enter Tryd.func49, Tryd.ntmps49
          go_wp2_with fail
          go_ret
          exact ⟨rfl, rfl⟩
        · by_cases e5 : i < 0
          · have hB : sumB o L i = false := by unfold sumB; rw [decide_eq_false_iff_not]; omega
            rw [hB]
            clear hB
            go_enter Tryd.func49, Tryd.ntmps49
            go_wp2_with fail
            go_ret
            exact ⟨rfl, rfl⟩
          · obtain ⟨Ln, rfl⟩ := Int.eq_ofNat_of_zero_le (show (0 : Int) ≤ L by omega)
            have hB : sumB o (Ln : Int) i = decide (i < ((wd Ln : Nat) : Int)) := by
              unfold sumB
              rw [(wd_pl Ln (by omega)).1]
              rw [decide_eq_decide]
              omega
            rw [hB]
            have S0 := Lib.hid (span_c 0 (by omega) w)
            have S1 := Lib.hid (span_c Ln (by omega) w)
            have hq := wd_quo (show Ln ≤ 5 by omega)
            have h0 := wd_pos (5 - Ln)
            have h1 := wd_le (5 - Ln) (by omega)
            have h2 : wd (5 - 0) = 1024 := rfl
            rw [show wd 5 = 1024 from rfl] at hq
            rw [h2] at S0
            have hqi : (1024 : Int).tdiv ((wd (5 - Ln) : Nat) : Int) = ((wd Ln : Nat) : Int) := by rw [← hq]; rfl
            have h3 : ((wd (5 - Ln) : Nat) : Int) ≠ 0 := by omega
            have h4 := wd_le Ln (by omega)
            have h5 := wd_pos Ln
            generalize wd (5 - Ln) = z at *
            generalize wd Ln = y at *
            clear hB hq h2
            go_enter Tryd.func49, Tryd.ntmps49
            go_wp2_with fail
            refine S0.out.mono ?_
            rintro e w1 ⟨rfl, rfl⟩
            go_wp2_with fail
            refine S1.out.mono ?_
            rintro e w1 ⟨rfl, rfl⟩
            go_wp2_with fail
            go_ret
            exact ⟨rfl, rfl⟩
set_option maxHeartbeats 16000000 in
theorem some_c (q : Nat) (L : List R.Rc) (ad : Option Addr) (cap : Nat) (o i : Int) (lv : Nat) (hlv : lv ≤ 5) (w : World) (hb : R.Bx 30 w q #[.slice ad L.length cap]) (h : R.Rl w (.slice ad L.length cap) L) (hl : L.length ≤ 1000) (hm : ∀ r ∈ L, R.mayR r = true) :
    Calls Tryd.prog 70 #[.pointer (some ⟨q, 0, none⟩), .int .i64 o, .int .i64 (lv : Int), .int .i64 i] w fun e w' => e = .returned (.bool (someB L o (wd (5 - lv)) i)) ∧ Below w.heap.size w w' := by
  have mixed : Tryd.prog.follows .mixedOrders = true := by kernel_rfl
  have SP := Lib.hid (span_c lv hlv w)
  have hn0 := wd_pos (5 - lv)
  have hn1 := wd_le (5 - lv) (by omega)
  have HRL := Lib.hid h
  have HB := Lib.hid hb
  have HM := Lib.hid hm
  have S0 : Hid (Below w.heap.size w w) := Lib.hid (Below.refl _ _)
  generalize wd (5 - lv) = n at *
  have N0 : Hid (someB (L.drop 0) o n i = someB L o n i) := Lib.hid rfl
  clear h hb hm
  go_enter Tryd.func70, Tryd.ntmps70
  go_wp2_with fail
  refine SP.out.mono ?_
  rintro e w1 ⟨rfl, rfl⟩
  clear SP
  go_wp2_with fail
  go_loopw [10] (fun v10 wr => ∃ k : Nat, k ≤ L.length ∧ v10 = .int .i64 (k : Int) ∧ Hid (someB (L.drop k) o n i = someB L o n i) ∧ Hid (Below w1.heap.size w1 wr)) (fun v10 _ => L.length - (RowKit.intOf v10).toNat)
  case atStart => exact ⟨0, by omega, rfl, N0, S0⟩
  case round =>
    obtain ⟨k, hk, rfl, NI, HN⟩ := hrel
    clear N0 S0
    have q0 := (HB.out.below HN.out).cell 0
    simp only [List.getElem?_toArray, List.getElem?_cons_zero] at q0
    have hlq := World.block_lt_of_cell? _ _ q0
    by_cases hp : k < L.length
    · have HP := Lib.hid hp
      obtain ⟨ad2, cap2, e, _, hc⟩ := (HRL.out.below HN.out).form
      simp only [Value.slice.injEq, true_and] at e
      obtain ⟨rfl, rfl⟩ := e
      obtain ⟨g, b, rfl, hrc⟩ := hc (by omega)
      obtain ⟨x0, x1, _, _, _⟩ := hrc k hp
      have hgl := World.block_lt_of_cell? _ _ x0
      have hd := List.drop_eq_getElem_cons hp
      have hs := NI.out
      rw [hd] at hs
      have hk2 := may_key (HM.out _ (List.getElem_mem hp))
      clear hc hrc hd NI
      have ho : (L[k].o == o && (L[k].s.tdiv (n : Int)) == i || someB (L.drop (k + 1)) o n i) = someB L o n i := hs
      clear hs
      generalize L[k].o = xo at *
      generalize L[k].s = xs at *
      have hq : (xs.tdiv (n : Int)) = ((xs.toNat / n : Nat) : Int) := by
        obtain ⟨m, hm⟩ := Int.eq_ofNat_of_zero_le hk2.2.2.1
        rw [hm]
        rfl
      have hq2 : xs.toNat / n ≤ 1024 := Nat.le_trans (Nat.div_le_self _ _) (by omega)
      have hn : (n : Int) ≠ 0 := by omega
      have hb : 0 ≤ xs.tdiv (n : Int) ∧ xs.tdiv (n : Int) ≤ 1024 := by
        rw [hq]
        generalize xs.toNat / n = y at *
        omega
      have hw : IntKind.i64.wrap (xs.tdiv (n : Int)) = xs.tdiv (n : Int) := by rw [IntKind.wrap_i64]; omega
      generalize hz : xs.tdiv (n : Int) = z at *
      have HO := Lib.hid ho
      clear ho hq hq2 hb
      by_cases h1 : xo = o
      · subst h1
        by_cases h2 : z = i
        · subst h2
          have HR : Hid (someB L xo n z = true) := Lib.hid (by rw [← HO.out]; simp)
          go_wp2_with fail
          go_ret
          exact ⟨by rw [HR.out]; rfl, HN.out⟩
        · have hb2 : (z == i) = false := by simpa using h2
          have HR : Hid (someB (L.drop (k + 1)) xo n i = someB L xo n i) := Lib.hid (by rw [← HO.out, hb2]; simp)
          clear HO h2
          go_wp2_with fail
          go_roundw
          case rel => exact ⟨k + 1, HP.out, by go_num, HR, HN⟩
          case measure => have := HP.out; simp [RowKit.intOf]; omega
      · have hb2 : (xo == o) = false := by simpa using h1
        have HR : Hid (someB (L.drop (k + 1)) o n i = someB L o n i) := Lib.hid (by rw [← HO.out, hb2]; simp)
        clear HO h1
        go_wp2_with fail
        go_roundw
        case rel => exact ⟨k + 1, HP.out, by go_num, HR, HN⟩
        case measure => have := HP.out; simp [RowKit.intOf]; omega
    · have hil : k = L.length := by omega
      subst hil
      have HR : Hid (someB L o n i = false) := Lib.hid (by rw [← NI.out, List.drop_length]; rfl)
      go_wp2_with fail
      go_ret
      exact ⟨by rw [HR.out]; rfl, HN.out⟩
end Go.Proofs.YtchkadifjbmmpaaDoor
namespace Go.Proofs.YtchkadifjbmmpaaDoor
open Go.RowKit Go.Lib Go.Maps
set_option maxRecDepth 100000
set_option linter.unusedSimpArgs false

set_option maxHeartbeats 16000000 in
theorem refsum_c (q : Nat) (L : List R.Rc) (ad : Option Addr) (cap : Nat) (o : Nat) (hm : ∀ r ∈ L, R.mayR r = true) (hl : L.length ≤ 1000) : ∀ (d lv i : Nat) (w : World), lv + d = 5 → i < wd lv → R.Bx 30 w q #[.slice ad L.length cap] → R.Rl w (.slice ad L.length cap) L → R.Tabs w →
    Calls Tryd.prog 50 #[.pointer (some ⟨q, 0, none⟩), .int .i64 (o : Int), .int .i64 (lv : Int), .int .i64 (i : Int)] w fun e w' => e = .returned (.int .u64 (treeF (sx L) o (pl lv + i))) ∧ Below w.heap.size w w'
  | d, lv, i, w, he, hi, hb, h, hT => by
    have mixed : Tryd.prog.follows .mixedOrders = true := by kernel_rfl
    have CS := Lib.hid (some_c q L ad cap (o : Int) (i : Int) lv (by omega) w hb h hl hm)
    cases hs : someB L (o : Int) (wd (5 - lv)) (i : Int) with
    | false =>
      have hz := treeF_none hm o d lv i he hi (fun r hr => by
        have := some_no hs r hr
        rwa [show 5 - lv = d by omega] at this)
      rw [hs] at CS
      rw [hz]
      clear hz hs h hb hT
      go_enter Tryd.func50, Tryd.ntmps50
      go_wp2_with fail
      refine CS.out.mono ?_
      rintro e w1 ⟨rfl, b1⟩
      go_wp2_with fail
      go_ret
      exact ⟨rfl, b1⟩
    | true =>
      rw [hs] at CS
      have HRL := Lib.hid h
      have HB := Lib.hid hb
      have HT := Lib.hid hT
      have HM := Lib.hid hm
      match d, he with
      | 0, he =>
        obtain rfl : lv = 5 := by omega
        rw [show pl 5 + i = 341 + i from rfl, treeF_leaf]
        obtain ⟨k, hk, hk1, hk2⟩ := first_at (some_yes hs)
        have hlf := leaf_at (L := L) (o := o) (i := i) (k := k) hk hk1 hk2
        have HFA := Lib.hid (fun n h => find_at (n := n) hk hk1 hk2 h)
        have hmk := hm _ (List.getElem_mem hk)
        have hsz := (mayr_ok hmk).1
        obtain ⟨ad2, cap2, e, _, hc⟩ := h.form
        simp only [Value.slice.injEq, true_and] at e
        obtain ⟨rfl, rfl⟩ := e
        obtain ⟨g, b, rfl, hrc⟩ := hc (by omega)
        obtain ⟨x0, x1, x2, x3, x4⟩ := hrc k hk
        rw [hlf]
        clear hlf hrc hc hk1 hk2 hs h hb hT hi he
        have HK := Lib.hid hk
        have hl0 : 0 < L.length := by omega
        generalize L[k] = r at *
        have hlen : (R.layL r).length ≤ 1000 := by rw [R.layL_len]; have := R.mayR_size hmk; omega
        have HMK := Lib.hid hmk
        have HLEN := Lib.hid hlen
        have HSX : Hid (∀ W, Below w.heap.size w W → W.cell? ⟨q, 0, none⟩ = some (.slice (some ⟨g, b, none⟩) L.length cap) ∧ W.cell? ⟨g, b + k * 5, none⟩ = some (.int .i64 r.o) ∧ W.cell? ⟨g, b + k * 5 + 1, none⟩ = some (.int .i64 r.s) ∧ W.cell? ⟨g, b + k * 5 + 2, none⟩ = some (.int .i64 r.w) ∧ W.cell? ⟨g, b + k * 5 + 3, none⟩ = some (.int .i64 r.c) ∧ W.cell? ⟨g, b + k * 5 + 4, none⟩ = some (.string r.t)) := Lib.hid (fun W hW => by
          have q0 := (HB.out.below hW).cell 0
          simp only [List.getElem?_toArray, List.getElem?_cons_zero] at q0
          exact ⟨q0, (hW.cell (World.block_lt_of_cell? _ _ x0)).trans x0, (hW.cell (World.block_lt_of_cell? _ _ x1)).trans x1, (hW.cell (World.block_lt_of_cell? _ _ x2)).trans x2, (hW.cell (World.block_lt_of_cell? _ _ x3)).trans x3, (hW.cell (World.block_lt_of_cell? _ _ x4)).trans x4⟩)
        clear x0 x1 x2 x3 x4
        have HF : Hid (∀ W, Below w.heap.size w W → Calls Tryd.prog 37 #[.pointer (some ⟨q, 0, none⟩), .agg #[.int .i64 (o : Int), .int .i64 (i : Int)]] W fun e w' => e = .returned (.int .i64 (k : Int)) ∧ Below W.heap.size W w') := Lib.hid (fun W hW => (find_c q L (some ⟨g, b, none⟩) cap (o : Int) (i : Int) W (HB.out.below hW) (HRL.out.below hW) (by unfold maxLen; omega)).mono (by
          rintro e w' ⟨n, rfl, h1, h2⟩
          rw [HFA.out n h1]
          exact ⟨rfl, h2⟩))
        have HLY : Hid (∀ W, Below w.heap.size w W → Calls Tryd.prog 29 #[.agg #[.int .i64 r.o, .int .i64 r.s, .int .i64 r.w, .int .i64 r.c, .string r.t]] W fun e w' => ∃ v, e = .returned (.tuple #[v, .int .i64 0]) ∧ R.BRow w' W.heap.size v (R.layL r) ∧ Below W.heap.size W w') := Lib.hid (fun W hW => (R.reflay_c r W hsz (HT.out.below hW)).mono (by
          rintro e w' ⟨v, rfl, h1, h2⟩
          rw [HMK.out, if_pos rfl] at h1
          rw [HMK.out, if_pos rfl]
          exact ⟨v, rfl, h1, h2⟩))
        clear hm HM hmk hlen hk HMK hsz
        go_enter Tryd.func50, Tryd.ntmps50
        go_wp2_with fail
        refine CS.out.mono ?_
        rintro e w1 ⟨rfl, b1⟩
        clear CS
        obtain ⟨q0, x0, x1, x2, x3, x4⟩ := HSX.out w1 b1
        have hkl : (k : Int) < (L.length : Int) := by have := HK.out; omega
        have hql := World.block_lt_of_cell? _ _ q0
        have hgl := World.block_lt_of_cell? _ _ x0
        have b1d : Below w.heap.size w w1.drew := b1.drew
        go_wp2_with fail
        go_region_held3 (fun W => W.cell? ⟨q, 0, none⟩ = some (.slice (some ⟨g, b, none⟩) L.length cap) ∧ W.cell? ⟨g, b + k * 5, none⟩ = some (.int .i64 r.o) ∧ W.cell? ⟨g, b + k * 5 + 1, none⟩ = some (.int .i64 r.s) ∧ W.cell? ⟨g, b + k * 5 + 2, none⟩ = some (.int .i64 r.w) ∧ W.cell? ⟨g, b + k * 5 + 3, none⟩ = some (.int .i64 r.c) ∧ W.cell? ⟨g, b + k * 5 + 4, none⟩ = some (.string r.t)) (exact HSX.out _ (by first | assumption))
          (first
          | (go_at_call 37; refine (HF.out _ (by first | assumption)).mono ?_; rintro e w2 ⟨rfl, b2⟩; have b2' : Below w.heap.size w w2 := bn (by first | assumption) b2; clear b2)
          | (go_at_call 29; refine (HLY.out _ (by first | assumption)).mono ?_; rintro e w3 ⟨v3, rfl, r3, b3⟩; have b3' : Below w.heap.size w w3 := bn (by first | assumption) b3; clear b3; have R3 := Lib.hid r3; clear r3)
          | fail)
        go_wp2_with fail
        refine (D.one_c (R.layL r) v3 w3 (bl_of_row R3.out) (by have := HLEN.out; omega)).mono ?_
        rintro e w4 ⟨rfl, b4⟩
        have B4 := Lib.hid (bn b3' b4)
        clear b4
        go_wp2_with fail
        go_ret
        exact ⟨rfl, B4.out⟩
      | d + 1, he =>
        have HIH := Lib.hid (fun i w => refsum_c q L ad cap o hm hl d (lv + 1) i w (by omega))
        have HALL := Lib.hid (partsF_all (S := sx L) (o := o) (show lv < 5 by omega) hi)
        have hw : wd (lv + 1) = 4 * wd lv := rfl
        have hi2 := wd_le lv (by omega)
        have e5 : ((lv : Int) == 5) = false := by simpa using (show ¬ (lv : Int) = 5 by omega)
        have R0 : Hid (∀ w1 : World, DRow w1 w1.heap.size (.slice none 0 0) (partsF (sx L) o lv i 0)) := Lib.hid (fun w1 => World.ownsRow_nil _ _ _ _)
        have HI4 : Hid (∀ j, j < 4 → 4 * i + j < wd (lv + 1)) := Lib.hid (fun j hj => by omega)
        have hlv : lv < 5 := by omega
        rw [← HALL.out]
        generalize hALLe : D.allD (partsF (sx L) o lv i 4) = whole at *
        have HWE := Lib.hid hALLe
        clear hALLe HALL hw
        clear hs h hb hT he hm
        go_enter Tryd.func50, Tryd.ntmps50
        go_wp2_with fail
        refine CS.out.mono ?_
        rintro e w1 ⟨rfl, b1⟩
        have B1 := Lib.hid b1
        have R1 := Lib.hid (R0.out w1)
        have W1 : Hid (Below w1.heap.size w1 w1) := Lib.hid (Below.refl _ _)
        clear b1 CS R0
        go_wp2_with fail
        go_loopw [11, 12] (fun v11 v12 wr => ∃ (j : Nat), j ≤ 4 ∧ v12 = .int .i64 (j : Int) ∧ Hid (DRow wr w1.heap.size v11 (partsF (sx L) o lv i j)) ∧ Hid (Below w1.heap.size w1 wr)) (fun _ v12 _ => 4 - (RowKit.intOf v12).toNat)
        case atStart => exact ⟨0, by omega, rfl, R1, W1⟩
        case round =>
          obtain ⟨j, hj, rfl, RK, BK⟩ := hrel
          clear R1 W1
          by_cases hp2 : j < 4
          · have HP2 := Lib.hid hp2
            obtain ⟨A, C, rfl⟩ := row_form0 RK.out
            have BJ := Lib.hid (bn B1.out BK.out)
            have CI := Lib.hid (HIH.out (4 * i + j) wr (HI4.out j hp2) (HB.out.below BJ.out) (HRL.out.below BJ.out) (HT.out.below BJ.out))
            have e1 : (((lv + 1 : Nat) : Int)) = (lv : Int) + 1 := by omega
            have e2 : (((4 * i + j : Nat) : Int)) = (i : Int) * 4 + (j : Int) := by omega
            rw [e1, e2] at CI
            have HRN := Lib.hid (partsF_next (sx L) o lv i j)
            clear e1 e2
            generalize treeF (sx L) o (pl (lv + 1) + (4 * i + j)) = x at *
            go_wp2_with fail
            refine CI.out.mono ?_
            rintro e w6 ⟨rfl, b5⟩
            have b6 := alloc_below w6 (.cells #[.int .u64 x] 44)
            have bk6 := bn BK.out b5
            have rk6 := RK.out.below b5
            obtain ⟨A7, C7, w7, run7, r7, gr7⟩ := dapp_run (partsF (sx L) o lv i j) x (.slice A (partsF (sx L) o lv i j).length C) w6.heap.size (w6.alloc (.cells #[.int .u64 x] 44)) 53 w1.heap.size (rk6.below b6) ((cell_cells (heap_alloc_new w6 _) 0).trans rfl) (by rw [partsF_len]; omega) (Nat.le_trans bk6.size b6.size)
            have HR7 := Lib.hid run7
            have B67 : Hid (Below w1.heap.size w1 w7) := Lib.hid ((bn bk6 b6).trans (D.below_of_grown gr7 (Nat.le_trans bk6.size b6.size) (fun g hg => (World.ownsRow.lt rk6 g hg).1)))
            have R7 : Hid (DRow w7 w1.heap.size (.slice A7 ((partsF (sx L) o lv i j).length + 1) C7) (partsF (sx L) o lv i (j + 1))) := Lib.hid (by rw [HRN.out]; exact r7)
            clear run7 r7 gr7 b6 b5 bk6 rk6 CI
            go_wp2_with (at_builtin; refine D.wpList_append_run rfl _ _ 53 rfl _ _ HR7.out ?_; clear HR7)
            go_roundw
            case rel => exact ⟨j + 1, HP2.out, by go_num, R7, B67⟩
            case measure => have := HP2.out; simp [RowKit.intOf]; omega
          · obtain rfl : j = 4 := by omega
            obtain ⟨wq, hwq⟩ : ∃ wq, wq = wr := ⟨_, rfl⟩
            subst hwq
            obtain ⟨g8, c8, rfl⟩ := row_form RK.out (by rw [partsF_len]; omega)
            have R8 := Lib.hid (row_dl RK.out)
            have BJ := Lib.hid (bn B1.out BK.out)
            have CA := Lib.hid (D.refall_c (partsF (sx L) o lv i 4) _ wq R8.out (by rw [partsF_len]; omega))
            rw [HWE.out] at CA
            clear RK
            go_wp2_with fail
            refine CA.out.mono ?_
            rintro e w9 ⟨rfl, b9⟩
            go_wp2_with fail
            go_ret
            exact ⟨rfl, bn BJ.out b9⟩
termination_by d => d
theorem rt_form {w : World} {q : Nat} {L : List R.Rc} {P : Nat → Prop} (h : RT w q L P) : ∃ ad cap, R.Bx 30 w q #[.slice ad L.length cap] ∧ R.Rl w (.slice ad L.length cap) L := by
  obtain ⟨v, h1, h2, _⟩ := h
  obtain ⟨ad, cap, rfl⟩ := orow_form h2
  exact ⟨ad, cap, h1, h2.rl⟩
set_option maxHeartbeats 8000000 in
theorem refSum_c (q : Nat) (L : List R.Rc) (P : Nat → Prop) (o lv i : Int) (w : World) (h : RT w q L P) (hm : ∀ r ∈ L, R.mayR r = true) (hl : L.length ≤ 1000) (hT : R.Tabs w) :
    Calls Tryd.prog 20 #[.pointer (some ⟨q, 0, none⟩), .int .i64 o, .int .i64 lv, .int .i64 i] w fun e w' => e = .returned (.tuple #[.int .u64 (sumV (treeF (sx L)) o lv i), .bool (sumB o lv i)]) ∧ Below w.heap.size w w' := by
  obtain ⟨ad, cap, hb, hr⟩ := rt_form h
  have CT := Lib.hid (there_c o lv i w)
  cases hB : sumB o lv i with
  | false =>
    have hV : sumV (treeF (sx L)) o lv i = 0 := by unfold sumV; rw [if_neg (by rw [hB]; decide)]
    rw [hB] at CT
    rw [hV]
    clear hV hB h hb hr hT
    go_enter Tryd.func20, Tryd.ntmps20
    go_wp2_with fail
    refine CT.out.mono ?_
    rintro e w1 ⟨rfl, rfl⟩
    go_wp2_with fail
    go_ret2
    exact ⟨rfl, Below.refl _ _⟩
  | true =>
    rw [hB] at CT
    have hV : sumV (treeF (sx L)) o lv i = treeF (sx L) o.toNat (pl lv.toNat + i.toNat) := by unfold sumV; rw [if_pos hB]
    rw [hV]
    unfold sumB at hB
    rw [decide_eq_true_eq] at hB
    obtain ⟨h1, h2, h3, h4, h5, h6⟩ := hB
    obtain ⟨on, rfl⟩ := Int.eq_ofNat_of_zero_le h1
    obtain ⟨ln, rfl⟩ := Int.eq_ofNat_of_zero_le h3
    obtain ⟨k, rfl⟩ := Int.eq_ofNat_of_zero_le h5
    rw [(wd_pl ln (by omega)).1] at h6
    have CS := Lib.hid (refsum_c q L ad cap on hm hl (5 - ln) ln k w (by omega) (by omega) hb hr hT)
    simp only [Int.toNat_natCast]
    generalize treeF (sx L) on (pl ln + k) = x at *
    clear hV h hb hr hT h1 h2 h3 h4 h5 h6
    go_enter Tryd.func20, Tryd.ntmps20
    go_wp2_with fail
    refine CT.out.mono ?_
    rintro e w1 ⟨rfl, rfl⟩
    go_wp2_with fail
    refine CS.out.mono ?_
    rintro e w2 ⟨rfl, b2⟩
    go_wp2_with fail
    go_ret2
    exact ⟨rfl, b2⟩
/-- The digests of the first origins' whole ranges. -/
def rootF (S : Sb) (k : Nat) : List Int := (List.range k).map fun o => treeF S o 0
theorem rootF_len (S : Sb) (k : Nat) : (rootF S k).length = k := by simp [rootF]
theorem rootF_next (S : Sb) (k : Nat) : rootF S (k + 1) = rootF S k ++ [treeF S k 0] := by simp [rootF, List.range_succ]
theorem rootF_all (S : Sb) : rootF S 8 = rootL (treeF S) := rfl
set_option maxHeartbeats 8000000 in
theorem refroot_c (q : Nat) (L : List R.Rc) (P : Nat → Prop) (w : World) (h : RT w q L P) (hm : ∀ r ∈ L, R.mayR r = true) (hl : L.length ≤ 1000) (hT : R.Tabs w) :
    Calls Tryd.prog 23 #[.pointer (some ⟨q, 0, none⟩)] w fun e w' => e = .returned (.int .u64 (D.allD (rootL (treeF (sx L))))) ∧ Below w.heap.size w w' := by
  have mixed : Tryd.prog.follows .mixedOrders = true := by kernel_rfl
  obtain ⟨ad, cap, hb, hr⟩ := rt_form h
  have HRL := Lib.hid hr
  have HB := Lib.hid hb
  have HT := Lib.hid hT
  have HIH := Lib.hid (fun o w => refsum_c q L ad cap o hm hl 5 0 0 w (by omega) (by decide))
  have R1 : Hid (DRow w w.heap.size (.slice none 0 0) (rootF (sx L) 0)) := Lib.hid (World.ownsRow_nil _ _ _ _)
  have W1 : Hid (Below w.heap.size w w) := Lib.hid (Below.refl _ _)
  have HWE := Lib.hid (rootF_all (sx L))
  generalize hwh : D.allD (rootL (treeF (sx L))) = whole at *
  have HWH := Lib.hid hwh
  clear h hb hr hT hm hwh
  go_enter Tryd.func23, Tryd.ntmps23
  go_wp2_with fail
  go_loopw [3, 4] (fun v3 v4 wr => ∃ (j : Nat), j ≤ 8 ∧ v4 = .int .i64 (j : Int) ∧ Hid (DRow wr w.heap.size v3 (rootF (sx L) j)) ∧ Hid (Below w.heap.size w wr)) (fun _ v4 _ => 8 - (RowKit.intOf v4).toNat)
  case atStart => exact ⟨0, by omega, rfl, R1, W1⟩
  case round =>
    obtain ⟨j, hj, rfl, RK, BK⟩ := hrel
    clear R1 W1
    by_cases hp2 : j < 8
    · have HP2 := Lib.hid hp2
      obtain ⟨A, C, rfl⟩ := row_form0 RK.out
      have CI := Lib.hid (HIH.out j wr (HB.out.below BK.out) (HRL.out.below BK.out) (HT.out.below BK.out))
      rw [show pl 0 + 0 = 0 from rfl] at CI
      have HRN := Lib.hid (rootF_next (sx L) j)
      generalize treeF (sx L) j 0 = x at *
      go_wp2_with fail
      refine CI.out.mono ?_
      rintro e w6 ⟨rfl, b5⟩
      have b6 := alloc_below w6 (.cells #[.int .u64 x] 44)
      have bk6 := bn BK.out b5
      have rk6 := RK.out.below b5
      obtain ⟨A7, C7, w7, run7, r7, gr7⟩ := dapp_run (rootF (sx L) j) x (.slice A (rootF (sx L) j).length C) w6.heap.size (w6.alloc (.cells #[.int .u64 x] 44)) 53 w.heap.size (rk6.below b6) ((cell_cells (heap_alloc_new w6 _) 0).trans rfl) (by rw [rootF_len]; omega) (Nat.le_trans bk6.size b6.size)
      have HR7 := Lib.hid run7
      have B67 : Hid (Below w.heap.size w w7) := Lib.hid ((bn bk6 b6).trans (D.below_of_grown gr7 (Nat.le_trans bk6.size b6.size) (fun g hg => (World.ownsRow.lt rk6 g hg).1)))
      have R7 : Hid (DRow w7 w.heap.size (.slice A7 ((rootF (sx L) j).length + 1) C7) (rootF (sx L) (j + 1))) := Lib.hid (by rw [HRN.out]; exact r7)
      clear run7 r7 gr7 b6 b5 bk6 rk6 CI
      go_wp2_with (at_builtin; refine D.wpList_append_run rfl _ _ 53 rfl _ _ HR7.out ?_; clear HR7)
      go_roundw
      case rel => exact ⟨j + 1, HP2.out, by go_num, R7, B67⟩
      case measure => have := HP2.out; simp [RowKit.intOf]; omega
    · obtain rfl : j = 8 := by omega
      obtain ⟨wq, hwq⟩ : ∃ wq, wq = wr := ⟨_, rfl⟩
      subst hwq
      obtain ⟨g8, c8, rfl⟩ := row_form RK.out (by rw [rootF_len]; omega)
      have R8 := Lib.hid (row_dl RK.out)
      have CA := Lib.hid (D.refall_c (rootF (sx L) 8) _ wq R8.out (by rw [rootF_len]; omega))
      rw [HWE.out, HWH.out] at CA
      clear RK
      go_wp2_with fail
      refine CA.out.mono ?_
      rintro e w9 ⟨rfl, b9⟩
      go_wp2_with fail
      go_ret
      exact ⟨rfl, bn BK.out b9⟩
end Go.Proofs.YtchkadifjbmmpaaDoor
namespace Go.Proofs.YtchkadifjbmmpaaDoor
open Go.RowKit Go.Lib Go.Maps
set_option maxRecDepth 100000
set_option linter.unusedSimpArgs false

structure A2 (w wr : World) (p q : Nat) (ot : Nat → Prop) (S : Sb) (L : List R.Rc) : Prop where
  t : Tr wr p S ot
  r : RT wr q L (fun g => ¬ ot g)
  nq : ¬ ot q
  b : Below w.heap.size w wr
  lt : ∀ j, ot j → w.heap.size ≤ j
  lq : w.heap.size ≤ q
theorem A2.below {w wr w' : World} {p q : Nat} {ot : Nat → Prop} {S : Sb} {L : List R.Rc} (h : A2 w wr p q ot S L) (hb : Below wr.heap.size wr w') : A2 w w' p q ot S L := by
  obtain ⟨x, h1, h2, h3⟩ := h.r
  exact ⟨h.t.below hb, ⟨x, h1.below hb, h2.below hb, h3⟩, h.nq, bn h.b hb, h.lt, h.lq⟩
theorem A2.turnT {w wr w' : World} {p q : Nat} {ot ot' : Nat → Prop} {S S' : Sb} {L : List R.Rc} (h : A2 w wr p q ot S L) (ht : Tr w' p S' ot') (t4 : Turn ot wr w') (o4 : ∀ j, ot' j → ot j ∨ wr.heap.size ≤ j) : A2 w w' p q ot' S' L := by
  obtain ⟨x, h1, h2, h3⟩ := h.r
  refine ⟨ht, ⟨x, (t4.block q h1.lt (fun ho => h.nq ho)).trans h1, ownsRow_of_block h2 (fun g hg => t4.block g (World.ownsRow.lt h2 g hg).2 (fun ho => h3 g hg ho)), fun g hg hh => ?_⟩, fun hh => ?_, h.b.trans (t4.below h.b.size h.lt), fun j hj => (o4 j hj).elim (h.lt j) (fun h5 => Nat.le_trans h.b.size h5), h.lq⟩
  · have hl := (World.ownsRow.lt h2 g hg).2
    rcases o4 g hh with h5 | h5
    · exact h3 g hg h5
    · omega
  · have hl := h1.lt
    rcases o4 q hh with h5 | h5
    · exact h.nq h5
    · omega
theorem A2.turnR {w wr w' : World} {p q : Nat} {ot : Nat → Prop} {S : Sb} {L L' : List R.Rc} (h : A2 w wr p q ot S L) (hr : RT w' q L' (fun g => ¬ ot g)) (g4 : wr.grownBy w' (some q)) : A2 w w' p q ot S L' :=
  ⟨h.t.keep g4.size (fun i hi => g4.block i (h.t.up i hi) (fun e => h.nq (Option.some.inj e ▸ hi))), hr, h.nq, h.b.trans (D.below_of_grown g4 h.b.size (fun _ e => Option.some.inj e ▸ h.lq)), h.lt, h.lq⟩
theorem A2.fresh {w wr : World} {p q : Nat} {ot : Nat → Prop} {S : Sb} {L : List R.Rc} (h : A2 w wr p q ot S L) : ∀ i, wr.heap.size ≤ i → ¬ ot i := fun i hi h1 => by have := h.t.up i h1; omega
theorem A2.rlt {w wr : World} {p q : Nat} {ot : Nat → Prop} {S : Sb} {L : List R.Rc} (h : A2 w wr p q ot S L) : q < wr.heap.size := by
  obtain ⟨x, h1, _⟩ := h.r
  exact h1.lt
/-- Blocks that are new since wr stay. -/
def Stay (B : Nat) (w w' : World) : Prop := ∀ j o, B ≤ j → w.heap[j]? = some o → w'.heap[j]? = some o
/-- All blocks but one stay. -/
def Keep (q : Nat) (w w' : World) : Prop := ∀ j o, j ≠ q → w.heap[j]? = some o → w'.heap[j]? = some o
/-- Two Keys, just laid. -/
abbrev KK (o s : Int) : Obj := .cells #[.int .i64 o, .int .i64 s, .int .i64 o, .int .i64 s] 32
abbrev RR (r : R.Rc) : Obj := .cells #[.int .i64 r.o, .int .i64 r.s, .int .i64 r.w, .int .i64 r.c, .string r.t, .int .i64 r.o, .int .i64 r.s, .int .i64 r.w, .int .i64 r.c, .string r.t] 36
theorem krd_two {W : World} {g : Nat} {o s : Int} (hx : W.heap[g]? = some (KK o s)) : KRd W (.slice (some ⟨g, 0, none⟩) 2 2) [(o, s), (o, s)] := by
  have hx : R.Bx 32 W g #[.int .i64 o, .int .i64 s, .int .i64 o, .int .i64 s] := hx
  refine ⟨_, 2, rfl, by simp, fun _ => ⟨g, 0, rfl, fun k hk => ?_⟩⟩
  have hk2 : k < 2 := hk
  match k, hk2 with
  | 0, _ => exact ⟨hx.cell 0, hx.cell 1⟩
  | 1, _ => exact ⟨hx.cell 2, hx.cell 3⟩
theorem rl_pair {W : World} {g : Nat} {r : R.Rc} (hx : W.heap[g]? = some (RR r)) : R.Rl W (.slice (some ⟨g, 0, none⟩) 2 2) [r, r] := by
  have hx : R.Bx 36 W g #[.int .i64 r.o, .int .i64 r.s, .int .i64 r.w, .int .i64 r.c, .string r.t, .int .i64 r.o, .int .i64 r.s, .int .i64 r.w, .int .i64 r.c, .string r.t] := hx
  refine .inr ⟨_, 2, rfl, Nat.le_refl _, fun _ => ⟨g, 0, rfl, fun k hk => ?_⟩⟩
  have hk2 : k < 2 := hk
  match k, hk2 with
  | 0, _ => exact ⟨hx.cell 0, hx.cell 1, hx.cell 2, hx.cell 3, hx.cell 4⟩
  | 1, _ => exact ⟨hx.cell 5, hx.cell 6, hx.cell 7, hx.cell 8, hx.cell 9⟩
section
variable {w wr : World} {p q : Nat} {ot : Nat → Prop} {L : List R.Rc}
theorem drop_two (HA : A2 w wr p q ot (sx L) L) (o s : Int) (hk : okKy (o, s)) (hnd : (L.map kyR).Nodup) (hn : L.length ≤ 1000) (W : World) (g : Nat) (hb : Below wr.heap.size wr W) (hg : wr.heap.size ≤ g) (hx : W.heap[g]? = some (KK o s)) :
    Calls Tryd.prog 15 #[.pointer (some ⟨p, 0, none⟩), .slice (some ⟨g, 0, none⟩) 2 2] W fun e w' => e = .returned (.int .i64 ((L.length : Int) - ((refDrops L [(o, s), (o, s)]).length : Int))) ∧ A2 w w' p q ot (sx (refDrops L [(o, s), (o, s)])) L ∧ Stay wr.heap.size W w' ∧ wr.heap.size ≤ w'.heap.size := by
  have hA := HA.below hb
  have hf := HA.fresh
  refine (drop_c p (sx L) ot _ [(o, s), (o, s)] W hA.t (fun W' ht => krd_two ((ht.block g (Array.getElem?_eq_some_iff.1 hx).1 (hf g hg)).trans hx)) (fun k hk' => by simp only [List.mem_cons, List.not_mem_nil, or_false, or_self] at hk'; rw [hk']; exact hk) (by simp) (by rw [sx_len]; omega)).mono ?_
  rintro e w' ⟨rfl, h1, t1⟩
  have hd : dropSs (sx L) [(o, s), (o, s)] = sx (refDrops L [(o, s), (o, s)]) := by
    show dropS (dropS (sx L) (o, s)) (o, s) = sx (refDrop (refDrop L (o, s)) (o, s))
    rw [sx_drop _ hnd, sx_drop _ (drop_nd _ hnd)]
  rw [hd] at h1
  rw [hd, sx_len, sx_len]
  exact ⟨rfl, hA.turnT h1 t1 (fun j hj => .inl hj), fun j ob hj ho => (t1.block j (Array.getElem?_eq_some_iff.1 ho).1 (hf j hj)).trans ho, Nat.le_trans hb.size t1.size⟩
theorem rdrop_two {S : Sb} (HA : A2 w wr p q ot S L) (o s : Int) (hn : L.length ≤ 1000) (W : World) (g : Nat) (hb : Below wr.heap.size wr W) (hg : g ≠ q) (hx : W.heap[g]? = some (KK o s)) :
    Calls Tryd.prog 16 #[.pointer (some ⟨q, 0, none⟩), .slice (some ⟨g, 0, none⟩) 2 2] W fun e w' => e = .returned (.int .i64 ((L.length : Int) - ((refDrops L [(o, s), (o, s)]).length : Int))) ∧ A2 w w' p q ot S (refDrops L [(o, s), (o, s)]) ∧ Keep q W w' := by
  have hA := HA.below hb
  refine (rdrop_c q L [(o, s), (o, s)] _ W _ hA.fresh hA.r (fun W' ht => krd_two ((ht.block g (Array.getElem?_eq_some_iff.1 hx).1 (fun e => hg (Option.some.inj e))).trans hx)) (by simp) hn).mono ?_
  rintro e w' ⟨rfl, h1, g1⟩
  exact ⟨rfl, hA.turnR h1 g1, fun j ob hj ho => (g1.block j (Array.getElem?_eq_some_iff.1 ho).1 (fun e => hj (Option.some.inj e))).trans ho⟩
theorem put_two (HA : A2 w wr p q ot (sx L) L) (r : R.Rc) (hs : r.t.size ≤ 9223372036854775807 ∧ okKy (kyR r)) (hn : L.length ≤ 1000) (hT : R.Tabs w) (W : World) (g : Nat) (hb : Below wr.heap.size wr W) (hg : wr.heap.size ≤ g) (hx : W.heap[g]? = some (RR r)) :
    Calls Tryd.prog 17 #[.pointer (some ⟨p, 0, none⟩), .slice (some ⟨g, 0, none⟩) 2 2] W fun e w' => ∃ ot', e = .returned (.int .i64 (((refPuts L [r, r]).length : Int) - (L.length : Int))) ∧ A2 w w' p q ot' (sx (refPuts L [r, r])) L ∧ Stay wr.heap.size W w' ∧ wr.heap.size ≤ w'.heap.size := by
  have hA := HA.below hb
  have hf := HA.fresh
  refine (put_c p (sx L) ot _ [r, r] W hA.t (fun W' ht => rl_pair ((ht.block g (Array.getElem?_eq_some_iff.1 hx).1 (hf g hg)).trans hx)) (fun k hk' => by simp only [List.mem_cons, List.not_mem_nil, or_false, or_self] at hk'; rw [hk']; exact hs) (by simp) (by rw [sx_len]; omega) (fun W' t => hT.below (hA.b.trans (t.below hA.b.size hA.lt)))).mono ?_
  rintro e w' ⟨ot', rfl, h1, t1, o1⟩
  have hd : putSs (sx L) [r, r] = sx (refPuts L [r, r]) := by
    show putS (putS (sx L) r) r = sx (refPut (refPut L r) r)
    rw [sx_put, sx_put]
  rw [hd] at h1
  rw [hd, sx_len, sx_len]
  exact ⟨ot', rfl, hA.turnT h1 t1 o1, fun j ob hj ho => (t1.block j (Array.getElem?_eq_some_iff.1 ho).1 (hf j hj)).trans ho, Nat.le_trans hb.size t1.size⟩
theorem rput_two {S : Sb} (HA : A2 w wr p q ot S L) (r : R.Rc) (hs : r.t.size ≤ 9223372036854775807) (hn : L.length ≤ 1000) (hT : R.Tabs w) (W : World) (g : Nat) (hb : Below wr.heap.size wr W) (hg : g ≠ q) (hx : W.heap[g]? = some (RR r)) :
    Calls Tryd.prog 18 #[.pointer (some ⟨q, 0, none⟩), .slice (some ⟨g, 0, none⟩) 2 2] W fun e w' => e = .returned (.int .i64 (((refPuts L [r, r]).length : Int) - (L.length : Int))) ∧ A2 w w' p q ot S (refPuts L [r, r]) ∧ Keep q W w' := by
  have hA := HA.below hb
  refine (rput_c q L [r, r] (some ⟨g, 0, none⟩) 2 W _ hA.fresh hA.r (fun W' ht => rl_pair ((ht.block g (Array.getElem?_eq_some_iff.1 hx).1 (fun e => hg (Option.some.inj e))).trans hx)) (fun x hx' => by simp only [List.mem_cons, List.not_mem_nil, or_false, or_self] at hx'; rw [hx']; exact hs) (by simp) hn (fun W' gg => hT.below (hA.b.trans (D.below_of_grown gg hA.b.size (fun _ e => Option.some.inj e ▸ hA.lq))))).mono ?_
  rintro e w' ⟨rfl, h1, g1⟩
  exact ⟨rfl, hA.turnR h1 g1, fun j ob hj ho => (g1.block j (Array.getElem?_eq_some_iff.1 ho).1 (fun e => hj (Option.some.inj e))).trans ho⟩
end
theorem drops_two_nd {L : List R.Rc} (k : Ky) (h : (L.map kyR).Nodup) : ((refDrops L [k, k]).map kyR).Nodup := drop_nd k (drop_nd k h)
theorem drops_two_may {L : List R.Rc} (k : Ky) (h : ∀ x ∈ L, R.mayR x = true) : ∀ x ∈ refDrops L [k, k], R.mayR x = true := drop_may k (drop_may k h)
theorem drops_two_len (L : List R.Rc) (k : Ky) : (refDrops L [k, k]).length ≤ L.length := refDrops_len [k, k] L
theorem puts_two_nd {L : List R.Rc} (r : R.Rc) (h : (L.map kyR).Nodup) : ((refPuts L [r, r]).map kyR).Nodup := put_nd r (put_nd r h)
theorem puts_two_may {L : List R.Rc} (r : R.Rc) (h : ∀ x ∈ L, R.mayR x = true) : ∀ x ∈ refPuts L [r, r], R.mayR x = true := put_may r (put_may r h)
theorem puts_two_len (L : List R.Rc) (r : R.Rc) : (refPuts L [r, r]).length ≤ L.length + 2 := (refPuts_len [r, r] L).2
end Go.Proofs.YtchkadifjbmmpaaDoor
namespace Go.Proofs.YtchkadifjbmmpaaDoor
open Go.RowKit Go.Lib Go.Maps
set_option maxRecDepth 100000
set_option linter.unusedSimpArgs false

theorem newW (w : World) (a : Obj) : (w.alloc a).drew.heap[w.heap.size]? = some a := heap_alloc_new w a
theorem newA (w : World) (a b : Obj) : ((w.alloc a).alloc b).drew.heap[w.heap.size + 1]? = some b := by
  have := heap_alloc_new (w.alloc a) b
  rw [show (w.alloc a).heap.size = w.heap.size + 1 by simp] at this
  exact this
theorem newB (w : World) (a b : Obj) : ((w.alloc a).alloc b).drew.heap[w.heap.size]? = some a :=
  (Below.heap_alloc (w.alloc a) b w.heap.size (by simp)).trans (heap_alloc_new w a)
set_option maxHeartbeats 64000000 in
theorem script_law (l : List Ac) (v : Value) (oi Li ii : Int) (w : World) (h : Al w v l) (hs : ∀ x ∈ l, x.r.t.size ≤ 9223372036854775807 ∧ okKy (x.r.o, x.r.s)) (hl : l.length ≤ maxLen) (hT : R.Tabs w) :
    Calls Tryd.prog 3 #[v, .int .i64 oi, .int .i64 Li, .int .i64 ii] w fun e w' => e = .returned (.bool true) ∧ Below w.heap.size w w' := by
  have mixed : Tryd.prog.follows .mixedOrders = true := by kernel_rfl
  have HG := Lib.hid (greatA_c l v 25 w h (by omega) hl)
  have HT := Lib.hid hT
  cases hg : greatA l 25 with
  | true =>
    rw [hg] at HG
    clear hg h hs hl hT
    go_enter Tryd.func3, Tryd.ntmps3
    go_wp2_with fail
    refine HG.out.mono ?_
    rintro e w1 ⟨rfl, b1⟩
    go_wp2_with fail
    refine (awake_c w1 (HT.out.below b1)).mono ?_
    rintro e w2 ⟨rfl, b2⟩
    go_wp2
    go_ret
    exact ⟨rfl, bn b1 b2⟩
  | false =>
    rw [hg] at HG
    have hln : l.length ≤ 25 := (greatA_no hg).1
    obtain ⟨ad, cap, rfl, _, _⟩ := id h
    have HAL := Lib.hid h
    have HSZ := Lib.hid hs
    clear hg h hs hl hT
    go_enter Tryd.func3, Tryd.ntmps3
    go_wp2_with fail
    refine HG.out.mono ?_
    rintro e w1 ⟨rfl, b1⟩
    have B1 := Lib.hid b1
    clear b1 HG
    go_wp2_with fail
    refine (new_c w1).mono ?_
    rintro e w3 ⟨p, ot, rfl, h3, o3, b3⟩
    obtain ⟨q, hq⟩ : ∃ q, q = w3.heap.size := ⟨_, rfl⟩
    obtain ⟨w4, hw4⟩ : ∃ w4, w4 = w3.alloc (.cells #[.slice none 0 0] 30) := ⟨_, rfl⟩
    have HA : Hid (A2 w w4 p q ot (sx []) []) := Lib.hid (by
      have al : Below w3.heap.size w3 w4 := by rw [hw4]; exact alloc_below _ _
      refine ⟨h3.below al, ⟨.slice none 0 0, by rw [hw4, hq]; exact R.Bx.new _ w3 _, R.ORow.nil _ _, fun g hg => by cases hg⟩, fun hh => ?_, bn (bn B1.out b3) al, fun j hj => Nat.le_trans B1.out.size (o3 j hj), ?_⟩
      · have := h3.up q hh
        omega
      · rw [hq]
        exact (bn B1.out b3).size)
    have HW4 := Lib.hid hw4
    have HQ := Lib.hid hq
    clear h3 o3 b3 hq hw4
    go_wp2_with fail
    rw [← HW4.out, ← HQ.out]
    clear HW4 HQ
    go_loopw [11] (fun v11 wr => ∃ (k : Nat) (L : List R.Rc) (ot : Nat → Prop), k ≤ l.length ∧ v11 = .int .i64 (k : Int) ∧ L.length ≤ 2 * k ∧ Hid ((L.map kyR).Nodup ∧ ∀ x ∈ L, R.mayR x = true) ∧ Hid (A2 w wr p q ot (sx L) L)) (fun v11 _ => l.length - (RowKit.intOf v11).toNat)
    case atStart => exact ⟨0, [], ot, by omega, rfl, by simp, Lib.hid ⟨by simp, by simp⟩, HA⟩
    case round =>
      obtain ⟨k, L, ot, hk, rfl, hLk, HL, HA⟩ := hrel
      by_cases hp : k < l.length
      · have HP := Lib.hid hp
        obtain ⟨ad2, cap2, e, _, hc⟩ := HAL.out
        simp only [Value.slice.injEq, true_and] at e
        obtain ⟨rfl, rfl⟩ := e
        obtain ⟨b, o, rfl, hac⟩ := hc (by omega)
        have HX := Lib.hid (fun W (hW : Below w.heap.size w W) => (hac k hp).below hW)
        have HSI := Lib.hid (HSZ.out _ (List.getElem_mem hp))
        clear hc hac
        generalize l[k] = x at *
        obtain ⟨dd, r⟩ := x
        obtain ⟨x0, x1, x2, x3, x4, x5⟩ := HX.out wr HA.out.b
        have hgl := World.block_lt_of_cell? _ _ x0
        simp only at x0 x1 x2 x3 x4 x5
        obtain ⟨bx, hbx⟩ : ∃ bx, bx = wr.heap.size := ⟨_, rfl⟩
        obtain ⟨w5, hw5⟩ : ∃ w5, w5 = wr.alloc (.cells #[.bool dd, .int .i64 r.o, .int .i64 r.s, .int .i64 r.w, .int .i64 r.c, .string r.t] 38) := ⟨_, rfl⟩
        have HBX : Hid (R.Bx 38 w5 bx #[.bool dd, .int .i64 r.o, .int .i64 r.s, .int .i64 r.w, .int .i64 r.c, .string r.t]) := Lib.hid (by rw [hw5, hbx]; exact R.Bx.new _ wr _)
        have hqb : q < wr.heap.size := HA.out.rlt
        have hs5 : wr.heap.size + 1 ≤ w5.heap.size := by rw [hw5]; simp
        have b5 : Below wr.heap.size wr w5 := by rw [hw5]; exact alloc_below _ _
        have hxb : wr.heap.size ≤ bx ∧ bx ≠ q := by omega
        have HSX : Hid (∀ W, R.Bx 38 W bx #[.bool dd, .int .i64 r.o, .int .i64 r.s, .int .i64 r.w, .int .i64 r.c, .string r.t] → W.cell? ⟨bx, 1, none⟩ = some (.int .i64 r.o) ∧ W.cell? ⟨bx, 2, none⟩ = some (.int .i64 r.s) ∧ W.cell? ⟨bx, 3, none⟩ = some (.int .i64 r.w) ∧ W.cell? ⟨bx, 4, none⟩ = some (.int .i64 r.c) ∧ W.cell? ⟨bx, 5, none⟩ = some (.string r.t)) := Lib.hid (fun W hW => ⟨hW.cell 1, hW.cell 2, hW.cell 3, hW.cell 4, hW.cell 5⟩)
        have HWW := Lib.hid hw5
        have HBB := Lib.hid hbx
        clear hw5 hbx
        cases dd with
        | true =>
          have HD := Lib.hid (drop_two HA.out r.o r.s HSI.out.2 HL.out.1 (by omega))
          have HR := Lib.hid (fun w6 ot6 S6 (a6 : A2 w w6 p q ot6 S6 L) => rdrop_two a6 r.o r.s (by omega))
          have X0 := HBX.out
          go_wp2_with fail
          rw [← HWW.out, ← HBB.out]
          clear x0 x1 x2 x3 x4 x5 hgl
          go_region_held3 (fun W => W.cell? ⟨bx, 1, none⟩ = some (.int .i64 r.o) ∧ W.cell? ⟨bx, 2, none⟩ = some (.int .i64 r.s)) (exact ⟨(HSX.out _ (by first | exact X0 | exact X0.alloc _ | exact (X0.alloc _).alloc _ | exact X7 | exact X6 | exact X6.alloc _)).1, (HSX.out _ (by first | exact X0 | exact X0.alloc _ | exact (X0.alloc _).alloc _ | exact X7 | exact X6 | exact X6.alloc _)).2.1⟩)
            (first
            | (go_at_call 15; refine (HD.out _ _ (by first | exact (b5.alloc (by omega) _).drew | exact ((b5.alloc (by omega) _).alloc (by simp; omega) _).drew) (by omega) (by first | exact newW _ _ | exact newA _ _ _ | exact newB _ _ _)).mono ?_; rintro e w6 ⟨rfl, a6, st6, sz6⟩; have X6 : R.Bx 38 w6 bx #[.bool true, .int .i64 r.o, .int .i64 r.s, .int .i64 r.w, .int .i64 r.c, .string r.t] := st6 bx _ hxb.1 (by first | exact X0.alloc _ | exact (X0.alloc _).alloc _))
            | (go_at_call 16; refine (HR.out _ _ _ a6 _ _ (by first | exact (Below.refl _ _).drew | exact (alloc_below _ _).drew | exact Below.refl _ _ | exact alloc_below _ _) (by omega) (by first | exact newW _ _ | exact heap_alloc_new _ _ | exact st6 _ _ (by omega) (newA _ _ _) | exact st6 _ _ (by omega) (newB _ _ _))).mono ?_; rintro e w7 ⟨rfl, a7, k7⟩; have X7 : R.Bx 38 w7 bx #[.bool true, .int .i64 r.o, .int .i64 r.s, .int .i64 r.w, .int .i64 r.c, .string r.t] := k7 bx _ hxb.2 (by first | exact X6 | exact X6.alloc _))
            | fail)
          all_goals
            have A7 := Lib.hid a7
            have hl2 := drops_two_len L (r.o, r.s)
            have HL2 := Lib.hid (And.intro (drops_two_nd (r.o, r.s) HL.out.1) (drops_two_may (r.o, r.s) HL.out.2))
            clear st6 sz6 X6 k7 X7 a6 a7
            generalize refDrops L [(r.o, r.s), (r.o, r.s)] = L2 at *
            have CT := Lib.hid (sumT_c p (sx L2) ot oi Li ii w7 A7.out.t)
            have CS := Lib.hid (refSum_c q L2 _ oi Li ii w7 A7.out.r HL2.out.2 (by omega) (HT.out.below A7.out.b))
            generalize sumV (treeF (sx L2)) oi Li ii = sv at *
            generalize sumB oi Li ii = sb at *
            go_wp2_with fail
            refine CT.out.mono ?_
            rintro e w8 ⟨rfl, rfl⟩
            go_wp2_with fail
            refine CS.out.mono ?_
            rintro e w9 ⟨rfl, b9⟩
            have A9 := Lib.hid (A7.out.below b9)
            obtain ⟨ra, rc, rb, _⟩ := rt_form A9.out.r
            have q0 := rb.cell 0
            simp only [List.getElem?_toArray, List.getElem?_cons_zero] at q0
            have hq0 := World.block_lt_of_cell? _ _ q0
            have CL : ∀ n, Calls Tryd.prog 21 #[.pointer (some ⟨p, 0, none⟩)] (w9.drewN n) fun e w' => e = .returned (.int .i64 (L2.length : Int)) ∧ w' = w9.drewN n := fun n => by
              have := len_c p (sx L2) ot (w9.drewN n) (A9.out.t.below (below_drewN (Below.refl _ _) n))
              rw [sx_len] at this
              exact this
            clear CT CS b9 rb
            go_wp2_with fail
            go_quiet (first | (go_at_call 21; refine Calls.quiet_of_same (CL _)))
            go_wp2_with fail
            go_roundw
            case rel => exact ⟨k + 1, L2, ot, HP.out, by go_num, by omega, HL2, Lib.hid (A9.out.below (below_drewN (Below.refl _ _) _))⟩
            case measure => have := HP.out; simp [RowKit.intOf]; omega
        | false =>
          have HD := Lib.hid (put_two HA.out r HSI.out (by omega) HT.out)
          have HR := Lib.hid (fun w6 ot6 S6 (a6 : A2 w w6 p q ot6 S6 L) => rput_two a6 r HSI.out.1 (by omega) HT.out)
          have X0 := HBX.out
          go_wp2_with fail
          rw [← HWW.out, ← HBB.out]
          clear x0 x1 x2 x3 x4 x5 hgl
          go_region_held3 (fun W => W.cell? ⟨bx, 1, none⟩ = some (.int .i64 r.o) ∧ W.cell? ⟨bx, 2, none⟩ = some (.int .i64 r.s) ∧ W.cell? ⟨bx, 3, none⟩ = some (.int .i64 r.w) ∧ W.cell? ⟨bx, 4, none⟩ = some (.int .i64 r.c) ∧ W.cell? ⟨bx, 5, none⟩ = some (.string r.t)) (exact HSX.out _ (by first | exact X0 | exact X0.alloc _ | exact (X0.alloc _).alloc _ | exact X7 | exact X6 | exact X6.alloc _))
            (first
            | (go_at_call 17; refine (HD.out _ _ (by first | exact (b5.alloc (by omega) _).drew | exact ((b5.alloc (by omega) _).alloc (by simp; omega) _).drew) (by omega) (by first | exact newW _ _ | exact newA _ _ _ | exact newB _ _ _)).mono ?_; rintro e w6 ⟨ot6, rfl, a6, st6, sz6⟩; have X6 : R.Bx 38 w6 bx #[.bool false, .int .i64 r.o, .int .i64 r.s, .int .i64 r.w, .int .i64 r.c, .string r.t] := st6 bx _ hxb.1 (by first | exact X0.alloc _ | exact (X0.alloc _).alloc _))
            | (go_at_call 18; refine (HR.out _ _ _ a6 _ _ (by first | exact (Below.refl _ _).drew | exact (alloc_below _ _).drew | exact Below.refl _ _ | exact alloc_below _ _) (by omega) (by first | exact newW _ _ | exact heap_alloc_new _ _ | exact st6 _ _ (by omega) (newA _ _ _) | exact st6 _ _ (by omega) (newB _ _ _))).mono ?_; rintro e w7 ⟨rfl, a7, k7⟩; have X7 : R.Bx 38 w7 bx #[.bool false, .int .i64 r.o, .int .i64 r.s, .int .i64 r.w, .int .i64 r.c, .string r.t] := k7 bx _ hxb.2 (by first | exact X6 | exact X6.alloc _))
            | fail)
          all_goals
            have A7 := Lib.hid a7
            have hl2 := puts_two_len L r
            have HL2 := Lib.hid (And.intro (puts_two_nd r HL.out.1) (puts_two_may r HL.out.2))
            clear st6 sz6 X6 k7 X7 a6 a7
            generalize refPuts L [r, r] = L2 at *
            have CT := Lib.hid (sumT_c p (sx L2) ot6 oi Li ii w7 A7.out.t)
            have CS := Lib.hid (refSum_c q L2 _ oi Li ii w7 A7.out.r HL2.out.2 (by omega) (HT.out.below A7.out.b))
            generalize sumV (treeF (sx L2)) oi Li ii = sv at *
            generalize sumB oi Li ii = sb at *
            go_wp2_with fail
            refine CT.out.mono ?_
            rintro e w8 ⟨rfl, rfl⟩
            go_wp2_with fail
            refine CS.out.mono ?_
            rintro e w9 ⟨rfl, b9⟩
            have A9 := Lib.hid (A7.out.below b9)
            obtain ⟨ra, rc, rb, _⟩ := rt_form A9.out.r
            have q0 := rb.cell 0
            simp only [List.getElem?_toArray, List.getElem?_cons_zero] at q0
            have hq0 := World.block_lt_of_cell? _ _ q0
            have CL : ∀ n, Calls Tryd.prog 21 #[.pointer (some ⟨p, 0, none⟩)] (w9.drewN n) fun e w' => e = .returned (.int .i64 (L2.length : Int)) ∧ w' = w9.drewN n := fun n => by
              have := len_c p (sx L2) ot6 (w9.drewN n) (A9.out.t.below (below_drewN (Below.refl _ _) n))
              rw [sx_len] at this
              exact this
            clear CT CS b9 rb
            go_wp2_with fail
            go_quiet (first | (go_at_call 21; refine Calls.quiet_of_same (CL _)))
            go_wp2_with fail
            go_roundw
            case rel => exact ⟨k + 1, L2, ot6, HP.out, by go_num, by omega, HL2, Lib.hid (A9.out.below (below_drewN (Below.refl _ _) _))⟩
            case measure => have := HP.out; simp [RowKit.intOf]; omega
      · have hkl : k = l.length := by omega
        subst hkl
        obtain ⟨wq, hwq⟩ : ∃ wq, wq = wr := ⟨_, rfl⟩
        subst hwq
        have hL50 : L.length ≤ 50 := by omega
        have C0 : Hid (Below wq.heap.size wq wq) := Lib.hid (Below.refl _ _)
        obtain ⟨ra, rc, rb, rr⟩ := rt_form HA.out.r
        have HRB := Lib.hid rb
        have HRR := Lib.hid rr
        clear rb rr hk
        go_wp2_with fail
        go_loopw [17] (fun v17 wr => ∃ (i : Nat), i ≤ L.length ∧ v17 = .int .i64 (i : Int) ∧ Hid (Below wq.heap.size wq wr)) (fun v17 _ => L.length - (RowKit.intOf v17).toNat)
        case atStart => exact ⟨0, by omega, rfl, C0⟩
        case round =>
          obtain ⟨i, hi, rfl, CI⟩ := hrel
          clear C0
          have q0 := (HRB.out.below CI.out).cell 0
          simp only [List.getElem?_toArray, List.getElem?_cons_zero] at q0
          have hq0 := World.block_lt_of_cell? _ _ q0
          by_cases hp2 : i < L.length
          · have HP2 := Lib.hid hp2
            obtain ⟨_, _, e, _, hrc⟩ := HRR.out.form
            simp only [Value.slice.injEq, true_and] at e
            obtain ⟨rfl, rfl⟩ := e
            obtain ⟨g, o, rfl, hrd⟩ := hrc (by omega)
            obtain ⟨y0, y1, _, _, _⟩ := hrd i hp2
            have HY : Hid (∀ W, Below wq.heap.size wq W → W.cell? ⟨g, o + i * 5, none⟩ = some (.int .i64 L[i].o) ∧ W.cell? ⟨g, o + i * 5 + 1, none⟩ = some (.int .i64 L[i].s)) := Lib.hid (fun W hW => ⟨(hW.cell (World.block_lt_of_cell? _ _ y0)).trans y0, (hW.cell (World.block_lt_of_cell? _ _ y1)).trans y1⟩)
            clear y0 y1 hrc hrd
            obtain ⟨x0, x1⟩ := HY.out wr CI.out
            have hgl := World.block_lt_of_cell? _ _ x0
            generalize L[i].o = xo at *
            generalize L[i].s = xs at *
            obtain ⟨wz, hwz⟩ : ∃ wz, wz = wr := ⟨_, rfl⟩
            subst hwz
            go_wp2_with fail
            clear q0 hq0 x0 x1 hgl
            go_loopw [18, 19] (fun v18 v19 wr => ∃ (m : Nat) (y : Int), m ≤ 6 ∧ v19 = .int .i64 ((m : Int) - 1) ∧ v18 = .int .i64 y ∧ Hid (Below wq.heap.size wq wr)) (fun _ v19 _ => ((RowKit.intOf v19) + 1).toNat)
            case atStart => exact ⟨6, xs, by omega, rfl, rfl, CI⟩
            case round =>
              obtain ⟨m, y, hm, rfl, rfl, CM⟩ := hrel
              have q0 := (HRB.out.below CM.out).cell 0
              simp only [List.getElem?_toArray, List.getElem?_cons_zero] at q0
              have hq0 := World.block_lt_of_cell? _ _ q0
              obtain ⟨x0, x1⟩ := HY.out wr CM.out
              have hgl := World.block_lt_of_cell? _ _ x0
              by_cases hm0 : m = 0
              · subst hm0
                go_wp2_with fail
                go_roundw
                case rel => exact ⟨i + 1, HP2.out, by go_num, CM⟩
                case measure => have := HP2.out; simp [RowKit.intOf]; omega
              · obtain ⟨n, rfl⟩ : ∃ n, m = n + 1 := ⟨m - 1, by omega⟩
                have hv1 : (((n + 1 : Nat) : Int) - 1) = (n : Int) := by omega
                rw [hv1]
                have AM := Lib.hid (HA.out.below CM.out)
                have CT := Lib.hid (sumT_c p (sx L) ot xo (n : Int) y wr AM.out.t)
                have CS := Lib.hid (refSum_c q L _ xo (n : Int) y wr AM.out.r HL.out.2 (by omega) (HT.out.below AM.out.b))
                generalize sumV (treeF (sx L)) xo (n : Int) y = sv at *
                generalize sumB xo (n : Int) y = sb at *
                clear hv1 hm0
                go_wp2_with fail
                refine CT.out.mono ?_
                rintro e w6 ⟨rfl, rfl⟩
                go_wp2_with fail
                refine CS.out.mono ?_
                rintro e w7 ⟨rfl, b7⟩
                go_wp2_with fail
                go_roundw
                case rel => exact ⟨n, _, by omega, by go_num, rfl, Lib.hid (bn CM.out b7)⟩
                case measure => simp [RowKit.intOf]
          · have hil : i = L.length := by omega
            subst hil
            have AM := Lib.hid (HA.out.below CI.out)
            have CT := Lib.hid (rootT_c p (sx L) ot wr AM.out.t)
            have CS := Lib.hid (fun W (hb : Below wr.heap.size wr W) => refroot_c q L _ W (AM.out.below hb).r HL.out.2 (by omega) (HT.out.below (AM.out.below hb).b))
            generalize D.allD (rootL (treeF (sx L))) = rv at *
            go_wp2_with fail
            refine CT.out.mono ?_
            rintro e w6 ⟨rfl, b6⟩
            go_wp2_with fail
            refine (CS.out w6 b6).mono ?_
            rintro e w7 ⟨rfl, b7⟩
            have B7 := Lib.hid (bn (bn AM.out.b b6) b7)
            clear b6 b7
            go_wp2_with fail
            refine (awake_c w7 (HT.out.below B7.out)).mono ?_
            rintro e w12 ⟨rfl, b12⟩
            go_wp2
            go_ret
            exact ⟨rfl, bn B7.out b12⟩
end Go.Proofs.YtchkadifjbmmpaaDoor
namespace Go.Proofs.YtchkadifjbmmpaaDoor
open Go.RowKit Go.ChangeShapes Go.WideShapes Go.ChangeAt Go.Deep

set_option maxRecDepth 100000 in
theorem script_lifted (os : Os) (started : os.Started) (H : Type) (enc : TypeId × Value → H) :
    ReturnsInHanded {} Tryd.checked os 3 .any (fun w args => (Rows.treeScriptSpec.pre enc Tryd.prog Tryd.f3 [] false w args ∧ laidMetH Tryd.prog Rows.treeScriptRow.laid w) ∧ sizedMet enc Tryd.prog Tryd.f3 (OpenSpec.ofChange Rows.treeScriptSpec) false w args)
      (Rows.treeScriptSpec.post enc Tryd.prog Tryd.f3 false true false false) := by
  refine laid_lift (C := Tryd.checked) (L := seatLaid) own started (by kernel_rfl) Tryd.func3
    (ChangeSpec.witness_shaped (enc := enc) (C := Tryd.checked) (os := os) (X := fun w _ => laidMetH Tryd.prog seatLaid w) false (World.laidAll Tryd.prog os seatLaid) #[.slice none 0 0, .int .i64 0, .int .i64 0, .int .i64 0] 8 (World.laidAll_os _ _ _)
      (World.shaped_of_ZipB (by kernel_rfl) (by kernel_rfl)) (by kernel_rfl) (by kernel_rfl) (by kernel_rfl) (laid_world os _)) laidOut
    (by rw [Tryd.params3]; exact of_decide_eq_true (by kernel_rfl)) rfl 4 Tryd.underlying4 (by kernel_rfl)
    (fun ds h => by
      rw [Tryd.params3] at h
      match ds, h with
      | [_, _, _, _], _ => rfl) ?_
  intro W base args ds ps hval hA hL
  rw [Tryd.params3] at hA hval
  have hT := tabs_of_laid W hL
  obtain ⟨v0, v1, v2, v3, d0, d1, d2, d3, p0, p1, p2, p3, rfl, rfl, rfl, h0, h1, h2, h3⟩ := trodAll_four hA
  obtain ⟨l, hl, hs, hm⟩ := open_acts (hval 0 22 v0 rfl rfl) h0
  obtain ⟨a, rfl, rfl, rfl, _⟩ := open_int Tryd.underlying3 (hval 1 3 v1 rfl rfl) h1
  obtain ⟨b, rfl, rfl, rfl, _⟩ := open_int Tryd.underlying3 (hval 2 3 v2 rfl rfl) h2
  obtain ⟨c, rfl, rfl, rfl, _⟩ := open_int Tryd.underlying3 (hval 3 3 v3 rfl rfl) h3
  exact script_law l v0 a b c W hl hs hm hT

theorem script_holds : Rows.TreeScriptSaid :=
  OpenClaim.holds_of_wide 3 Tryd.f3 rfl rfl rfl rfl rfl rfl rfl ⟨rfl, rfl, rfl, rfl, rfl⟩ rfl rfl rfl rfl rfl (by kernel_rfl) Tryd.func3 (by kernel_rfl)
    (of_decide_eq_true (by kernel_rfl)) (by unfold Func.isWrapper; first | (rw [if_pos (by decide +kernel)]; kernel_rfl) | (rw [if_neg (by decide +kernel)]; exact ⟨rfl, rfl⟩))
    (fun os started H enc _ => script_lifted os started H enc)

theorem script_card : Rows.TreeScriptCardSaid :=
  Claim7.holds_tied_plain_at .later [] _ _ _ _ script_holds (fun _ h => by cases h) (by kernel_rfl) (fun _ h => by cases h) treeScript_row_tie rfl ⟨rfl, rfl⟩ (by kernel_rfl) rfl
    (fun f fn hf hfn => by
      obtain rfl : f = 3 := Option.some.inj ((show Tryd.prog.funcNamed Rows.treeScriptRow.func = some 3 by kernel_rfl).symm.trans hf) |>.symm
      obtain rfl : fn = Tryd.f3 := (Option.some.inj (Tryd.func3.symm.trans hfn)).symm
      exact ⟨by kernel_rfl, fun j t ht => by
        rw [Tryd.params3] at ht
        have hm : t ∈ [22, 3, 3, 3] := by simpa using Array.mem_of_getElem? ht
        have hall : ([22, 3, 3, 3].all fun u => !Tryd.prog.wantsStandIn u) = true := by kernel_rfl
        exact (show Tryd.prog.wantsStandIn t = false by simpa using List.all_eq_true.1 hall t hm)⟩)
    (by kernel_rfl)
#print axioms script_card
end Go.Proofs.YtchkadifjbmmpaaDoor
