/-
  Put and Drop of one, at the tree and at the chapter's own.
-/
import Derived.Test.YthamhbbgmibmoaaDoorTrAnP
namespace Go.Proofs.YthamhbbgmibmoaaDoor
open Go.RowKit Go.Lib Go.Maps
set_option maxRecDepth 100000
set_option linter.unusedSimpArgs false

theorem put1_c (p : Nat) (S : Sb) (own : Nat → Prop) (r : R.Rc) (w : World) (h : Tr w p S own) (hs : r.t.size ≤ 9223372036854775807 ∧ okKy (kyR r)) (hn : S.length ≤ 100000) (hT : ∀ W, Turn own w W → R.Tabs W) :
    Calls Tryd.prog 12 #[.pointer (some ⟨p, 0, none⟩), .slice (some ⟨w.heap.size, 0, none⟩) 1 1] (w.alloc (.cells #[.int .i64 r.o, .int .i64 r.s, .int .i64 r.w, .int .i64 r.c, .string r.t] 36)) fun e w' =>
      ∃ own', e = .returned (.int .i64 (((putS S r).length : Int) - (S.length : Int))) ∧ Tr w' p (putS S r) own' ∧ Turn own w w' ∧ ∀ i, own' i → own i ∨ w.heap.size ≤ i := by
  have bx : R.Bx 36 (w.alloc (.cells #[.int .i64 r.o, .int .i64 r.s, .int .i64 r.w, .int .i64 r.c, .string r.t] 36)) w.heap.size #[.int .i64 r.o, .int .i64 r.s, .int .i64 r.w, .int .i64 r.c, .string r.t] := R.Bx.new _ w _
  have hb := alloc_below w (.cells #[.int .i64 r.o, .int .i64 r.s, .int .i64 r.w, .int .i64 r.c, .string r.t] 36)
  refine (put_c p S own (.slice (some ⟨w.heap.size, 0, none⟩) 1 1) [r] _ (h.below hb) (fun W hW => ?_) (fun x hx => ?_) (by simp) hn (fun W hW => hT W ((Turn.ofBelow hb).trans hW))).mono ?_
  · have hx : R.Bx 36 W w.heap.size #[.int .i64 r.o, .int .i64 r.s, .int .i64 r.w, .int .i64 r.c, .string r.t] := (hW.block _ bx.lt (fun hh => by have := h.up _ hh; omega)).trans bx
    exact R.rl_one W _ r hx
  · simp only [List.mem_singleton] at hx
    subst hx
    exact hs
  · rintro e w' ⟨own', rfl, h1, t1, o1⟩
    exact ⟨own', rfl, h1, (Turn.ofBelow hb).trans t1, fun i hi => (o1 i hi).imp id (fun hh => Nat.le_trans hb.size hh)⟩
theorem rput1_c (q : Nat) (L : List R.Rc) (r : R.Rc) (w : World) (P : Nat → Prop) (hP : ∀ i, w.heap.size ≤ i → P i) (h : RT w q L P) (hs : r.t.size ≤ 9223372036854775807) (hn : L.length ≤ 1000) (hT : ∀ W, w.grownBy W (some q) → R.Tabs W) :
    Calls Tryd.prog 13 #[.pointer (some ⟨q, 0, none⟩), .slice (some ⟨w.heap.size, 0, none⟩) 1 1] (w.alloc (.cells #[.int .i64 r.o, .int .i64 r.s, .int .i64 r.w, .int .i64 r.c, .string r.t] 36)) fun e w' =>
      ∃ n, e = .returned (.int .i64 n) ∧ n = ((refPut L r).length : Int) - (L.length : Int) ∧ RT w' q (refPut L r) P ∧ w.grownBy w' (some q) := by
  have bx : R.Bx 36 (w.alloc (.cells #[.int .i64 r.o, .int .i64 r.s, .int .i64 r.w, .int .i64 r.c, .string r.t] 36)) w.heap.size #[.int .i64 r.o, .int .i64 r.s, .int .i64 r.w, .int .i64 r.c, .string r.t] := R.Bx.new _ w _
  have hb := alloc_below w (.cells #[.int .i64 r.o, .int .i64 r.s, .int .i64 r.w, .int .i64 r.c, .string r.t] 36)
  obtain ⟨v, h1, h2, hp⟩ := h
  have hq := h1.lt
  refine (rput_c q L [r] (some ⟨w.heap.size, 0, none⟩) 1 _ P (fun i hi => hP i (Nat.le_trans hb.size hi)) ⟨v, h1.below hb, h2.below hb, hp⟩ (fun W hW => ?_) (fun x hx => ?_) (by simp) hn (fun W hW => hT W (grown_trans (grown_below hb _) hW))).mono ?_
  · exact R.rl_one W _ r ((hW.block _ bx.lt (fun e => by have := Option.some.inj e; omega)).trans bx)
  · simp only [List.mem_singleton] at hx
    subst hx
    exact hs
  · rintro e w' ⟨rfl, h3, g3⟩
    exact ⟨_, rfl, rfl, h3, grown_trans (grown_below hb _) g3⟩
theorem rdrop1_c (q : Nat) (L : List R.Rc) (o s : Int) (w : World) (P : Nat → Prop) (hP : ∀ i, w.heap.size ≤ i → P i) (h : RT w q L P) (hn : L.length ≤ 1000) :
    Calls Tryd.prog 11 #[.pointer (some ⟨q, 0, none⟩), .slice (some ⟨w.heap.size, 0, none⟩) 1 1] (w.alloc (.cells #[.int .i64 o, .int .i64 s] 32)) fun e w' =>
      ∃ n, e = .returned (.int .i64 n) ∧ n = (L.length : Int) - ((refDrop L (o, s)).length : Int) ∧ RT w' q (refDrop L (o, s)) P ∧ w.grownBy w' (some q) := by
  have bx : R.Bx 32 (w.alloc (.cells #[.int .i64 o, .int .i64 s] 32)) w.heap.size #[.int .i64 o, .int .i64 s] := R.Bx.new _ w _
  have hb := alloc_below w (.cells #[.int .i64 o, .int .i64 s] 32)
  obtain ⟨v, h1, h2, hp⟩ := h
  have hq := h1.lt
  refine (rdrop_c q L [(o, s)] (.slice (some ⟨w.heap.size, 0, none⟩) 1 1) _ P (fun i hi => hP i (Nat.le_trans hb.size hi)) ⟨v, h1.below hb, h2.below hb, hp⟩ (fun W hW => ?_) (by simp) hn).mono ?_
  · have hx : R.Bx 32 W w.heap.size #[.int .i64 o, .int .i64 s] := (hW.block _ bx.lt (fun e => by have := Option.some.inj e; omega)).trans bx
    refine ⟨_, 1, rfl, by simp, fun _ => ⟨w.heap.size, 0, rfl, fun k hk => ?_⟩⟩
    have hk1 : k < 1 := hk
    match k, hk1 with
    | 0, _ => exact ⟨hx.cell 0, hx.cell 1⟩
  · rintro e w' ⟨rfl, h3, g3⟩
    exact ⟨_, rfl, rfl, h3, grown_trans (grown_below hb _) g3⟩
end Go.Proofs.YthamhbbgmibmoaaDoor
