/-
  A ledger and a row of records beside it: what is handed to Write and Trim is just laid; a row without its first ones.
-/
import Derived.Test.YtjmkphnppegegaaGreatDoorPkLu
import Derived.Test.YtjmkphnppegegaaGreatDoorPkLe
namespace Go.Proofs.YtjmkphnppegegaaGreatDoor
open Go.RowKit Go.Lib
set_option maxRecDepth 100000

section
variable {w0 w w' : World} {z g p : Nat} {S S' : Lg} {own own' : Nat → Prop} {v : Value} {ys : List Ev} {zl : List Int}
/-- Write of a record, with lists just laid. -/
theorem Cr.writeRec (h : Cr w0 w z g p S own v ys zl) {j : Nat} {t : ByteArray} (hc : Tr t S j) (hj : j ≤ 41) (hT : Tabs w0) (hm : mayE (recE ((j : Int) + 1) ((j : Int) + 1) t) 1 = true) :
    Calls Tryz.prog 17 #[.pointer (some ⟨g, 0, none⟩), .agg #[.int .i64 2, .slice none 0 0, .slice none 0 0, .int .i64 0, .int .i64 ((j : Int) + 1), .int .i64 ((j : Int) + 1), .int .i64 0, .string t], .slice (some ⟨w.heap.size, 0, none⟩) 1 1, .slice (some ⟨w.heap.size + 1, 0, none⟩) 1 1]
      ((w.alloc (.cells #[.int .i64 (j : Int)] 3)).alloc (.cells #[.int .i64 0] 3)) fun e w' => e = .returned (.int .i64 0) ∧ ∃ own', Cr w0 w' z g p (S.write (recE ((j : Int) + 1) ((j : Int) + 1) t) [(j : Int)] [0]) own' v ys zl ∧ Step w (plusB own g) w' (plusB own' g) := by
  have hA := alloc_below w (.cells #[.int .i64 (j : Int)] 3)
  have hB := bn hA (alloc_below (w.alloc (.cells #[.int .i64 (j : Int)] 3)) (.cells #[.int .i64 0] 3))
  have n2 := Nl.one (w.alloc (.cells #[.int .i64 (j : Int)] 3)) 0 3
  rw [show (w.alloc (.cells #[.int .i64 (j : Int)] 3)).heap.size = w.heap.size + 1 by simp] at n2
  have h1 := hc.cs.A
  have h2 := hc.cs.us
  have h3 := hc.cs.k
  rw [recsE_len] at h1 h2
  refine ((h.below hB).write (n := 1) hc.cs.n (by omega) (by omega) ⟨recE ((j : Int) + 1) ((j : Int) + 1) t, .slice none 0 0, .slice none 0 0⟩ (.inl ⟨rfl, rfl⟩) (.inl ⟨rfl, rfl⟩) hT _ _ [(j : Int)] [0] ((Nl.one w (j : Int) 3).below (alloc_below _ _)) n2 (by simp [recE]) hm (base_may1 (by omega) (by omega))).mono ?_
  rintro e w' ⟨rfl, own', h4, h5⟩
  exact ⟨rfl, own', h4, h5.beside hB⟩
/-- A record more in the row. -/
theorem Cr.pushRec (h : Cr w0 w z g p S own v ys zl) (i : Int) (t : ByteArray) (hn : ys.length ≤ 1000) (ty T : TypeId) :
    ∃ A C w1, (Builtin.append_ #[22, 22] ty #[v, .slice (some ⟨w.heap.size, 0, none⟩) 1 1]).run Tryz.prog (w.alloc (.cells #[.int .i64 2, .slice none 0 0, .slice none 0 0, .int .i64 0, .int .i64 i, .int .i64 i, .int .i64 0, .string t] T)) = .ok (.slice A (ys.length + 1) C) w1 ∧ Cr w0 w1 z g p S own (.slice A (ys.length + 1) C) (ys ++ [⟨recE i i t, .slice none 0 0, .slice none 0 0⟩]) zl :=
  h.push ⟨recE i i t, .slice none 0 0, .slice none 0 0⟩ (.inl ⟨rfl, rfl⟩) (.inl ⟨rfl, rfl⟩) hn ty T
/-- A box of eight cells just laid, none of own's. -/
theorem Cr.boxed (h : Cr w0 w z g p S own v ys zl) (cs : Array Value) (T : TypeId) {w2 : World} {own2 : Nat → Prop} (hs : Step (w.alloc (.cells cs T)) (plusB own g) w2 (plusB own2 g)) : Bx T w2 w.heap.size cs := by
  have hx := Bx.new T w cs
  refine (hs.turn.block _ hx.lt (fun k => ?_)).trans hx
  rcases k with k | k
  · have := h.ld.dr.up k; omega
  · have := h.ld.lt; omega
/-- The elder ledger, where another one was opened on its drive. -/
theorem Cr.old (h : Cr w0 w z g p S own v ys zl) (hs : Step w own w' own') (d : Dr w' p S.P 60000 own') : Cr w0 w' z g p S own' v ys zl :=
  h.stepP (hs.plus g) ⟨h.ld.lb.turn hs.turn h.ld.ng, d, hs.not h.ld.ng h.ld.lt, h.ld.ok⟩
/-- Trim, of a list of one number just laid. -/
theorem Cr.trim (h : Cr w0 w z g p S own v ys zl) (hn : S.n = 1) (hy : S.y = (rowsE S.L).length) (hT : Tabs w0) (u : Int) :
    Calls Tryz.prog 27 #[.pointer (some ⟨g, 0, none⟩), .slice (some ⟨w.heap.size, 0, none⟩) 1 1] (w.alloc (.cells #[.int .i64 u] 3)) fun e w' => ∃ r own', e = .returned (.int .i64 ((r : Nat) : Int)) ∧ r ≤ S.A.length ∧ (∀ i (hi : i < S.A.length), i < r → retE u S.A[i] = true) ∧ (∀ hr : r < S.A.length, retE u S.A[r] = false) ∧ Cr w0 w' z g p (S.cut r) own' v ys zl := by
  have hal := alloc_below w (.cells #[.int .i64 u] 3)
  have h1 := h.below hal
  have k : Kz (w.alloc (.cells #[.int .i64 u] 3)) (plusB own g) w.heap.size [u] := ⟨Bx.new _ _ _, fun o => by
    rcases o with o | o
    · have := h.ld.dr.up o; omega
    · have := h.ld.lt; omega⟩
  refine (trim_c _ g p 60000 S own _ u h1.ld hn hy (by omega) (fun W own' hs => (k.step hs).nl) (fun W own' hs => (h1.gr.stepP h1.gg hs).tabs hT)).mono ?_
  rintro e w' ⟨r, own', rfl, h2, h3, h4, h5, h6⟩
  exact ⟨r, own', rfl, h2, h3, h4, h1.stepP h6 h5⟩
end
/-- A row of entries without its first c. -/
theorem Er.drop {W0 : World} {ad : Option Addr} {n cap : Nat} {l : List Ev} (h : Er W0 (.slice ad n cap) l) (c : Nat) (hc : c ≤ l.length) :
    ∃ A C, (∀ W, (Instr.sliceAt 22 (.slice ad n cap) (some (.int .i64 (c : Int))) none none).run Tryz.prog W = .ok (.slice A (l.length - c) C) W) ∧ ∀ W, Er W (.slice ad n cap) l → Er W (.slice A (l.length - c) C) (l.drop c) := by
  obtain ⟨ad', cap', e, hcap, _⟩ := h
  simp only [Value.slice.injEq] at e
  obtain ⟨rfl, rfl, rfl⟩ := e
  have hb : ∀ W, (Instr.sliceBounds true l.length cap (some (.int .i64 (c : Int))) none none).run Tryz.prog W = .ok (c, l.length, cap) W := fun W => by simp [Instr.sliceBounds, run_sliceBound_if, show c ≤ l.length by omega]
  have hs : ∀ W, (sizeOf 43).run Tryz.prog W = .ok 8 W := fun W => by
    have := Tryz.sizeOf43
    simp [sizeOf]
    rfl
  refine ⟨if cap = c then ad else ad.map fun a => a.add (c * 8), cap - c, fun W => ?_, fun W hE => ?_⟩
  · rw [run_sliceAt_slice W _ _ _ _ _ Tryz.underlying22, run_slice_any W _ _ _ _ Tryz.underlying22, hb]
    simp only [Result.andThen]
    rw [show Tryz.prog.elem 22 = 43 by kernel_rfl, hs]
    have hz : sliced ad c l.length cap 8 = .slice (if cap = c then ad else ad.map fun a => a.add (c * 8)) (l.length - c) (cap - c) := by
      unfold sliced
      cases ad with
      | none => simp
      | some a =>
        by_cases h0 : cap = c
        · simp [h0]
        · simp [h0]
    simp only [hz]
  · obtain ⟨ad2, cap2, e2, _, hs2⟩ := hE
    simp only [Value.slice.injEq, true_and] at e2
    obtain ⟨rfl, rfl⟩ := e2
    have hl : (l.drop c).length = l.length - c := by simp
    refine ⟨_, _, by rw [hl], by rw [hl]; omega, fun h0 => ?_⟩
    rw [hl] at h0
    obtain ⟨b, o, rfl, hs3⟩ := hs2 (by omega)
    have hne : ¬ cap = c := by omega
    rw [if_neg hne]
    refine ⟨b, o + c * 8, by simp only [Option.map_some]; rw [Go.WideShapes.add_plain], fun k hk => ?_⟩
    rw [hl] at hk
    have h3 := hs3 (c + k) (by omega)
    rw [List.getElem_drop, show o + c * 8 + k * 8 = o + (c + k) * 8 by omega]
    exact h3
end Go.Proofs.YtjmkphnppegegaaGreatDoor
