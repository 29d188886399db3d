/-
  Same of package tree, of two that are the same, by contract.
-/
import Derived.Test.YtchkadifjbmmpaaDoorTrDrop
import Derived.Maps.RangeWalk
import Derived.Laws.BytesArg
namespace Go.Proofs.YtchkadifjbmmpaaDoor
open Go.RowKit Go.Lib Go.Maps Go.Sort
set_option maxRecDepth 100000
set_option linter.unusedSimpArgs false

theorem conv_run {W : World} {A : Option Addr} {N C : Nat} {l : List Int} (h : D.Bl W (.slice A N C) l) (h0 : 0 < l.length) : (convert 55 9 (.slice A N C)).run Tryd.prog W = .ok (.string (strOfNums l)) W := by
  rcases h with ⟨e, rfl⟩ | ⟨ad, cap, e, h⟩
  · simp at h0
  · simp only [Value.slice.injEq] at e
    obtain ⟨rfl, rfl, rfl⟩ := e
    obtain ⟨b, o, rfl, hs⟩ := h h0
    exact run_convert_bytes_arg (P := Tryd.prog) W 55 5 Tryd.underlying55 Tryd.underlying5 b o l.length C l rfl (fun i hi => by
      rw [hs i hi, List.getD_eq_getElem?_getD, List.getElem?_eq_getElem hi]; rfl) 9 Tryd.underlying9
theorem conv_run2 {W : World} {A : Option Addr} {N C : Nat} {l : List Int} (h : D.Bl W (.slice A N C) l) (h0 : 0 < l.length) : (Conv.bytesToString (.slice A N C)).run Tryd.prog W = .ok (.string (strOfNums l)) W := by
  have h1 := conv_run h h0
  generalize strOfNums l = S at h1 ⊢
  simp only [convert, go_sem] at h1
  exact h1
theorem kb_same : True := trivial
theorem below_of_grown {a b : World} {r : Option Nat} {B : Nat} (h : a.grownBy b r) (hB : B ≤ a.heap.size) (hg : ∀ g, r = some g → B ≤ g) : Below B a b :=
  ⟨h.os, h.tape, h.output, h.size, fun i hi => h.block i (by omega) (by intro e; have := hg i e.symm; omega)⟩
theorem equalb_c (a b : Value) (bs : List Int) (w : World) (ha : D.Bl w a bs) (hb : D.Bl w b bs) (h0 : 0 < bs.length) :
    Calls Tryd.prog 53 #[a, b] w fun e w' => e = .returned (.bool true) ∧ Below w.heap.size w w' := by
  obtain ⟨A1, C1, rfl, _⟩ := id ha.form
  obtain ⟨A2, C2, rfl, _⟩ := id hb.form
  have c1 := conv_run ha h0
  have c2 := conv_run hb h0
  have d1 := conv_run2 ha h0
  have d2 := conv_run2 hb h0
  generalize strOfNums bs = t at *
  generalize bs.length = n at *
  clear ha hb
  go_enter Tryd.func53, Tryd.ntmps53
  go_wp2_with fail
  go_ret
  exact ⟨by first | rfl | simp, Below.refl _ _⟩
set_option maxHeartbeats 8000000 in
theorem equalf_c (b1 b2 : Nat) (T1 T2 : List Kb) (w : World) (h1 : PM Tryd.prog w 32 b1 (T1.map tb)) (h2 : PM Tryd.prog w 32 b2 (T2.map tb)) (r1 : ∀ x ∈ T1, D.Bl w x.v x.bs) (r2 : ∀ x ∈ T2, D.Bl w x.v x.bs) (hok : ∀ x ∈ T1, okKy x.k ∧ 0 < x.bs.length) (hl : T1.length = T2.length) (hm : ∀ x ∈ T1, ∃ y ∈ T2, y.k = x.k ∧ y.bs = x.bs) :
    Calls Tryd.prog 52 #[.map (some b1), .map (some b2), .func (.func 53) #[] #[]] w fun e w' => e = .returned (.bool true) ∧ Below w.heap.size w w' := by
  have hlen1 := fun ty => h1.len Tryd.underlying82 ty
  have hlen2 := fun ty => h2.len Tryd.underlying82 ty
  rw [List.length_map] at hlen1 hlen2
  have H1 := Lib.hid h1
  have H2 := Lib.hid h2
  have R1 := Lib.hid r1
  have R2 := Lib.hid r2
  have HOK := Lib.hid hok
  have HM := Lib.hid hm
  rw [← hl] at hlen2
  clear h1 h2 r1 r2 hok hm hl
  go_enter Tryd.func52, Tryd.ntmps52
  go_wp2_with (first
    | (at_range; refine wpList_range_pm rfl _ 82 rfl 32 55 keyed Tryd.underlying82 b1 (T1.map tb) rfl H1.out ?_; intro w0 hrg0 hg0 hs0))
  go_frame
  clear hlen1 hlen2
  go_loopw [6] (fun v6 wr => v6 = .bool false ∧ ∃ (left : List (Value × Value)), Hid (PR Tryd.prog wr 32 b1 w.heap.size (T1.map tb) left) ∧ Hid (Below w.heap.size w wr)) (fun _ wr => wr.rangeLeft b1 w.heap.size)
  case atStart => exact ⟨rfl, _, Lib.hid hrg0, Lib.hid ⟨hg0.os, hg0.tape, hg0.output, hg0.size, fun i hi => hg0.block i hi (fun e => by cases e)⟩⟩
  case round =>
    obtain ⟨rfl, left, hrg, HB⟩ := hrel
    go_wp2_with (first
      | (at_next; refine wpList_next_pm rfl _ rfl 32 keyed b1 w.heap.size (T1.map tb) left rfl hrg.out ?_ ?_))
    · intro hl0
      subst hl0
      go_wp2
      go_ret
      exact ⟨rfl, HB.out⟩
    · intro pre key v post w2 hl0 hrg2 hg2 hs2 hen hlt
      have hkm : (key, v) ∈ T1.map tb := hrg.out.2.1 _ (by simp [hl0])
      obtain ⟨⟨⟨xo, xs⟩, xv, xts⟩, hxm, hxe⟩ := List.mem_map.1 hkm
      simp only [tb, kyv, Prod.mk.injEq] at hxe
      obtain ⟨rfl, rfl⟩ := hxe
      have hb2 : Below w.heap.size w w2 := HB.out.trans (below_of_grown hg2 HB.out.size (fun g hg => by cases hg; exact Nat.le_refl _))
      obtain ⟨w3, hw3⟩ : ∃ w3, w3 = w2.alloc (.cells #[.int .i64 xo, .int .i64 xs] 32) := ⟨_, rfl⟩
      have hal : Below w2.heap.size w2 w3 := by rw [hw3]; exact alloc_below _ _
      have bx : R.Bx 32 w3 w2.heap.size #[.int .i64 xo, .int .i64 xs] := by rw [hw3]; exact R.Bx.new _ w2 _
      have hb3 : Below w.heap.size w w3 := bn hb2 hal
      have hrow := (R1.out _ hxm).below hb3
      simp only at hrow
      obtain ⟨XA, XC, rfl, _⟩ := id hrow.form
      obtain ⟨⟨⟨yo, ys⟩, yv, yts⟩, hy, e, eb⟩ := HM.out _ hxm
      simp only [Prod.mk.injEq] at e eb
      obtain ⟨e1, e2⟩ := e
      subst e1 e2 eb
      obtain ⟨kl, hkl⟩ := kyv_lit (yo, ys) (HOK.out _ hxm).1
      have hlk := ((H2.out.below hb3).look (z := .slice none 0 0) keyed Tryd.underlying82 (fun w => by simp [Tryd.zeroValue55]) hkl (v := yv) (List.mem_map.2 ⟨_, hy, rfl⟩)).1
      simp only [kyv] at hlk
      have hrow2 := (R2.out _ hy).below hb3
      simp only at hrow2
      obtain ⟨YA, YC, rfl, _⟩ := id hrow2.form
      have CE := Lib.hid (equalb_c _ _ yts w3 hrow hrow2 (HOK.out _ hxm).2)
      have hlk2 := hlk
      rw [hw3] at hlk2
      have HRG := Lib.hid (hrg2.below hal)
      have HLT : Hid (w3.rangeLeft b1 w.heap.size < wr.rangeLeft b1 w.heap.size) := Lib.hid (by
        rw [PR.left_same (hal.block b1 hrg2.pm.lt) (hal.block _ hrg2.lt)]
        exact hlt)
      have HB3 := Lib.hid hb3
      have z0 := bx.cell 0
      have z1 := bx.cell 1
      simp only [List.getElem?_toArray, List.getElem?_cons_succ, List.getElem?_cons_zero] at z0 z1
      have bl := bx.lt
      clear hkm hb2 hal bx hb3 hrow hrow2 hrg2 hg2 hs2 hlt hl0 hxm hy hkl
      go_wp2_with fail
      rw [← hw3]
      clear hw3
      go_wp2_with (go_at_call 53; refine CE.out.mono ?_; rintro e w4 ⟨rfl, b4⟩; have HB4 := Lib.hid b4; clear b4)
      go_wp2
      have HRG4 := Lib.hid (HRG.out.below HB4.out)
      go_roundw
      case rel => exact ⟨rfl, pre ++ post, HRG4, Lib.hid (bn HB3.out HB4.out)⟩
      case measure =>
        rw [PR.left_same (HB4.out.block b1 HRG.out.pm.lt) (HB4.out.block _ HRG.out.lt)]
        exact HLT.out
/-- The same Keys, each with the same bytes. -/
def sameS (A B : Sb) : Prop := A.length = B.length ∧ ∀ x ∈ A, x ∈ B
set_option maxHeartbeats 8000000 in
theorem same_c (p1 p2 : Nat) (S1 S2 : Sb) (own1 own2 : Nat → Prop) (w : World) (h1 : Tr w p1 S1 own1) (h2 : Tr w p2 S2 own2) (hs : sameS S1 S2) :
    Calls Tryd.prog 24 #[.pointer (some ⟨p1, 0, none⟩), .pointer (some ⟨p2, 0, none⟩)] w fun e w' => e = .returned (.bool true) ∧ Below w.heap.size w w' := by
  have mixed : Tryd.prog.follows .mixedOrders = true := by kernel_rfl
  obtain ⟨b1, T1, x1, rfl⟩ := h1
  obtain ⟨b2, T2, x2, rfl⟩ := h2
  have HS : Hid (∀ W, Below w.heap.size w W → W.cell? ⟨p1, 0, none⟩ = some (.map (some b1)) ∧ W.cell? ⟨p2, 0, none⟩ = some (.map (some b2))) := Lib.hid (fun W hW => ⟨(x1.bx.below hW).map, (x2.bx.below hW).map⟩)
  have HC : Hid (∀ W, Below w.heap.size w W → Calls Tryd.prog 52 #[.map (some b1), .map (some b2), .func (.func 53) #[] #[]] W fun e w' => e = .returned (.bool true) ∧ Below W.heap.size W w') := Lib.hid (fun W hW => equalf_c b1 b2 T1 T2 W (x1.below hW).mp (x2.below hW).mp (fun x hx => bl_of_row ((x1.below hW).tr x hx)) (fun x hx => bl_of_row ((x2.below hW).tr x hx)) (fun x hx => ⟨keyB_ok (x1.tk x hx), (x1.tl x hx).1⟩) (by simpa using hs.1) (fun x hx => by
    obtain ⟨y, hy, e⟩ := List.mem_map.1 (hs.2 _ (List.mem_map_of_mem hx))
    simp only [kbs, Prod.mk.injEq] at e
    exact ⟨y, hy, e.1, e.2⟩))
  clear x1 x2 hs
  go_enter Tryd.func24, Tryd.ntmps24
  go_wp2_with fail
  go_region_held3 (fun W => W.cell? ⟨p1, 0, none⟩ = some (.map (some b1)) ∧ W.cell? ⟨p2, 0, none⟩ = some (.map (some b2))) (exact HS.out _ (by first | assumption | exact (Below.refl _ _).drew)) (first | (go_at_call 52; refine (HC.out _ (by first | assumption | exact (Below.refl _ _).drew)).mono ?_; rintro e w1 ⟨rfl, b1⟩; have hb1 : Below w.heap.size w w1 := bn (by first | assumption | exact (Below.refl _ _).drew) b1))
  go_wp2
  go_ret
  exact ⟨rfl, hb1⟩
end Go.Proofs.YtchkadifjbmmpaaDoor
