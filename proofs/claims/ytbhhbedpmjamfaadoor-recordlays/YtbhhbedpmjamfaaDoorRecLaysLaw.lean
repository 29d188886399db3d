/-
  RecordLays, as a call: it answers true.
-/
import Derived.Test.YtbhhbedpmjamfaaDoorRecAwake
namespace Go.Proofs.YtbhhbedpmjamfaaDoor
open Go.RowKit Go.Lib

set_option maxHeartbeats 4000000 in
theorem lays_great (r : Rc) (w : World) (hT : Tabs w) (h : 300 < (r.t.size : Int)) :
    Calls Tryd.prog 4 #[.agg #[.int .i64 r.o, .int .i64 r.s, .int .i64 r.w, .int .i64 r.c, .string r.t]] w fun e w' => e = .returned (.bool true) ∧ Below w.heap.size w w' := by
  have hA := Lib.hid (awake_c _ (hT.below (alloc_below w (.cells #[.int .i64 r.o, .int .i64 r.s, .int .i64 r.w, .int .i64 r.c, .string r.t] 27))))
  go_enter Tryd.func4, Tryd.ntmps4
  go_wp2_with fail
  refine hA.out.mono ?_
  rintro e w1 ⟨rfl, b1⟩
  go_wp2
  go_ret
  exact ⟨rfl, bn (alloc_below _ _) b1⟩

set_option maxHeartbeats 8000000 in
theorem lays_few (r : Rc) (w : World) (hT : Tabs w) (h : ¬ 300 < (r.t.size : Int)) :
    Calls Tryd.prog 4 #[.agg #[.int .i64 r.o, .int .i64 r.s, .int .i64 r.w, .int .i64 r.c, .string r.t]] w fun e w' => e = .returned (.bool true) ∧ Below w.heap.size w w' := by
  have HT := Lib.hid hT
  have HL : Hid (∀ W, Below w.heap.size w W → Calls Tryd.prog 26 #[.agg #[.int .i64 r.o, .int .i64 r.s, .int .i64 r.w, .int .i64 r.c, .string r.t]] W (layT r W)) := Lib.hid (fun W hb => lay_c r W (by omega) (hT.below hb))
  have HR : Hid (∀ W, Below w.heap.size w W → Calls Tryd.prog 27 #[.agg #[.int .i64 r.o, .int .i64 r.s, .int .i64 r.w, .int .i64 r.c, .string r.t]] W (layT r W)) := Lib.hid (fun W hb => reflay_c r W (by omega) (hT.below hb))
  have HX := Lib.hid (Bx.new 27 w #[.int .i64 r.o, .int .i64 r.s, .int .i64 r.w, .int .i64 r.c, .string r.t])
  unfold layT at HL HR
  have hll : (if mayR r then layL r else []).length ≤ 1000 := by
    split
    · rw [layL_len]; omega
    · simp
  generalize (if mayR r then layL r else []) = l at HL HR hll
  generalize (if mayR r then (0 : Int) else 2) = E at HL HR
  clear hT
  go_enter Tryd.func4, Tryd.ntmps4
  go_wp2_with fail
  refine (HL.out _ (alloc_below _ _)).mono ?_
  rintro e w1 ⟨v1, rfl, h1, b1⟩
  have hx1 := HX.out.below b1
  have B1 := Lib.hid (bn (alloc_below w (.cells #[.int .i64 r.o, .int .i64 r.s, .int .i64 r.w, .int .i64 r.c, .string r.t] 27)) b1)
  have H1 := Lib.hid h1
  have hv1 : Hid (∀ g, v1.ownBlock = some g → w.heap.size + 1 ≤ g ∧ g < w1.heap.size) := Lib.hid (fun g hg => by have := World.ownsRow.lt h1 g hg; simpa using this)
  obtain ⟨c0, c1, c2, c3, c4⟩ := hx1.five
  have hl1 := hx1.lt
  have HX1 := Lib.hid hx1
  clear hx1 b1 HX h1
  go_wp2_with fail
  refine (HR.out _ B1.out).mono ?_
  rintro e w2 ⟨v2, rfl, h2, b2⟩
  have H2 := Lib.hid h2
  have hv2 : Hid (∀ g, v2.ownBlock = some g → w1.heap.size ≤ g) := Lib.hid (fun g hg => (World.ownsRow.lt h2 g hg).1)
  have H1b := Lib.hid (H1.out.below b2)
  have HX2 := Lib.hid (HX1.out.below b2)
  have B2 := Lib.hid (bn B1.out b2)
  have hs12 : w1.heap.size ≤ w2.heap.size := b2.size
  clear b2 h2 B1 H1 HX1 c0 c1 c2 c3 c4 hl1
  go_wp2_with fail
  refine (bsame_c l l v1 v2 w2 H1b.out.nl H2.out.nl (by omega)).mono ?_
  rintro e w3 ⟨rfl, b3⟩
  rw [sameB_self]
  have H2c := Lib.hid (H2.out.below b3)
  have H1c := Lib.hid (H1b.out.below b3)
  have HX3 := Lib.hid (HX2.out.below b3)
  have B3 := Lib.hid (bn B2.out b3)
  have hs23 : w2.heap.size ≤ w3.heap.size := b3.size
  clear b3 B2 H2 H1b HX2
  go_wp2_with fail
  refine (num_c E _).mono ?_
  rintro e w4 ⟨rfl, rfl⟩
  go_wp2_with fail
  refine (bover_c l v1 w3 _ H1c.out (by omega) (by have := B3.out.size; have := HX3.out.lt; simp; omega)).mono ?_
  rintro e w5 ⟨rfl, hgr⟩
  have H5 := Lib.hid (H2c.out.far hgr (fun g hg g' hg' => by have := hv1.out g hg; have := hv2.out g' hg'; omega))
  have HX5 := HX3.out.far hgr (by intro e; have := hv1.out _ e.symm; omega)
  have B5 : Hid (Below w.heap.size w w5) := Lib.hid (B3.out.trans (below_of_grown hgr B3.out.size (fun g hg => by have := hv1.out g hg; omega)))
  obtain ⟨c0, c1, c2, c3, c4⟩ := HX5.five
  have hl5 := HX5.lt
  clear hgr H1c H2c HX3 B3 HX5
  go_wp2_with fail
  refine (HL.out _ B5.out).mono ?_
  rintro e w6 ⟨v6, rfl, h6, b6⟩
  have H6 := Lib.hid h6
  have H5b := Lib.hid (H5.out.below b6)
  have B6 := Lib.hid (bn B5.out b6)
  clear h6 b6 H5 B5 c0 c1 c2 c3 c4 hl5
  go_wp2_with fail
  refine (bsame_c l l v6 v2 w6 H6.out.nl H5b.out.nl (by omega)).mono ?_
  rintro e w7 ⟨rfl, b7⟩
  rw [sameB_self]
  have B7 := Lib.hid (bn B6.out b7)
  clear b7
  go_wp2_with fail
  refine (awake_c w7 (HT.out.below B7.out)).mono ?_
  rintro e w8 ⟨rfl, b8⟩
  go_wp2
  go_ret
  exact ⟨rfl, bn B7.out b8⟩

end Go.Proofs.YtbhhbedpmjamfaaDoor
