/-
  SameEntries of like ones, OverEntries, great, by contract.
-/
import Derived.Test.YtcnpckdchjjeoaaDoorSegRow
import Derived.Test.YtcnpckdchjjeoaaDoorMVecMore
namespace Go.Proofs.YtcnpckdchjjeoaaDoor
open Go.RowKit Go.Lib
set_option maxRecDepth 100000

theorem sameR_self (r : Rc) : sameR r r = true := by simp [sameR]

set_option maxHeartbeats 4000000 in
theorem sames_c (l m : List Ev) (v1 v2 : Value) (w : World) (h1 : Er w v1 l) (h2 : Er w v2 m) (he : l.map Ev.e = m.map Ev.e) (hn : l.length ≤ 1000000) (hv : ∀ x ∈ l, x.e.v.length ≤ 1000000 ∧ x.e.w.length ≤ 1000000) :
    Calls Tryd.prog 21 #[v1, v2] w fun e w' => e = .returned (.bool true) ∧ Below w.heap.size w w' := by
  obtain ⟨ad1, cap1, rfl, hc1, k1⟩ := h1
  obtain ⟨ad2, cap2, rfl, hc2, k2⟩ := h2
  have hlen : l.length = m.length := by simpa using congrArg List.length he
  have H1 := Lib.hid k1
  have H2 := Lib.hid k2
  have HE := Lib.hid he
  have HV := Lib.hid hv
  have e0 : ((l.length : Int) != (m.length : Int)) = false := by simp [hlen]
  have HL := Lib.hid hlen
  clear k1 k2 he hlen hc1 hc2 hv
  go_enter Tryd.func21, Tryd.ntmps21
  go_wp2
  go_loopw [5] (fun v5 wr => ∃ k : Nat, k ≤ l.length ∧ v5 = .int .i64 (k : Int) ∧ Hid (Below w.heap.size w wr)) (fun v5 _ => l.length - (RowKit.intOf v5).toNat)
  case atStart => exact ⟨0, by omega, rfl, Lib.hid (Below.refl _ _)⟩
  case round =>
    obtain ⟨k, hk, rfl, HB⟩ := hrel
    by_cases hp : k < l.length
    · obtain ⟨g1, o1, rfl, c1⟩ := H1.out (by omega)
      have hpm : k < m.length := by have := HL.out; omega
      obtain ⟨g2, o2, rfl, c2⟩ := H2.out (by omega)
      have a1 := c1 k hp
      have a2 := c2 k hpm
      have hd : l[k].e = m[k].e := by
        have h3 := congrArg (fun z : List En => z[k]?) HE.out
        simpa [hp, hpm] using h3
      obtain ⟨hv1, hw1⟩ := HV.out l[k] (List.getElem_mem hp)
      generalize l[k] = X at a1 hd hv1 hw1
      generalize m[k] = Y at a2 hd
      obtain ⟨d, A1, B1⟩ := X
      obtain ⟨d', A2, B2⟩ := Y
      simp only at hd hv1 hw1
      subst hd
      have q : ∀ W, (Op.equalIn 10000 28 (.agg #[.int .i64 d.r.o, .int .i64 d.r.s, .int .i64 d.r.w, .int .i64 d.r.c, .string d.r.t]) (.agg #[.int .i64 d.r.o, .int .i64 d.r.s, .int .i64 d.r.w, .int .i64 d.r.c, .string d.r.t])).run Tryd.prog W = .ok true W := fun W => by rw [← sameR_self d.r]; exact eq_rec d.r d.r W
      have f0 : (d.k != d.k) = false := by simp
      have C1 : Hid (∀ W, Below wr.heap.size wr W → Calls Tryd.prog 11 #[A1, A2] W fun e w' => e = .returned (.bool true) ∧ Below W.heap.size W w') := Lib.hid (fun W hW => by
        have h3 := same_c d.v d.v A1 A2 W ((a1.below (bn HB.out hW)).2.1) ((a2.below (bn HB.out hW)).2.1) hv1
        rw [sameB_self] at h3
        exact h3)
      have C2 : Hid (∀ W, Below wr.heap.size wr W → Calls Tryd.prog 11 #[B1, B2] W fun e w' => e = .returned (.bool true) ∧ Below W.heap.size W w') := Lib.hid (fun W hW => by
        have h3 := same_c d.w d.w B1 B2 W ((a1.below (bn HB.out hW)).2.2) ((a2.below (bn HB.out hW)).2.2) hw1
        rw [sameB_self] at h3
        exact h3)
      have n1 : Nl w A1 d.v := a1.2.1
      have n2 : Nl w B1 d.w := a1.2.2
      have n3 : Nl w A2 d.v := a2.2.1
      have n4 : Nl w B2 d.w := a2.2.2
      obtain ⟨adA1, capA1, rfl, _⟩ := n1.form
      obtain ⟨adB1, capB1, rfl, _⟩ := n2.form
      obtain ⟨adA2, capA2, rfl, _⟩ := n3.form
      obtain ⟨adB2, capB2, rfl, _⟩ := n4.form
      have HS : Hid (∀ W : World, Below wr.heap.size wr W → (W.cell? ⟨g1, o1 + k * 8, none⟩ = some (.int .i64 d.k) ∧ W.cell? ⟨g1, o1 + k * 8 + 1, none⟩ = some (.slice adA1 d.v.length capA1) ∧ W.cell? ⟨g1, o1 + k * 8 + 2, none⟩ = some (.slice adB1 d.w.length capB1) ∧ W.cell? ⟨g1, o1 + k * 8 + 3, none⟩ = some (.int .i64 d.r.o) ∧ W.cell? ⟨g1, o1 + k * 8 + 4, none⟩ = some (.int .i64 d.r.s) ∧ W.cell? ⟨g1, o1 + k * 8 + 5, none⟩ = some (.int .i64 d.r.w) ∧ W.cell? ⟨g1, o1 + k * 8 + 6, none⟩ = some (.int .i64 d.r.c) ∧ W.cell? ⟨g1, o1 + k * 8 + 7, none⟩ = some (.string d.r.t)) ∧ (W.cell? ⟨g2, o2 + k * 8, none⟩ = some (.int .i64 d.k) ∧ W.cell? ⟨g2, o2 + k * 8 + 1, none⟩ = some (.slice adA2 d.v.length capA2) ∧ W.cell? ⟨g2, o2 + k * 8 + 2, none⟩ = some (.slice adB2 d.w.length capB2) ∧ W.cell? ⟨g2, o2 + k * 8 + 3, none⟩ = some (.int .i64 d.r.o) ∧ W.cell? ⟨g2, o2 + k * 8 + 4, none⟩ = some (.int .i64 d.r.s) ∧ W.cell? ⟨g2, o2 + k * 8 + 5, none⟩ = some (.int .i64 d.r.w) ∧ W.cell? ⟨g2, o2 + k * 8 + 6, none⟩ = some (.int .i64 d.r.c) ∧ W.cell? ⟨g2, o2 + k * 8 + 7, none⟩ = some (.string d.r.t))) := Lib.hid (fun W hW => ⟨(a1.below (bn HB.out hW)).1, (a2.below (bn HB.out hW)).1⟩)
      have hg1 : g1 < wr.heap.size := Nat.lt_of_lt_of_le (World.block_lt_of_cell? w _ a1.1.1) HB.out.size
      have hg2 : g2 < wr.heap.size := Nat.lt_of_lt_of_le (World.block_lt_of_cell? w _ a2.1.1) HB.out.size
      have hpi : decide ((k : Int) < (l.length : Int)) = true := by simpa using hp
      have hpi2 : decide ((k : Int) < (m.length : Int)) = true := by simpa using hpm
      clear c1 c2 a1 a2 hv1 hw1 H1 H2 n1 n2 n3 n4
      go_wp2_with fail
      go_region_held3 (fun W => (W.cell? ⟨g1, o1 + k * 8, none⟩ = some (.int .i64 d.k) ∧ W.cell? ⟨g1, o1 + k * 8 + 1, none⟩ = some (.slice adA1 d.v.length capA1) ∧ W.cell? ⟨g1, o1 + k * 8 + 2, none⟩ = some (.slice adB1 d.w.length capB1) ∧ W.cell? ⟨g1, o1 + k * 8 + 3, none⟩ = some (.int .i64 d.r.o) ∧ W.cell? ⟨g1, o1 + k * 8 + 4, none⟩ = some (.int .i64 d.r.s) ∧ W.cell? ⟨g1, o1 + k * 8 + 5, none⟩ = some (.int .i64 d.r.w) ∧ W.cell? ⟨g1, o1 + k * 8 + 6, none⟩ = some (.int .i64 d.r.c) ∧ W.cell? ⟨g1, o1 + k * 8 + 7, none⟩ = some (.string d.r.t)) ∧ (W.cell? ⟨g2, o2 + k * 8, none⟩ = some (.int .i64 d.k) ∧ W.cell? ⟨g2, o2 + k * 8 + 1, none⟩ = some (.slice adA2 d.v.length capA2) ∧ W.cell? ⟨g2, o2 + k * 8 + 2, none⟩ = some (.slice adB2 d.w.length capB2) ∧ W.cell? ⟨g2, o2 + k * 8 + 3, none⟩ = some (.int .i64 d.r.o) ∧ W.cell? ⟨g2, o2 + k * 8 + 4, none⟩ = some (.int .i64 d.r.s) ∧ W.cell? ⟨g2, o2 + k * 8 + 5, none⟩ = some (.int .i64 d.r.w) ∧ W.cell? ⟨g2, o2 + k * 8 + 6, none⟩ = some (.int .i64 d.r.c) ∧ W.cell? ⟨g2, o2 + k * 8 + 7, none⟩ = some (.string d.r.t))) (exact HS.out _ (by first | assumption | exact (Below.refl _ _).drew | exact Below.refl _ _))
        (first
        | (go_at_call 11; refine (C2.out _ b5').mono ?_; rintro e w6 ⟨rfl, b6⟩; have b6' : Below wr.heap.size wr w6 := bn b5' b6; clear b6)
        | (go_at_call 11; refine (C1.out _ (by first | exact (Below.refl _ _).drew | exact Below.refl _ _)).mono ?_; rintro e w5 ⟨rfl, b5⟩; have b5' : Below wr.heap.size wr w5 := bn (by first | exact (Below.refl _ _).drew | exact Below.refl _ _) b5; clear b5)
        | fail)
      go_wp2
      go_roundw
      case rel => exact ⟨k + 1, hp, by go_num, Lib.hid (bn HB.out b6')⟩
      case measure => simp [RowKit.intOf]; omega
    · go_wp2
      go_ret
      exact ⟨rfl, HB.out⟩
end Go.Proofs.YtcnpckdchjjeoaaDoor
