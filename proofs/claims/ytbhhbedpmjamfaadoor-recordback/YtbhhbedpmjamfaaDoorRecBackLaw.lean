/-
  RecordBack, as a call: it answers true.
-/
import Derived.Test.YtbhhbedpmjamfaaDoorRecSizesLaw
import Derived.Test.YtbhhbedpmjamfaaDoorRecReadsLaw
namespace Go.Proofs.YtbhhbedpmjamfaaDoor
open Go.RowKit Go.Lib

def lowT (m : Int) (w : World) (e : Ending) (w' : World) : Prop := ∃ r : Int, e = .returned (.int .i64 r) ∧ 0 ≤ r ∧ r < m ∧ w = w'

theorem low_c (x m : Int) (w : World) (hm : 0 < m) (hm2 : m ≤ 4294967296) : Calls Tryd.prog 35 #[.int .i64 x, .int .i64 m] w (lowT m w) := by
  have hne : (m == 0) = false := by simp; omega
  go_enter Tryd.func35, Tryd.ntmps35
  go_wp2
  go_ret
  have h1 : 0 ≤ IntKind.u64.wrap x := by rw [IntKind.wrap_u64]; omega
  have h2 := Int.tmod_nonneg m h1
  have h3 := Int.tmod_lt_of_pos (IntKind.u64.wrap x) hm
  generalize (IntKind.u64.wrap x).tmod m = r at h2 h3
  have e : wrap64 r = r := by unfold wrap64; omega
  exact ⟨r, by rw [← e]; simp only [e]; rfl, h2, h3, rfl⟩


/-- append of a list that may be nil, to a row of one's own. -/
theorem bapp_run (l m : List Int) (v u : Value) (w : World) (B : Nat) (h : BRow w B v l) (hu : Bl w u m) (hl : l.length + m.length ≤ 1000000) (hB : B ≤ w.heap.size) :
    ∃ v' w', (Builtin.append_ #[39, 39] 39 #[v, u]).run Tryd.prog w = .ok v' w' ∧ BRow w' B v' (l ++ m) ∧ Below B w w' := by
  rcases hu with ⟨rfl, rfl⟩ | ⟨ad, cap, rfl, hu⟩
  · refine ⟨v, w, ?_, by rw [List.append_nil]; exact h, Below.refl _ _⟩
    obtain ⟨ad, cap, rfl, hlc, _⟩ := h.blc
    cases ad <;> simp [Builtin.append_, go_sem, run_underlying Tryd.underlying39, hlc]
  · obtain ⟨i0, hi, hz0, hz1, hz2⟩ := info_parts byteInfo
    obtain ⟨v', w', h1, h2, h3, _, _⟩ := run_append_own_at (P := Tryd.prog) w B 39 39 5 i0 (.int .u8 0) 1 1 Tryd.underlying39 hi hz0 hz1 hz2 rfl (by decide) v l.length (bys l) h ad m.length cap (bys m) (by rw [bys_len, Nat.mul_one]) (Bl.news hu) (bys_one m) (by unfold maxLen; omega) (by omega) hB
    refine ⟨v', w', h1, ?_, below_of_grown h3 hB (fun g hg => (World.ownsRow.lt h g hg).1)⟩
    unfold BRow
    rw [List.length_append]
    have e : bys (l ++ m) = bys l ++ bys m := by simp [bys]
    rw [e]
    exact h2

theorem BlC.take {w : World} {ad : Option Addr} {n cap : Nat} {l : List Int} (h : BlC w (.slice ad n cap) l) (j : Nat) (hj : j ≤ l.length) : BlC w (.slice ad j cap) (l.take j) := by
  obtain ⟨ad', cap', e, hc, hb⟩ := h
  cases e
  refine ⟨ad, cap, by rw [List.length_take, Nat.min_eq_left hj], by rw [List.length_take]; omega, fun h0 => ?_⟩
  rw [List.length_take] at h0
  obtain ⟨b, o, e, hs⟩ := hb (by omega)
  exact ⟨b, o, e, hs.take j⟩
theorem read_lay (r : Rc) (a t : List Int) (v : Value) (w : World) (h : BlC w v (a ++ (layL r ++ t))) (ho : OkB (a ++ (layL r ++ t))) (hl : (a ++ (layL r ++ t)).length ≤ 1000000) (hm : mayR r = true) (hT : Tabs w) :
    Calls Tryd.prog 32 #[v, .int .i64 (a.length : Int)] w fun e w' => e = .returned (.tuple #[.agg #[.int .i64 r.o, .int .i64 r.s, .int .i64 r.w, .int .i64 r.c, .string r.t], .int .i64 ((a.length : Int) + 12 + (r.t.size : Int)), .bool true]) ∧ Below w.heap.size w w' := by
  have hla : a.length ≤ (a ++ (layL r ++ t)).length := by rw [List.length_append]; omega
  refine (read_c _ v _ w h ho hl (by omega) hT).mono ?_
  intro e w' h2
  unfold readT at h2
  obtain ⟨k1, k2, k3⟩ := lay_at r a t hm
  rw [k1, if_pos rfl, k2, k3] at h2
  exact h2
theorem read_cut (r : Rc) (a : List Int) (k : Nat) (v : Value) (w : World) (h : BlC w v (a ++ (layL r).take k)) (ho : OkB (a ++ (layL r).take k)) (hl : (a ++ (layL r).take k).length ≤ 1000000) (hm : mayR r = true) (hk : k < (layL r).length) (hT : Tabs w) :
    Calls Tryd.prog 32 #[v, .int .i64 (a.length : Int)] w fun e w' => e = .returned (.tuple #[.agg #[.int .i64 0, .int .i64 0, .int .i64 0, .int .i64 0, .string ⟨#[]⟩], .int .i64 0, .bool false]) ∧ Below w.heap.size w w' := by
  have hla : a.length ≤ (a ++ (layL r).take k).length := by rw [List.length_append]; omega
  refine (read_c _ v _ w h ho hl (by omega) hT).mono ?_
  intro e w' h2
  unfold readT at h2
  rw [lay_cut r a k hm hk] at h2
  exact h2

set_option maxHeartbeats 4000000 in
theorem back_great (r : Rc) (la lb : List Int) (a1 a2 : Option Addr) (c1 c2 : Nat) (k : Int) (w : World) (hT : Tabs w) (h : 300 < (r.t.size : Int) ∨ 300 < (la.length : Int) ∨ 300 < (lb.length : Int)) :
    Calls Tryd.prog 6 #[.agg #[.int .i64 r.o, .int .i64 r.s, .int .i64 r.w, .int .i64 r.c, .string r.t], .slice a1 la.length c1, .slice a2 lb.length c2, .int .i64 k] w fun e w' => e = .returned (.bool true) ∧ Below w.heap.size w w' := by
  have hA := Lib.hid (awake_c _ (hT.below (alloc_below w (.cells #[.int .i64 r.o, .int .i64 r.s, .int .i64 r.w, .int .i64 r.c, .string r.t] 27))))
  by_cases h1 : 300 < (r.t.size : Int)
  · have e1 : decide (300 < (r.t.size : Int)) = true := by simpa using h1
    go_enter Tryd.func6, Tryd.ntmps6
    go_wp2_with fail
    refine hA.out.mono ?_
    rintro e w1 ⟨rfl, b1⟩
    go_wp2
    go_ret
    exact ⟨rfl, bn (alloc_below _ _) b1⟩
  · have e1 : decide (300 < (r.t.size : Int)) = false := by simpa using h1
    by_cases h2 : 300 < (la.length : Int)
    · have e2 : decide (300 < (la.length : Int)) = true := by simpa using h2
      go_enter Tryd.func6, Tryd.ntmps6
      go_wp2_with fail
      refine hA.out.mono ?_
      rintro e w1 ⟨rfl, b1⟩
      go_wp2
      go_ret
      exact ⟨rfl, bn (alloc_below _ _) b1⟩
    · have e2 : decide (300 < (la.length : Int)) = false := by simpa using h2
      have e3 : decide (300 < (lb.length : Int)) = true := by simp; omega
      go_enter Tryd.func6, Tryd.ntmps6
      go_wp2_with fail
      refine hA.out.mono ?_
      rintro e w1 ⟨rfl, b1⟩
      go_wp2
      go_ret
      exact ⟨rfl, bn (alloc_below _ _) b1⟩

set_option maxHeartbeats 4000000 in
theorem back_no (r : Rc) (la lb : List Int) (a1 a2 : Option Addr) (c1 c2 : Nat) (k : Int) (w : World) (hT : Tabs w) (h1 : ¬ 300 < (r.t.size : Int)) (h2 : ¬ 300 < (la.length : Int)) (h3 : ¬ 300 < (lb.length : Int)) (hm : mayR r = false) :
    Calls Tryd.prog 6 #[.agg #[.int .i64 r.o, .int .i64 r.s, .int .i64 r.w, .int .i64 r.c, .string r.t], .slice a1 la.length c1, .slice a2 lb.length c2, .int .i64 k] w fun e w' => e = .returned (.bool true) ∧ Below w.heap.size w w' := by
  have HT := Lib.hid hT
  have e1 : decide (300 < (r.t.size : Int)) = false := by simpa using h1
  have e2 : decide (300 < (la.length : Int)) = false := by simpa using h2
  have e3 : decide (300 < (lb.length : Int)) = false := by simpa using h3
  have HLA := Lib.hid (fun W (hw : Below w.heap.size w W) => lay_no r W (by omega) (hT.below hw) hm)
  have HMA := Lib.hid (fun W (hw : Below w.heap.size w W) => may_c r W (by omega) (hT.below hw))
  rw [hm] at HMA
  have X1 := Lib.hid (Bx.new 27 w #[.int .i64 r.o, .int .i64 r.s, .int .i64 r.w, .int .i64 r.c, .string r.t])
  clear hT hm
  go_enter Tryd.func6, Tryd.ntmps6
  go_wp2_with fail
  refine (HLA.out _ (alloc_below _ _)).mono ?_
  rintro e w1 ⟨ad1, cap1, rfl, b1⟩
  have hx := X1.out.below b1
  obtain ⟨c0, c1, c2, c3, c4⟩ := hx.five
  have hl := hx.lt
  have B1 := Lib.hid (bn (alloc_below w (.cells #[.int .i64 r.o, .int .i64 r.s, .int .i64 r.w, .int .i64 r.c, .string r.t] 27)) b1)
  clear hx b1
  go_wp2_with fail
  refine (HMA.out _ B1.out).mono ?_
  rintro e w2 ⟨rfl, b2⟩
  have B2 := Lib.hid (bn B1.out b2)
  go_wp2_with fail
  refine (awake_c w2 (HT.out.below B2.out)).mono ?_
  rintro e w3 ⟨rfl, b3⟩
  go_wp2
  go_ret
  exact ⟨rfl, bn B2.out b3⟩

set_option maxHeartbeats 8000000 in
set_option maxRecDepth 100000 in
theorem back_yes (r : Rc) (la lb : List Int) (v1 v2 : Value) (cut : Int) (w : World) (hT : Tabs w) (hA : Bl w v1 la) (hB : Bl w v2 lb) (oA : OkB la) (oB : OkB lb) (h1 : ¬ 300 < (r.t.size : Int)) (h2 : ¬ 300 < (la.length : Int)) (h3 : ¬ 300 < (lb.length : Int)) (hm : mayR r = true) :
    Calls Tryd.prog 6 #[.agg #[.int .i64 r.o, .int .i64 r.s, .int .i64 r.w, .int .i64 r.c, .string r.t], v1, v2, .int .i64 cut] w fun e w' => e = .returned (.bool true) ∧ Below w.heap.size w w' := by
  have HT := Lib.hid hT
  have e1 : decide (300 < (r.t.size : Int)) = false := by simpa using h1
  have e2 : decide (300 < (la.length : Int)) = false := by simpa using h2
  have e3 : decide (300 < (lb.length : Int)) = false := by simpa using h3
  have HLA := Lib.hid (fun W (hw : Below w.heap.size w W) => lay_yes r W (by omega) (hT.below hw) hm)
  have X1 := Lib.hid (Bx.new 27 w #[.int .i64 r.o, .int .i64 r.s, .int .i64 r.w, .int .i64 r.c, .string r.t])
  have HA := Lib.hid hA
  have HBb := Lib.hid hB
  have HM := Lib.hid hm
  have HO : Hid (OkB (la ++ (layL r ++ lb))) := Lib.hid (oA.append ((layL_ok r).append oB))
  obtain ⟨a1, c1, rfl, _⟩ := hA.form
  obtain ⟨a2, c2, rfl, _⟩ := hB.form
  clear hT hm hA hB oA oB
  go_enter Tryd.func6, Tryd.ntmps6
  go_wp2_with fail
  refine (HLA.out _ (alloc_below _ _)).mono ?_
  rintro e w1 ⟨ad1, cap1, n, rfl, hn, r1, b1⟩
  have B1 := Lib.hid (bn (alloc_below w (.cells #[.int .i64 r.o, .int .i64 r.s, .int .i64 r.w, .int .i64 r.c, .string r.t] 27)) b1)
  have X2 := Lib.hid (X1.out.below b1)
  obtain ⟨q1, w2, ha1, k1, b2⟩ := bcopy_run la _ w1 39 (HA.out.below B1.out) (by omega)
  obtain ⟨q2, w3, ha2, k2, b3⟩ := bapp_run la (layL r) q1 (.slice ad1 n cap1) w2 w1.heap.size k1 (r1.nl.below b2) (by rw [layL_len]; omega) b2.size
  have b3' := Below.trans b2 b3
  obtain ⟨q3, w4, ha3, k3, b4⟩ := bapp_run (la ++ layL r) lb q2 _ w3 w1.heap.size k2 ((HBb.out.below B1.out).below b3') (by rw [List.length_append, layL_len]; omega) b3'.size
  have b4' := Below.trans b3' b4
  rw [List.append_assoc] at k3
  obtain ⟨ad3, cap3, rfl, hc3, _⟩ := k3.blc
  obtain ⟨n3, hn3⟩ : ∃ n3, n3 = (la ++ (layL r ++ lb)).length := ⟨_, rfl⟩
  rw [← hn3] at k3 ha3 hc3
  have HN3 := Lib.hid hn3
  clear hn3
  have A1 := Lib.hid ha1
  have A2 := Lib.hid ha2
  have A3 := Lib.hid ha3
  have X3 := Lib.hid (X2.out.below b4')
  have B4 := Lib.hid (bn B1.out b4')
  have K3 := Lib.hid k3
  have hnz : ((n : Int) == 0) = false := by rw [hn.out]; simp; omega
  have hnle : n ≤ 1000 := by rw [hn.out]; omega
  have HR1 := Lib.hid r1
  clear ha1 ha2 ha3 k1 k2 k3 b1 b2 b3 b3' b4 b4' X1 r1
  go_wp2_with (first
    | (at_builtin; refine wpList_append_run rfl _ _ 39 rfl _ _ A1.out ?_)
    | (at_builtin; refine wpList_append_run rfl _ _ 39 rfl _ _ A2.out ?_)
    | (at_builtin; refine wpList_append_run rfl _ _ 39 rfl _ _ A3.out ?_))
  have hn3 : n3 = la.length + (n + lb.length) := by rw [HN3.out, List.length_append, List.length_append, layL_len, hn.out]
  have HN3b := Lib.hid hn3
  have hcap0 : ¬ cap3 = 0 := by have := hn.out; omega
  clear hn3
  refine (read_lay r la lb _ w4 K3.out.blc HO.out (by rw [← HN3.out, HN3b.out]; omega) HM.out (HT.out.below B4.out)).mono ?_
  rintro e w5 ⟨rfl, b5⟩
  have X5 := Lib.hid (X3.out.below b5)
  have B5 := Lib.hid (bn B4.out b5)
  have K5 := Lib.hid (K3.out.below b5)
  clear b5 B4 X3 K3 A1 A2 A3
  go_wp2_with fail
  refine (low_c cut (n : Int) _ (by have := hn.out; omega) (by omega)).mono ?_
  rintro e w6 ⟨k0, rfl, hk0, hk1, rfl⟩
  obtain ⟨k, rfl⟩ := Int.eq_ofNat_of_zero_le hk0
  have hkn : k < n := by omega
  have hkc : la.length + k ≤ cap3 := by have := HN3b.out; omega
  have HR2 : Hid (∀ W, Below w5.heap.size w5 W → Calls Tryd.prog 32 #[.slice ad3 (la.length + k : Nat) cap3, .int .i64 (la.length : Int)] W fun e w' => e = .returned (.tuple #[.agg #[.int .i64 0, .int .i64 0, .int .i64 0, .int .i64 0, .string ⟨#[]⟩], .int .i64 0, .bool false]) ∧ Below W.heap.size W w') := Lib.hid (fun W hW => by
    have ht : (la ++ (layL r ++ lb)).take (la.length + k) = la ++ (layL r).take k := by
      rw [List.take_append, List.take_of_length_le (by omega), Nat.add_sub_cancel_left, List.take_append_of_le_length (by rw [layL_len, ← hn.out]; omega)]
    have hb := ((K5.out.below hW).blc).take (la.length + k) (by rw [← HN3.out, HN3b.out]; omega)
    rw [ht] at hb
    have ho := HO.out.take (la.length + k)
    rw [ht] at ho
    exact read_cut r la k _ W hb ho (by rw [List.length_append, List.length_take]; omega) HM.out (by rw [layL_len, ← hn.out]; exact hkn) (HT.out.below (bn B5.out hW)))
  clear hk0 hk1
  go_wp2_with fail
  refine (HR2.out _ (alloc_below _ _)).mono ?_
  rintro e w7 ⟨rfl, b7⟩
  have hs7 := (Bx.new 27 w5 #[.int .i64 r.o, .int .i64 r.s, .int .i64 r.w, .int .i64 r.c, .string r.t]).below b7
  obtain ⟨p0, p1, p2, p3, p4⟩ := hs7.five
  have hl7 := hs7.lt
  have X7 := (X5.out.alloc (.cells #[.int .i64 r.o, .int .i64 r.s, .int .i64 r.w, .int .i64 r.c, .string r.t] 27)).below b7
  obtain ⟨t0, t1, t2, t3, t4⟩ := X7.five
  have hlx7 := X7.lt
  have B7 := Lib.hid (bn (bn B5.out (alloc_below w5 (.cells #[.int .i64 r.o, .int .i64 r.s, .int .i64 r.w, .int .i64 r.c, .string r.t] 27))) b7)
  have q := eq_rec r r
  rw [same_self] at q
  have hat : ((la.length : Int) + 12 + (r.t.size : Int) == (la.length : Int) + (n : Int)) = true := by rw [hn.out]; simp; omega
  clear hs7 X7 b7
  go_wp2_with fail
  refine (awake_c _ (HT.out.below (bn B7.out (alloc_below _ _)))).mono ?_
  rintro e w8 ⟨rfl, b8⟩
  go_wp2
  go_ret
  exact ⟨rfl, bn (bn B7.out (alloc_below _ _)) b8⟩

end Go.Proofs.YtbhhbedpmjamfaaDoor
