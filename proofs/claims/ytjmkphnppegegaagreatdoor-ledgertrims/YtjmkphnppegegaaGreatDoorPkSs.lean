/-
  SameEntries of like ones, OverEntries, great, by contract.
-/
import Derived.Test.YtjmkphnppegegaaGreatDoorPkSr
import Derived.Test.YtjmkphnppegegaaGreatDoorPkA
namespace Go.Proofs.YtjmkphnppegegaaGreatDoor
open Go.RowKit Go.Lib
set_option maxRecDepth 100000

theorem sameR_self (r : Rc) : sameR r r = true := by simp [sameR]

set_option maxHeartbeats 4000000 in
theorem sames_c (l m : List Ev) (v1 v2 : Value) (w : World) (h1 : Er w v1 l) (h2 : Er w v2 m) (he : l.map Ev.e = m.map Ev.e) (hn : l.length ≤ 1000000) (hv : ∀ x ∈ l, x.e.v.length ≤ 1000000 ∧ x.e.w.length ≤ 1000000) :
    Calls Tryz.prog 21 #[v1, v2] w fun e w' => e = .returned (.bool true) ∧ Below w.heap.size w w' := by
  obtain ⟨ad1, cap1, rfl, hc1, k1⟩ := h1
  obtain ⟨ad2, cap2, rfl, hc2, k2⟩ := h2
  have hlen : l.length = m.length := by simpa using congrArg List.length he
  have H1 := Lib.hid k1
  have H2 := Lib.hid k2
  have HE := Lib.hid he
  have HV := Lib.hid hv
  have e0 : ((l.length : Int) != (m.length : Int)) = false := by simp [hlen]
  have HL := Lib.hid hlen
  clear k1 k2 he hlen hc1 hc2 hv
  go_enter Tryz.func21, Tryz.ntmps21
  go_wp2
  go_loopw [5] (fun v5 wr => ∃ k : Nat, k ≤ l.length ∧ v5 = .int .i64 (k : Int) ∧ Hid (Below w.heap.size w wr)) (fun v5 _ => l.length - (RowKit.intOf v5).toNat)
  case atStart => exact ⟨0, by omega, rfl, Lib.hid (Below.refl _ _)⟩
  case round =>
    obtain ⟨k, hk, rfl, HB⟩ := hrel
    by_cases hp : k < l.length
    · obtain ⟨g1, o1, rfl, c1⟩ := H1.out (by omega)
      have hpm : k < m.length := by have := HL.out; omega
      obtain ⟨g2, o2, rfl, c2⟩ := H2.out (by omega)
      have a1 := c1 k hp
      have a2 := c2 k hpm
      have hd : l[k].e = m[k].e := by
        have h3 := congrArg (fun z : List En => z[k]?) HE.out
        simpa [hp, hpm] using h3
      obtain ⟨hv1, hw1⟩ := HV.out l[k] (List.getElem_mem hp)
      generalize l[k] = X at a1 hd hv1 hw1
      generalize m[k] = Y at a2 hd
      obtain ⟨d, A1, B1⟩ := X
      obtain ⟨d', A2, B2⟩ := Y
      simp only at hd hv1 hw1
      subst hd
      have q : ∀ W, (Op.equalIn 10000 41 (.agg #[.int .i64 d.r.o, .int .i64 d.r.s, .int .i64 d.r.w, .int .i64 d.r.c, .string d.r.t]) (.agg #[.int .i64 d.r.o, .int .i64 d.r.s, .int .i64 d.r.w, .int .i64 d.r.c, .string d.r.t])).run Tryz.prog W = .ok true W := fun W => by rw [← sameR_self d.r]; exact eq_rec d.r d.r W
      have f0 : (d.k != d.k) = false := by simp
      have C1 : Hid (∀ W, Below wr.heap.size wr W → Calls Tryz.prog 28 #[A1, A2] W fun e w' => e = .returned (.bool true) ∧ Below W.heap.size W w') := Lib.hid (fun W hW => by
        have h3 := same_c d.v d.v A1 A2 W ((a1.below (bn HB.out hW)).2.1) ((a2.below (bn HB.out hW)).2.1) hv1
        rw [sameB_self] at h3
        exact h3)
      have C2 : Hid (∀ W, Below wr.heap.size wr W → Calls Tryz.prog 28 #[B1, B2] W fun e w' => e = .returned (.bool true) ∧ Below W.heap.size W w') := Lib.hid (fun W hW => by
        have h3 := same_c d.w d.w B1 B2 W ((a1.below (bn HB.out hW)).2.2) ((a2.below (bn HB.out hW)).2.2) hw1
        rw [sameB_self] at h3
        exact h3)
      have n1 : Nl w A1 d.v := a1.2.1
      have n2 : Nl w B1 d.w := a1.2.2
      have n3 : Nl w A2 d.v := a2.2.1
      have n4 : Nl w B2 d.w := a2.2.2
      obtain ⟨adA1, capA1, rfl, _⟩ := n1.form
      obtain ⟨adB1, capB1, rfl, _⟩ := n2.form
      obtain ⟨adA2, capA2, rfl, _⟩ := n3.form
      obtain ⟨adB2, capB2, rfl, _⟩ := n4.form
      have HS : Hid (∀ W : World, Below wr.heap.size wr W → (W.cell? ⟨g1, o1 + k * 8, none⟩ = some (.int .i64 d.k) ∧ W.cell? ⟨g1, o1 + k * 8 + 1, none⟩ = some (.slice adA1 d.v.length capA1) ∧ W.cell? ⟨g1, o1 + k * 8 + 2, none⟩ = some (.slice adB1 d.w.length capB1) ∧ W.cell? ⟨g1, o1 + k * 8 + 3, none⟩ = some (.int .i64 d.r.o) ∧ W.cell? ⟨g1, o1 + k * 8 + 4, none⟩ = some (.int .i64 d.r.s) ∧ W.cell? ⟨g1, o1 + k * 8 + 5, none⟩ = some (.int .i64 d.r.w) ∧ W.cell? ⟨g1, o1 + k * 8 + 6, none⟩ = some (.int .i64 d.r.c) ∧ W.cell? ⟨g1, o1 + k * 8 + 7, none⟩ = some (.string d.r.t)) ∧ (W.cell? ⟨g2, o2 + k * 8, none⟩ = some (.int .i64 d.k) ∧ W.cell? ⟨g2, o2 + k * 8 + 1, none⟩ = some (.slice adA2 d.v.length capA2) ∧ W.cell? ⟨g2, o2 + k * 8 + 2, none⟩ = some (.slice adB2 d.w.length capB2) ∧ W.cell? ⟨g2, o2 + k * 8 + 3, none⟩ = some (.int .i64 d.r.o) ∧ W.cell? ⟨g2, o2 + k * 8 + 4, none⟩ = some (.int .i64 d.r.s) ∧ W.cell? ⟨g2, o2 + k * 8 + 5, none⟩ = some (.int .i64 d.r.w) ∧ W.cell? ⟨g2, o2 + k * 8 + 6, none⟩ = some (.int .i64 d.r.c) ∧ W.cell? ⟨g2, o2 + k * 8 + 7, none⟩ = some (.string d.r.t))) := Lib.hid (fun W hW => ⟨(a1.below (bn HB.out hW)).1, (a2.below (bn HB.out hW)).1⟩)
      have hg1 : g1 < wr.heap.size := Nat.lt_of_lt_of_le (World.block_lt_of_cell? w _ a1.1.1) HB.out.size
      have hg2 : g2 < wr.heap.size := Nat.lt_of_lt_of_le (World.block_lt_of_cell? w _ a2.1.1) HB.out.size
      have hpi : decide ((k : Int) < (l.length : Int)) = true := by simpa using hp
      have hpi2 : decide ((k : Int) < (m.length : Int)) = true := by simpa using hpm
      clear c1 c2 a1 a2 hv1 hw1 H1 H2 n1 n2 n3 n4
      go_wp2_with fail
      go_region_held3 (fun W => (W.cell? ⟨g1, o1 + k * 8, none⟩ = some (.int .i64 d.k) ∧ W.cell? ⟨g1, o1 + k * 8 + 1, none⟩ = some (.slice adA1 d.v.length capA1) ∧ W.cell? ⟨g1, o1 + k * 8 + 2, none⟩ = some (.slice adB1 d.w.length capB1) ∧ W.cell? ⟨g1, o1 + k * 8 + 3, none⟩ = some (.int .i64 d.r.o) ∧ W.cell? ⟨g1, o1 + k * 8 + 4, none⟩ = some (.int .i64 d.r.s) ∧ W.cell? ⟨g1, o1 + k * 8 + 5, none⟩ = some (.int .i64 d.r.w) ∧ W.cell? ⟨g1, o1 + k * 8 + 6, none⟩ = some (.int .i64 d.r.c) ∧ W.cell? ⟨g1, o1 + k * 8 + 7, none⟩ = some (.string d.r.t)) ∧ (W.cell? ⟨g2, o2 + k * 8, none⟩ = some (.int .i64 d.k) ∧ W.cell? ⟨g2, o2 + k * 8 + 1, none⟩ = some (.slice adA2 d.v.length capA2) ∧ W.cell? ⟨g2, o2 + k * 8 + 2, none⟩ = some (.slice adB2 d.w.length capB2) ∧ W.cell? ⟨g2, o2 + k * 8 + 3, none⟩ = some (.int .i64 d.r.o) ∧ W.cell? ⟨g2, o2 + k * 8 + 4, none⟩ = some (.int .i64 d.r.s) ∧ W.cell? ⟨g2, o2 + k * 8 + 5, none⟩ = some (.int .i64 d.r.w) ∧ W.cell? ⟨g2, o2 + k * 8 + 6, none⟩ = some (.int .i64 d.r.c) ∧ W.cell? ⟨g2, o2 + k * 8 + 7, none⟩ = some (.string d.r.t))) (exact HS.out _ (by first | assumption | exact (Below.refl _ _).drew | exact Below.refl _ _))
        (first
        | (go_at_call 28; refine (C2.out _ b5').mono ?_; rintro e w6 ⟨rfl, b6⟩; have b6' : Below wr.heap.size wr w6 := bn b5' b6; clear b6)
        | (go_at_call 28; refine (C1.out _ (by first | exact (Below.refl _ _).drew | exact Below.refl _ _)).mono ?_; rintro e w5 ⟨rfl, b5⟩; have b5' : Below wr.heap.size wr w5 := bn (by first | exact (Below.refl _ _).drew | exact Below.refl _ _) b5; clear b5)
        | fail)
      go_wp2
      go_roundw
      case rel => exact ⟨k + 1, hp, by go_num, Lib.hid (bn HB.out b6')⟩
      case measure => simp [RowKit.intOf]; omega
    · go_wp2
      go_ret
      exact ⟨rfl, HB.out⟩
end Go.Proofs.YtjmkphnppegegaaGreatDoor
/-
  OverEntries, great, base, by contract.
-/
namespace Go.Proofs.YtjmkphnppegegaaGreatDoor
open Go.RowKit Go.Lib
set_option maxRecDepth 100000

theorem tag_bx {w : World} {B g : Nat} {cs : Array Value} {a : Value} {l : List Int} (hx : Bx 43 w g cs) (ha : Row w B a l) : a.ownBlock ≠ some g := fun hg' => by
  rcases ha.2 with ⟨rfl, _⟩ | ⟨g2, cap', cur', rfl, _, h2, _⟩
  · cases hg'
  · simp only [Value.ownBlock, Option.some.injEq] at hg'
    subst hg'
    unfold Bx at hx
    rw [hx] at h2
    simp only [Option.some.injEq, Obj.cells.injEq] at h2
    exact absurd h2.2.1 (by decide)
theorem flat_a {x : Ev} : ∀ {l : List Ev}, x ∈ l → x.a ∈ flat l
  | y :: t, h => by
    rcases List.mem_cons.1 h with rfl | h
    · simp [flat]
    · simp [flat, flat_a h]
theorem flat_b {x : Ev} : ∀ {l : List Ev}, x ∈ l → x.b ∈ flat l
  | y :: t, h => by
    rcases List.mem_cons.1 h with rfl | h
    · simp [flat]
    · simp [flat, flat_b h]
/-- The row of entries in block g, as far as it is still as it was: from place k on. -/
structure OvAt (w : World) (B g : Nat) (l : List Ev) (k : Nat) : Prop where
  cells : ∃ cs, Bx 43 w g cs ∧ l.length * 8 ≤ cs.size ∧ ∀ j (hj : j < l.length), k ≤ j → cs[j * 8 + 1]? = some l[j].a ∧ cs[j * 8 + 2]? = some l[j].b
  rows : ∀ x ∈ l.drop k, Row w B x.a x.e.v ∧ Row w B x.b x.e.w
  pw : (flat (l.drop k)).Pairwise apart
theorem bx_set8At {w : World} {g o : Nat} {cs : Array Value} (h : Bx 43 w g cs) (a b c d e f i j : Value) : ∃ ds, Bx 43 (set8 w g o a b c d e f i j) g ds ∧ ds.size = cs.size ∧ ∀ k, (k < o ∨ o + 8 ≤ k) → ds[k]? = cs[k]? := by
  refine ⟨_, ((((((((h.set _ a).set _ b).set _ c).set _ d).set _ e).set _ f).set _ i).set _ j), by simp, fun k hk => ?_⟩
  rw [Array.getElem?_setIfInBounds_ne (by omega), Array.getElem?_setIfInBounds_ne (by omega), Array.getElem?_setIfInBounds_ne (by omega), Array.getElem?_setIfInBounds_ne (by omega), Array.getElem?_setIfInBounds_ne (by omega), Array.getElem?_setIfInBounds_ne (by omega), Array.getElem?_setIfInBounds_ne (by omega), Array.getElem?_setIfInBounds_ne (by omega)]
theorem EOwn.ov {w : World} {B g cap : Nat} {l : List Ev} (h : EOwn w B (.slice (some ⟨g, 0, none⟩) l.length cap) l) : OvAt w B g l 0 ∧ B ≤ g := by
  rcases h.row.2 with ⟨h1, _⟩ | ⟨g', cap', cur, h1, hg, hh, hn, _, hsz, htake⟩
  · cases h1
  · simp only [Value.slice.injEq, Option.some.injEq, Addr.mk.injEq] at h1
    obtain ⟨⟨rfl, _, _⟩, _, rfl⟩ := h1
    refine ⟨⟨⟨cur, hh, by rw [hsz]; exact Nat.mul_le_mul_right 8 hn, fun j hj _ => ?_⟩, fun x hx => h.rows x (by simpa using hx), by simpa using h.pw⟩, hg⟩
    obtain ⟨_, c1, c2, _⟩ := cs8_at l j hj
    have f : ∀ t, t < l.length * 8 → cur[t]? = (cs8 l)[t]? := fun t ht => by
      rw [← htake, List.getElem?_take_of_lt ht, Array.getElem?_toList]
    exact ⟨(f _ (by omega)).trans c1, (f _ (by omega)).trans c2⟩

set_option maxHeartbeats 4000000 in
theorem overs_c (l : List Ev) (v : Value) (w : World) (B : Nat) (h : EOwn w B v l) (hn : l.length ≤ 1000000) (hv : ∀ x ∈ l, x.e.v.length ≤ 1000000 ∧ x.e.w.length ≤ 1000000) (hB : B ≤ w.heap.size) :
    Calls Tryz.prog 23 #[v] w fun e w' => e = .returned (.tuple #[]) ∧ Below B w w' := by
  have HV := Lib.hid hv
  rcases h.row.2 with ⟨rfl, h0⟩ | ⟨g, cap, cur, rfl, hg, hh, hnn, _⟩
  · go_enter Tryz.func23, Tryz.ntmps23
    go_wp2
    go_loopw [2] (fun v2 wr => v2 = .int .i64 0 ∧ wr = w) (fun _ _ => 0)
    case atStart => exact ⟨rfl, rfl⟩
    case round =>
      obtain ⟨rfl, rfl⟩ := hrel
      go_wp2
      go_end0
      exact ⟨rfl, Below.refl _ _⟩
  · obtain ⟨ho, hBg⟩ := h.ov
    have HO := Lib.hid ho
    clear h ho hv hh hg hnn
    go_enter Tryz.func23, Tryz.ntmps23
    go_wp2
    go_loopw [2] (fun v2 wr => ∃ k : Nat, k ≤ l.length ∧ v2 = .int .i64 (k : Int) ∧ Hid (OvAt wr B g l k) ∧ Hid (Below B w wr)) (fun v2 _ => l.length - (RowKit.intOf v2).toNat)
    case atStart => exact ⟨0, by omega, rfl, HO, Lib.hid (Below.refl _ _)⟩
    case round =>
      obtain ⟨k, hk, rfl, HK, HB⟩ := hrel
      by_cases hp : k < l.length
      · obtain ⟨cs, hx, hsz, hat⟩ := HK.out.cells
        have hrows := HK.out.rows
        have hpw := HK.out.pw
        rw [List.drop_eq_getElem_cons hp] at hrows hpw
        obtain ⟨ca, cb⟩ := hat k hp (Nat.le_refl _)
        obtain ⟨hv1, hw1⟩ := HV.out l[k] (List.getElem_mem hp)
        obtain ⟨ra, rb⟩ := hrows l[k] (List.mem_cons_self ..)
        have rest : ∀ x ∈ l.drop (k + 1), Row wr B x.a x.e.v ∧ Row wr B x.b x.e.w := fun x hx => hrows x (List.mem_cons_of_mem _ hx)
        simp only [flat, List.pairwise_cons] at hpw
        obtain ⟨pa, pb, pr⟩ := hpw
        have hap : apart l[k].a l[k].b := pa _ (List.mem_cons_self ..)
        have pa' : ∀ u ∈ flat (l.drop (k + 1)), apart l[k].a u := fun u hu => pa u (List.mem_cons_of_mem _ hu)
        have HAT : Hid (∀ j (hj : j < l.length), k + 1 ≤ j → cs[j * 8 + 1]? = some l[j].a ∧ cs[j * 8 + 2]? = some l[j].b) := Lib.hid (fun j hj hkj => hat j hj (by omega))
        generalize l[k] = X at ca cb hv1 hw1 ra rb pb pa' hap
        obtain ⟨d, A, C⟩ := X
        simp only at ca cb hv1 hw1 ra rb pb pa' hap
        have C1 := Lib.hid (over_c d.v A wr B ra hv1 (Nat.le_trans hB HB.out.size))
        have HXr := Lib.hid hx
        have HRA := Lib.hid ra
        have HRB := Lib.hid rb
        have HREST := Lib.hid rest
        have HPA := Lib.hid pa'
        have HPB := Lib.hid pb
        have HPR := Lib.hid pr
        have HAP := Lib.hid hap
        have c1 : wr.cell? ⟨g, k * 8 + 1, none⟩ = some A := (hx.cell _).trans ca
        have hgl := hx.lt
        obtain ⟨adA, capA, rfl, _⟩ := ra.nl.form
        obtain ⟨adC, capC, rfl, _⟩ := rb.nl.form
        have hpi : decide ((k : Int) < (l.length : Int)) = true := by simpa using hp
        clear hat hrows pa pa' pb pr hap ra rb rest hx
        go_wp2_with fail
        refine C1.out.mono ?_
        rintro e w2 ⟨rfl, g2⟩
        have hx2 := HXr.out.far g2 (fun e => tag_bx HXr.out HRA.out e.symm)
        have hb2 : Below B w w2 := HB.out.trans (below_of_grown g2 (Nat.le_trans hB HB.out.size) (fun i hi => (World.ownsRow.lt HRA.out i hi).1))
        have rb2 : Row w2 B (.slice adC d.w.length capC) d.w := HRB.out.far g2 (by rintro i hi i' hi' rfl; exact HAP.out i hi hi')
        have rest2 : ∀ x ∈ l.drop (k + 1), Row w2 B x.a x.e.v ∧ Row w2 B x.b x.e.w := fun x hx =>
          ⟨(HREST.out x hx).1.far g2 (by rintro i hi i' hi' rfl; exact HPA.out x.a (flat_a hx) i hi hi'), (HREST.out x hx).2.far g2 (by rintro i hi i' hi' rfl; exact HPA.out x.b (flat_b hx) i hi hi')⟩
        have C2 := Lib.hid (over_c d.w _ w2 B rb2 hw1 (Nat.le_trans hB hb2.size))
        have c2 : w2.cell? ⟨g, k * 8 + 2, none⟩ = some (.slice adC d.w.length capC) := (hx2.cell _).trans cb
        have hgl2 := hx2.lt
        have HX2 := Lib.hid hx2
        have HB2 := Lib.hid hb2
        have HRB2 := Lib.hid rb2
        have HREST2 := Lib.hid rest2
        clear g2 hx2 hb2 rb2 rest2 c1
        go_wp2_with fail
        refine C2.out.mono ?_
        rintro e w3 ⟨rfl, g3⟩
        have hx3 := HX2.out.far g3 (fun e => tag_bx HX2.out HRB2.out e.symm)
        have hb3 : Below B w w3 := HB2.out.trans (below_of_grown g3 (Nat.le_trans hB HB2.out.size) (fun i hi => (World.ownsRow.lt HRB2.out i hi).1))
        have rest3 : ∀ x ∈ l.drop (k + 1), Row w3 B x.a x.e.v ∧ Row w3 B x.b x.e.w := fun x hx =>
          ⟨(HREST2.out x hx).1.far g3 (by rintro i hi i' hi' rfl; exact HPB.out x.a (flat_a hx) i hi hi'), (HREST2.out x hx).2.far g3 (by rintro i hi i' hi' rfl; exact HPB.out x.b (flat_b hx) i hi hi')⟩
        have ex : ∀ t, t < 8 → ∃ u, w3.cell? ⟨g, k * 8 + t, none⟩ = some u := fun t ht => ⟨cs[k * 8 + t]'(by omega), (hx3.cell _).trans (Array.getElem?_eq_getElem (by omega))⟩
        obtain ⟨y0, e0⟩ := ex 0 (by omega)
        rw [Nat.add_zero] at e0
        obtain ⟨y1, e1⟩ := ex 1 (by omega)
        obtain ⟨y2, e2⟩ := ex 2 (by omega)
        obtain ⟨y3, e3⟩ := ex 3 (by omega)
        obtain ⟨y4, e4⟩ := ex 4 (by omega)
        obtain ⟨y5, e5⟩ := ex 5 (by omega)
        obtain ⟨y6, e6⟩ := ex 6 (by omega)
        obtain ⟨y7, e7⟩ := ex 7 (by omega)
        have s0 := hx3.soft (k * 8)
        have s1 := hx3.soft (k * 8 + 1)
        have s2 := hx3.soft (k * 8 + 2)
        have s3 := hx3.soft (k * 8 + 3)
        have s4 := hx3.soft (k * 8 + 4)
        have s5 := hx3.soft (k * 8 + 5)
        have s6 := hx3.soft (k * 8 + 6)
        have s7 := hx3.soft (k * 8 + 7)
        have hgl3 := hx3.lt
        have HX3 := Lib.hid hx3
        have HB3 := Lib.hid hb3
        have HREST3 := Lib.hid rest3
        clear g3 hx3 hb3 rest3 ex c2
        have fin : Hid (OvAt (set8 w3 g (k * 8) (.int .i64 (-9)) (.slice none 0 0) (.slice none 0 0) (.int .i64 0) (.int .i64 0) (.int .i64 0) (.int .i64 0) (.string ⟨#[]⟩)) B g l (k + 1)) := Lib.hid (by
          obtain ⟨ds, hd1, hd2, hd3⟩ := bx_set8At (o := k * 8) HX3.out (.int .i64 (-9)) (.slice none 0 0) (.slice none 0 0) (.int .i64 0) (.int .i64 0) (.int .i64 0) (.int .i64 0) (.string ⟨#[]⟩)
          refine ⟨⟨ds, hd1, by rw [hd2]; exact hsz, fun j hj hkj => ?_⟩, fun x hx => ⟨row_set8 (HREST3.out x hx).1 (tag_bx HX3.out (HREST3.out x hx).1) _ _ _ _ _ _ _ _, row_set8 (HREST3.out x hx).2 (tag_bx HX3.out (HREST3.out x hx).2) _ _ _ _ _ _ _ _⟩, HPR.out⟩
          rw [hd3 _ (.inr (by omega)), hd3 _ (.inr (by omega))]
          exact HAT.out j hj hkj)
        have finb : Hid (Below B w (set8 w3 g (k * 8) (.int .i64 (-9)) (.slice none 0 0) (.slice none 0 0) (.int .i64 0) (.int .i64 0) (.int .i64 0) (.int .i64 0) (.string ⟨#[]⟩))) := Lib.hid (below_set8 HB3.out hBg _ _ _ _ _ _ _ _ _)
        go_wp2
        go_roundw
        case rel => exact ⟨k + 1, hp, by go_num, fin, finb⟩
        case measure => simp [RowKit.intOf]; omega
      · go_wp2
        go_end0
        exact ⟨rfl, HB.out⟩
end Go.Proofs.YtjmkphnppegegaaGreatDoor
/-
  SegmentTorn: what is read of entries that were laid, torn anywhere; pieces of lists of entries.
-/
namespace Go.Proofs.YtjmkphnppegegaaGreatDoor
open Go.RowKit Go.Lib
set_option maxRecDepth 100000

theorem mayE_lens2 {e : En} {n : Int} (h : mayE e n = true) : e.v.length ≤ 8 ∧ e.w.length ≤ 8 := by
  have := someE_len (mayE_some h)
  exact ⟨this.1, this.2.1⟩
theorem rowsE_take_le (es : List En) (k : Nat) : (rowsE (es.take k)).length ≤ (rowsE es).length := by
  have h := rowsE_app (es.take k) (es.drop k)
  rw [List.take_append_drop] at h
  rw [h, List.length_append]
  omega
theorem rowsE_take_succ (es : List En) (k : Nat) (hk : k < es.length) : rowsE (es.take (k + 1)) = rowsE (es.take k) ++ layE es[k] := by
  rw [List.take_succ_eq_append_getElem hk, rowsE_app]
  simp [rowsE]
theorem rowsE_mono (es : List En) (j k : Nat) (h : j ≤ k) : (rowsE (es.take j)).length ≤ (rowsE (es.take k)).length := by
  have := rowsE_take_le (es.take k) j
  rwa [List.take_take, Nat.min_eq_left h] at this
theorem goodE_take (n : Int) : ∀ (es : List En) (c : Bool) (k : Nat), goodE n c es → goodE n c (es.take k)
  | [], _, k, _ => by rw [List.take_nil]; trivial
  | e :: t, c, 0, _ => trivial
  | e :: t, c, k + 1, h => by
    rw [List.take_succ_cons]
    exact ⟨h.1, h.2.1, goodE_take n t false k h.2.2⟩
theorem goodE_false (n : Int) : ∀ (es : List En), (∀ j (hj : j < es.length), mayE es[j] n = true ∧ (es[j].k == 1) = false) → goodE n false es
  | [], _ => trivial
  | e :: t, h => by
    have h0 := h 0 (by simp)
    simp only [List.getElem_cons_zero] at h0
    exact ⟨h0.1, h0.2.symm, goodE_false n t (fun j hj => by have := h (j + 1) (by simpa using hj); simpa using this)⟩
theorem goodE_true (n : Int) (es : List En) (h : ∀ j (hj : j < es.length), mayE es[j] n = true ∧ (es[j].k == 1) = decide (j = 0)) : goodE n true es := by
  cases es with
  | nil => trivial
  | cons e t =>
    have h0 := h 0 (by simp)
    simp only [List.getElem_cons_zero] at h0
    refine ⟨h0.1, by rw [h0.2]; rfl, goodE_false n t (fun j hj => ?_)⟩
    have := h (j + 1) (by simpa using hj)
    simpa using this
theorem stop_at {p t : List Int} {n : Int} {c : Bool} (h : fsT t = none) : stopE (p ++ t) n p.length c := stopE_none (by
  unfold nxT
  rw [if_pos ⟨by omega, by rw [List.length_append]; omega⟩, Int.toNat_natCast, List.drop_append_of_le_length (Nat.le_refl _), List.drop_of_length_le (Nat.le_refl _), List.nil_append]
  exact h)
theorem read_all {n : Int} {es : List En} (hg : goodE n true es) : readE (rowsE es) n = (es, (rowsE es).length) := by
  have h := readE_rows n es [] hg (by rw [List.append_nil]; exact stopE_none (nxT_end _))
  rwa [List.append_nil] at h
theorem read_behind {n : Int} {es : List En} (hg : goodE n true es) (wl : Nat) (t : List Int) (ht : fsT t = none) : readE (rowsE (es.take wl) ++ t) n = (es.take wl, (rowsE (es.take wl)).length) :=
  readE_rows n _ t (goodE_take n es true wl hg) (stop_at ht)
theorem goodE_some {n : Int} : ∀ {es : List En} {c : Bool}, goodE n c es → ∀ e ∈ es, mayE e n = true
  | e :: t, c, h, d, hd => by
    rcases List.mem_cons.1 hd with rfl | hd
    · exact h.1
    · exact goodE_some h.2.2 d hd
theorem read_torn {n : Int} {es : List En} (hg : goodE n true es) (wl c : Nat) (hw : wl ≤ es.length) (h1 : (rowsE (es.take wl)).length ≤ c) (_ : c ≤ (rowsE es).length) (h2 : wl < es.length → c < (rowsE (es.take (wl + 1))).length) :
    readE ((rowsE es).take c) n = (es.take wl, (rowsE (es.take wl)).length) := by
  by_cases hl : wl < es.length
  · have e1 : es = es.take wl ++ (es[wl] :: es.drop (wl + 1)) := by rw [← List.drop_eq_getElem_cons hl, List.take_append_drop]
    have e2 : rowsE es = rowsE (es.take wl) ++ (layE es[wl] ++ rowsE (es.drop (wl + 1))) := by
      have h := congrArg rowsE e1
      rw [rowsE_app, rowsE] at h
      exact h
    have h3 := h2 hl
    rw [rowsE_take_succ es wl hl, List.length_append] at h3
    have e3 : (rowsE es).take c = rowsE (es.take wl) ++ (layE es[wl]).take (c - (rowsE (es.take wl)).length) := by
      rw [e2, List.take_append, List.take_of_length_le h1, List.take_append_of_le_length (by omega)]
    rw [e3]
    refine read_behind hg wl _ ?_
    have hs := mayE_some (goodE_some hg es[wl] (List.getElem_mem hl))
    exact lay_cut (bodyE_okF hs) (by unfold layE at h3; omega)
  · obtain rfl : wl = es.length := by omega
    rw [List.take_of_length_le (Nat.le_refl _)] at h1 ⊢
    rw [List.take_of_length_le (by omega)]
    exact read_all hg

/-- The ends of entries that were laid. -/
def endsE (es : List En) : List Int := (List.range es.length).map fun j => ((rowsE (es.take (j + 1))).length : Int)
theorem endsE_len (es : List En) : (endsE es).length = es.length := by simp [endsE]
theorem endsE_at (es : List En) (k : Nat) (hk : k < (endsE es).length) : (endsE es)[k] = ((rowsE (es.take (k + 1))).length : Int) := by simp [endsE]
theorem endsE_succ (es : List En) (k : Nat) (hk : k < es.length) : endsE (es.take (k + 1)) = endsE (es.take k) ++ [((rowsE (es.take (k + 1))).length : Int)] := by
  unfold endsE
  have h1 : (es.take (k + 1)).length = k + 1 := by simp; omega
  have h2 : (es.take k).length = k := by simp; omega
  rw [h1, h2, List.range_succ, List.map_append]
  congr 1
  · apply List.map_congr_left
    intro j hj
    have : j < k := by simpa using hj
    rw [List.take_take, List.take_take, Nat.min_eq_left (by omega), Nat.min_eq_left (by omega)]
  · simp [List.take_take]

/-- A beginning of a list of entries. -/
theorem Er.take {w : World} {ad : Option Addr} {n cap : Nat} {l : List Ev} (h : Er w (.slice ad n cap) l) (k : Nat) (hk : k ≤ l.length) : Er w (.slice ad k cap) (l.take k) := by
  obtain ⟨ad', cap', e, hc, h2⟩ := h
  simp only [Value.slice.injEq] at e
  obtain ⟨rfl, rfl, rfl⟩ := e
  have hl : (l.take k).length = k := by simp; omega
  refine ⟨ad, cap, by rw [hl], by rw [hl]; omega, fun h0 => ?_⟩
  rw [hl] at h0
  obtain ⟨b, o, e, hs⟩ := h2 (by omega)
  refine ⟨b, o, e, fun j hj => ?_⟩
  rw [hl] at hj
  rw [List.getElem_take]
  exact hs j (by omega)
theorem slice_ents_run {W0 : World} {ad : Option Addr} {n cap : Nat} {l : List Ev} (h : Er W0 (.slice ad n cap) l) (k : Nat) (hk : k ≤ l.length) (W : World) : (Instr.sliceAt 22 (.slice ad n cap) none (some (.int .i64 (k : Int))) none).run Tryz.prog W = .ok (.slice ad k cap) W := by
  obtain ⟨ad', cap', e, hc, h2⟩ := h
  simp only [Value.slice.injEq] at e
  obtain ⟨rfl, rfl, rfl⟩ := e
  have hb : (Instr.sliceBounds true l.length cap none (some (.int .i64 (k : Int))) none).run Tryz.prog W = .ok (0, k, cap) W := by simp [Instr.sliceBounds, run_sliceBound_if, show k ≤ cap by omega]
  have hs : (sizeOf 43).run Tryz.prog W = .ok 8 W := by
    have := Tryz.sizeOf43
    simp [sizeOf]
    rfl
  rw [run_sliceAt_slice W _ _ _ _ _ Tryz.underlying22, run_slice_any W _ _ _ _ Tryz.underlying22, hb]
  simp only [Result.andThen]
  rw [show Tryz.prog.elem 22 = 43 by kernel_rfl, hs]
  have hz : sliced ad 0 k cap 8 = .slice ad k cap := by
    unfold sliced
    cases ad with
    | none => simp
    | some a =>
      obtain ⟨b, o, s⟩ := a
      by_cases hcap : cap = 0
      · simp [hcap]
      · simp [hcap, Addr.add]
  simp only [hz]
/-- A beginning of bytes. -/
theorem Bc.front {w : World} {ad : Option Addr} {n cap : Nat} {l : List Int} (h : Bc w (.slice ad n cap) l) (k : Nat) (hk : k ≤ l.length) :
    ∃ A C, (∀ W, (Instr.sliceAt 78 (.slice ad n cap) none (some (.int .i64 (k : Int))) none).run Tryz.prog W = .ok (.slice A k C) W) ∧ ∀ W, Bc W (.slice ad n cap) l → Bc W (.slice A k C) (l.take k) := by
  obtain ⟨A1, C1, e1, p1⟩ := h.piece 0 k (by omega) hk
  rw [Nat.sub_zero] at e1 p1
  obtain ⟨_, ad', cap', e, hc⟩ := h
  simp only [Value.slice.injEq] at e
  obtain ⟨rfl, rfl, rfl⟩ := e
  refine ⟨A1, C1, fun W => ?_, fun W hW => by have := p1 W hW; rwa [List.drop_zero] at this⟩
  rw [← e1]
  exact slice_any_run ad _ cap _ _ _ _ W (by simp [Instr.sliceBounds, run_sliceBound_if, show k ≤ cap by omega])
/-- append of bytes to a row of one's own: what else may have changed. -/
theorem bapp_grown (l m : List Int) (v u : Value) (w : World) (ty : TypeId) (B : Nat) (h : BRow w B v l) (hu : Bl w u m) (hn : l.length + m.length ≤ 1000000) (hB : B ≤ w.heap.size) :
    ∃ A N C w1, (Builtin.append_ #[78, 78] ty #[v, u]).run Tryz.prog w = .ok (.slice A N C) w1 ∧ BRow w1 B (.slice A N C) (l ++ m) ∧ w.grownBy w1 v.ownBlock := by
  rcases hu with ⟨rfl, rfl⟩ | ⟨ad, cap, rfl, hu⟩
  · obtain ⟨a, c, rfl, hc⟩ := h.bc.2
    have hc' : ¬ c < l.length := by omega
    refine ⟨a, _, c, w, ?_, by rw [List.append_nil]; exact h, grown_refl _ _⟩
    cases a <;> simp [hc', Builtin.append_, go_sem, run_underlying Tryz.underlying78]
  · obtain ⟨i0, hi, hz0, hz1, hz2⟩ := info_parts byteInfo
    obtain ⟨v', w', h1, h2, h3, _, _⟩ := run_append_own_at (P := Tryz.prog) w B 78 ty 5 i0 (.int .u8 0) 1 1 Tryz.underlying78 hi hz0 hz1 hz2 rfl (by decide) v l.length (bys l) h ad m.length cap (bys m) (by rw [bys_len, Nat.mul_one]) (Bl.news hu) (bys_one m) (by unfold maxLen; omega) (by omega) hB
    have hr : BRow w' B v' (l ++ m) := by
      unfold BRow
      rw [List.length_append, show bys (l ++ m) = bys l ++ bys m by simp [bys]]
      exact h2
    obtain ⟨a, c, rfl, _⟩ := hr.nl.form
    exact ⟨a, _, c, w', h1, hr, h3⟩
theorem tags_bytes {w : World} {B B' : Nat} {v a : Value} {l m : List Int} (hv : BRow w B v l) (ha : Row w B' a m) : apart v a ∧ apart a v := by
  have key : ∀ g, v.ownBlock = some g → a.ownBlock = some g → False := fun g hg hg' => by
    rcases hv.2 with ⟨rfl, _⟩ | ⟨g1, cap, cur, rfl, _, h1, _⟩
    · cases hg
    · rcases ha.2 with ⟨rfl, _⟩ | ⟨g2, cap', cur', rfl, _, h2, _⟩
      · cases hg'
      · simp only [Value.ownBlock, Option.some.injEq] at hg hg'
        subst hg
        subst hg'
        rw [h1] at h2
        simp only [Option.some.injEq, Obj.cells.injEq] at h2
        exact absurd h2.2.1 (by decide)
  exact ⟨fun g h h' => key g h h', fun g h h' => key g h' h⟩
end Go.Proofs.YtjmkphnppegegaaGreatDoor
/-
  SegmentReads, by contract.
-/
namespace Go.Proofs.YtjmkphnppegegaaGreatDoor
open Go.RowKit Go.Lib
set_option maxRecDepth 100000

theorem rdE_may (l : List Int) (n : Int) : ∀ (f a : Nat) (c : Bool), (∀ e ∈ (rdE l n f a c).1, mayE e n = true) ∧ (rdE l n f a c).1.length ≤ f
  | 0, a, c => ⟨(fun e he => by cases he), Nat.le_refl _⟩
  | f + 1, a, c => by
    rw [rdE]
    split
    · exact ⟨(fun e he => by cases he), Nat.zero_le _⟩
    · rename_i d E hd
      split
      · have ih := rdE_may l n f E.toNat false
        refine ⟨fun e he => ?_, by simp; exact ih.2⟩
        rcases List.mem_cons.1 he with rfl | he
        · unfold nextE at hd
          split at hd
          · cases hd
          · split at hd
            · cases hd
            · split at hd
              · rename_i hm
                simp only [Option.some.injEq, Prod.mk.injEq] at hd
                rw [← hd.1]
                exact hm
              · cases hd
        · exact ih.1 e he
      · exact ⟨(fun e he => by cases he), Nat.zero_le _⟩
theorem mayE_lens {e : En} {n : Int} (h : mayE e n = true) : e.v.length ≤ 8 ∧ e.w.length ≤ 8 := by
  have := someE_len (mayE_some h)
  exact ⟨this.1, this.2.1⟩
theorem read_bounds {l : List Int} {n : Int} {xs : List Ev} (h : xs.map Ev.e = (readE l n).1) : xs.length ≤ l.length + 1 ∧ ∀ x ∈ xs, x.e.v.length ≤ 1000000 ∧ x.e.w.length ≤ 1000000 := by
  obtain ⟨h1, h2⟩ := rdE_may l n (l.length + 1) 0 true
  refine ⟨by have := congrArg List.length h; rw [List.length_map] at this; rw [this]; exact h2, fun x hx => ?_⟩
  have hm : x.e ∈ (readE l n).1 := by rw [← h]; exact List.mem_map_of_mem hx
  have := mayE_lens (h1 _ hm)
  omega
end Go.Proofs.YtjmkphnppegegaaGreatDoor
