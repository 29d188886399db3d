/-
  OverEntries, great, base, by contract.
-/
import Derived.Test.YtcnpckdchjjeoaaDoorSegRow
import Derived.Test.YtcnpckdchjjeoaaDoorMVecMore
namespace Go.Proofs.YtcnpckdchjjeoaaDoor
open Go.RowKit Go.Lib
set_option maxRecDepth 100000

theorem tag_bx {w : World} {B g : Nat} {cs : Array Value} {a : Value} {l : List Int} (hx : Bx 30 w g cs) (ha : Row w B a l) : a.ownBlock ≠ some g := fun hg' => by
  rcases ha.2 with ⟨rfl, _⟩ | ⟨g2, cap', cur', rfl, _, h2, _⟩
  · cases hg'
  · simp only [Value.ownBlock, Option.some.injEq] at hg'
    subst hg'
    unfold Bx at hx
    rw [hx] at h2
    simp only [Option.some.injEq, Obj.cells.injEq] at h2
    exact absurd h2.2.1 (by decide)
theorem flat_a {x : Ev} : ∀ {l : List Ev}, x ∈ l → x.a ∈ flat l
  | y :: t, h => by
    rcases List.mem_cons.1 h with rfl | h
    · simp [flat]
    · simp [flat, flat_a h]
theorem flat_b {x : Ev} : ∀ {l : List Ev}, x ∈ l → x.b ∈ flat l
  | y :: t, h => by
    rcases List.mem_cons.1 h with rfl | h
    · simp [flat]
    · simp [flat, flat_b h]
/-- The row of entries in block g, as far as it is still as it was: from place k on. -/
structure OvAt (w : World) (B g : Nat) (l : List Ev) (k : Nat) : Prop where
  cells : ∃ cs, Bx 30 w g cs ∧ l.length * 8 ≤ cs.size ∧ ∀ j (hj : j < l.length), k ≤ j → cs[j * 8 + 1]? = some l[j].a ∧ cs[j * 8 + 2]? = some l[j].b
  rows : ∀ x ∈ l.drop k, Row w B x.a x.e.v ∧ Row w B x.b x.e.w
  pw : (flat (l.drop k)).Pairwise apart
theorem bx_set8At {w : World} {g o : Nat} {cs : Array Value} (h : Bx 30 w g cs) (a b c d e f i j : Value) : ∃ ds, Bx 30 (set8 w g o a b c d e f i j) g ds ∧ ds.size = cs.size ∧ ∀ k, (k < o ∨ o + 8 ≤ k) → ds[k]? = cs[k]? := by
  refine ⟨_, ((((((((h.set _ a).set _ b).set _ c).set _ d).set _ e).set _ f).set _ i).set _ j), by simp, fun k hk => ?_⟩
  rw [Array.getElem?_setIfInBounds_ne (by omega), Array.getElem?_setIfInBounds_ne (by omega), Array.getElem?_setIfInBounds_ne (by omega), Array.getElem?_setIfInBounds_ne (by omega), Array.getElem?_setIfInBounds_ne (by omega), Array.getElem?_setIfInBounds_ne (by omega), Array.getElem?_setIfInBounds_ne (by omega), Array.getElem?_setIfInBounds_ne (by omega)]
theorem EOwn.ov {w : World} {B g cap : Nat} {l : List Ev} (h : EOwn w B (.slice (some ⟨g, 0, none⟩) l.length cap) l) : OvAt w B g l 0 ∧ B ≤ g := by
  rcases h.row.2 with ⟨h1, _⟩ | ⟨g', cap', cur, h1, hg, hh, hn, _, hsz, htake⟩
  · cases h1
  · simp only [Value.slice.injEq, Option.some.injEq, Addr.mk.injEq] at h1
    obtain ⟨⟨rfl, _, _⟩, _, rfl⟩ := h1
    refine ⟨⟨⟨cur, hh, by rw [hsz]; exact Nat.mul_le_mul_right 8 hn, fun j hj _ => ?_⟩, fun x hx => h.rows x (by simpa using hx), by simpa using h.pw⟩, hg⟩
    obtain ⟨_, c1, c2, _⟩ := cs8_at l j hj
    have f : ∀ t, t < l.length * 8 → cur[t]? = (cs8 l)[t]? := fun t ht => by
      rw [← htake, List.getElem?_take_of_lt ht, Array.getElem?_toList]
    exact ⟨(f _ (by omega)).trans c1, (f _ (by omega)).trans c2⟩

set_option maxHeartbeats 4000000 in
theorem overs_c (l : List Ev) (v : Value) (w : World) (B : Nat) (h : EOwn w B v l) (hn : l.length ≤ 1000000) (hv : ∀ x ∈ l, x.e.v.length ≤ 1000000 ∧ x.e.w.length ≤ 1000000) (hB : B ≤ w.heap.size) :
    Calls Tryd.prog 23 #[v] w fun e w' => e = .returned (.tuple #[]) ∧ Below B w w' := by
  have HV := Lib.hid hv
  rcases h.row.2 with ⟨rfl, h0⟩ | ⟨g, cap, cur, rfl, hg, hh, hnn, _⟩
  · go_enter Tryd.func23, Tryd.ntmps23
    go_wp2
    go_loopw [2] (fun v2 wr => v2 = .int .i64 0 ∧ wr = w) (fun _ _ => 0)
    case atStart => exact ⟨rfl, rfl⟩
    case round =>
      obtain ⟨rfl, rfl⟩ := hrel
      go_wp2
      go_end0
      exact ⟨rfl, Below.refl _ _⟩
  · obtain ⟨ho, hBg⟩ := h.ov
    have HO := Lib.hid ho
    clear h ho hv hh hg hnn
    go_enter Tryd.func23, Tryd.ntmps23
    go_wp2
    go_loopw [2] (fun v2 wr => ∃ k : Nat, k ≤ l.length ∧ v2 = .int .i64 (k : Int) ∧ Hid (OvAt wr B g l k) ∧ Hid (Below B w wr)) (fun v2 _ => l.length - (RowKit.intOf v2).toNat)
    case atStart => exact ⟨0, by omega, rfl, HO, Lib.hid (Below.refl _ _)⟩
    case round =>
      obtain ⟨k, hk, rfl, HK, HB⟩ := hrel
      by_cases hp : k < l.length
      · obtain ⟨cs, hx, hsz, hat⟩ := HK.out.cells
        have hrows := HK.out.rows
        have hpw := HK.out.pw
        rw [List.drop_eq_getElem_cons hp] at hrows hpw
        obtain ⟨ca, cb⟩ := hat k hp (Nat.le_refl _)
        obtain ⟨hv1, hw1⟩ := HV.out l[k] (List.getElem_mem hp)
        obtain ⟨ra, rb⟩ := hrows l[k] (List.mem_cons_self ..)
        have rest : ∀ x ∈ l.drop (k + 1), Row wr B x.a x.e.v ∧ Row wr B x.b x.e.w := fun x hx => hrows x (List.mem_cons_of_mem _ hx)
        simp only [flat, List.pairwise_cons] at hpw
        obtain ⟨pa, pb, pr⟩ := hpw
        have hap : apart l[k].a l[k].b := pa _ (List.mem_cons_self ..)
        have pa' : ∀ u ∈ flat (l.drop (k + 1)), apart l[k].a u := fun u hu => pa u (List.mem_cons_of_mem _ hu)
        have HAT : Hid (∀ j (hj : j < l.length), k + 1 ≤ j → cs[j * 8 + 1]? = some l[j].a ∧ cs[j * 8 + 2]? = some l[j].b) := Lib.hid (fun j hj hkj => hat j hj (by omega))
        generalize l[k] = X at ca cb hv1 hw1 ra rb pb pa' hap
        obtain ⟨d, A, C⟩ := X
        simp only at ca cb hv1 hw1 ra rb pb pa' hap
        have C1 := Lib.hid (over_c d.v A wr B ra hv1 (Nat.le_trans hB HB.out.size))
        have HXr := Lib.hid hx
        have HRA := Lib.hid ra
        have HRB := Lib.hid rb
        have HREST := Lib.hid rest
        have HPA := Lib.hid pa'
        have HPB := Lib.hid pb
        have HPR := Lib.hid pr
        have HAP := Lib.hid hap
        have c1 : wr.cell? ⟨g, k * 8 + 1, none⟩ = some A := (hx.cell _).trans ca
        have hgl := hx.lt
        obtain ⟨adA, capA, rfl, _⟩ := ra.nl.form
        obtain ⟨adC, capC, rfl, _⟩ := rb.nl.form
        have hpi : decide ((k : Int) < (l.length : Int)) = true := by simpa using hp
        clear hat hrows pa pa' pb pr hap ra rb rest hx
        go_wp2_with fail
        refine C1.out.mono ?_
        rintro e w2 ⟨rfl, g2⟩
        have hx2 := HXr.out.far g2 (fun e => tag_bx HXr.out HRA.out e.symm)
        have hb2 : Below B w w2 := HB.out.trans (below_of_grown g2 (Nat.le_trans hB HB.out.size) (fun i hi => (World.ownsRow.lt HRA.out i hi).1))
        have rb2 : Row w2 B (.slice adC d.w.length capC) d.w := HRB.out.far g2 (by rintro i hi i' hi' rfl; exact HAP.out i hi hi')
        have rest2 : ∀ x ∈ l.drop (k + 1), Row w2 B x.a x.e.v ∧ Row w2 B x.b x.e.w := fun x hx =>
          ⟨(HREST.out x hx).1.far g2 (by rintro i hi i' hi' rfl; exact HPA.out x.a (flat_a hx) i hi hi'), (HREST.out x hx).2.far g2 (by rintro i hi i' hi' rfl; exact HPA.out x.b (flat_b hx) i hi hi')⟩
        have C2 := Lib.hid (over_c d.w _ w2 B rb2 hw1 (Nat.le_trans hB hb2.size))
        have c2 : w2.cell? ⟨g, k * 8 + 2, none⟩ = some (.slice adC d.w.length capC) := (hx2.cell _).trans cb
        have hgl2 := hx2.lt
        have HX2 := Lib.hid hx2
        have HB2 := Lib.hid hb2
        have HRB2 := Lib.hid rb2
        have HREST2 := Lib.hid rest2
        clear g2 hx2 hb2 rb2 rest2 c1
        go_wp2_with fail
        refine C2.out.mono ?_
        rintro e w3 ⟨rfl, g3⟩
        have hx3 := HX2.out.far g3 (fun e => tag_bx HX2.out HRB2.out e.symm)
        have hb3 : Below B w w3 := HB2.out.trans (below_of_grown g3 (Nat.le_trans hB HB2.out.size) (fun i hi => (World.ownsRow.lt HRB2.out i hi).1))
        have rest3 : ∀ x ∈ l.drop (k + 1), Row w3 B x.a x.e.v ∧ Row w3 B x.b x.e.w := fun x hx =>
          ⟨(HREST2.out x hx).1.far g3 (by rintro i hi i' hi' rfl; exact HPB.out x.a (flat_a hx) i hi hi'), (HREST2.out x hx).2.far g3 (by rintro i hi i' hi' rfl; exact HPB.out x.b (flat_b hx) i hi hi')⟩
        have ex : ∀ t, t < 8 → ∃ u, w3.cell? ⟨g, k * 8 + t, none⟩ = some u := fun t ht => ⟨cs[k * 8 + t]'(by omega), (hx3.cell _).trans (Array.getElem?_eq_getElem (by omega))⟩
        obtain ⟨y0, e0⟩ := ex 0 (by omega)
        rw [Nat.add_zero] at e0
        obtain ⟨y1, e1⟩ := ex 1 (by omega)
        obtain ⟨y2, e2⟩ := ex 2 (by omega)
        obtain ⟨y3, e3⟩ := ex 3 (by omega)
        obtain ⟨y4, e4⟩ := ex 4 (by omega)
        obtain ⟨y5, e5⟩ := ex 5 (by omega)
        obtain ⟨y6, e6⟩ := ex 6 (by omega)
        obtain ⟨y7, e7⟩ := ex 7 (by omega)
        have s0 := hx3.soft (k * 8)
        have s1 := hx3.soft (k * 8 + 1)
        have s2 := hx3.soft (k * 8 + 2)
        have s3 := hx3.soft (k * 8 + 3)
        have s4 := hx3.soft (k * 8 + 4)
        have s5 := hx3.soft (k * 8 + 5)
        have s6 := hx3.soft (k * 8 + 6)
        have s7 := hx3.soft (k * 8 + 7)
        have hgl3 := hx3.lt
        have HX3 := Lib.hid hx3
        have HB3 := Lib.hid hb3
        have HREST3 := Lib.hid rest3
        clear g3 hx3 hb3 rest3 ex c2
        have fin : Hid (OvAt (set8 w3 g (k * 8) (.int .i64 (-9)) (.slice none 0 0) (.slice none 0 0) (.int .i64 0) (.int .i64 0) (.int .i64 0) (.int .i64 0) (.string ⟨#[]⟩)) B g l (k + 1)) := Lib.hid (by
          obtain ⟨ds, hd1, hd2, hd3⟩ := bx_set8At (o := k * 8) HX3.out (.int .i64 (-9)) (.slice none 0 0) (.slice none 0 0) (.int .i64 0) (.int .i64 0) (.int .i64 0) (.int .i64 0) (.string ⟨#[]⟩)
          refine ⟨⟨ds, hd1, by rw [hd2]; exact hsz, fun j hj hkj => ?_⟩, fun x hx => ⟨row_set8 (HREST3.out x hx).1 (tag_bx HX3.out (HREST3.out x hx).1) _ _ _ _ _ _ _ _, row_set8 (HREST3.out x hx).2 (tag_bx HX3.out (HREST3.out x hx).2) _ _ _ _ _ _ _ _⟩, HPR.out⟩
          rw [hd3 _ (.inr (by omega)), hd3 _ (.inr (by omega))]
          exact HAT.out j hj hkj)
        have finb : Hid (Below B w (set8 w3 g (k * 8) (.int .i64 (-9)) (.slice none 0 0) (.slice none 0 0) (.int .i64 0) (.int .i64 0) (.int .i64 0) (.int .i64 0) (.string ⟨#[]⟩))) := Lib.hid (below_set8 HB3.out hBg _ _ _ _ _ _ _ _ _)
        go_wp2
        go_roundw
        case rel => exact ⟨k + 1, hp, by go_num, fin, finb⟩
        case measure => simp [RowKit.intOf]; omega
      · go_wp2
        go_end0
        exact ⟨rfl, HB.out⟩
end Go.Proofs.YtcnpckdchjjeoaaDoor
