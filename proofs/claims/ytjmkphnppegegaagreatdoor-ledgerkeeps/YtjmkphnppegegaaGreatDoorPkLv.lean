/-
  OverEntries by contract: just the blocks of the row and of its lists turn.
-/
import Derived.Test.YtjmkphnppegegaaGreatDoorPkLe
namespace Go.Proofs.YtjmkphnppegegaaGreatDoor
open Go.RowKit Go.Lib
set_option maxRecDepth 100000

/-- The blocks of a row of entries and of its lists. -/
def tk (v : Value) (l : List Ev) : Nat → Prop := fun i => v.ownBlock = some i ∨ ∃ u ∈ flat l, u.ownBlock = some i
set_option maxHeartbeats 4000000 in
theorem overt_c (l : List Ev) (v : Value) (w : World) (B : Nat) (h : EOwn w B v l) (hn : l.length ≤ 1000000) (hv : ∀ x ∈ l, x.e.v.length ≤ 1000000 ∧ x.e.w.length ≤ 1000000) (hB : B ≤ w.heap.size) :
    Calls Tryz.prog 23 #[v] w fun e w' => e = .returned (.tuple #[]) ∧ Turn (tk v l) w w' := by
  have HV := Lib.hid hv
  rcases h.row.2 with ⟨rfl, h0⟩ | ⟨g, cap, cur, rfl, hg, hh, hnn, _⟩
  · go_enter Tryz.func23, Tryz.ntmps23
    go_wp2
    go_loopw [2] (fun v2 wr => v2 = .int .i64 0 ∧ wr = w) (fun _ _ => 0)
    case atStart => exact ⟨rfl, rfl⟩
    case round =>
      obtain ⟨rfl, rfl⟩ := hrel
      go_wp2
      go_end0
      exact ⟨rfl, Turn.refl _ _⟩
  · obtain ⟨ho, hBg⟩ := h.ov
    have HO := Lib.hid ho
    clear h ho hv hh hg hnn
    go_enter Tryz.func23, Tryz.ntmps23
    go_wp2
    go_loopw [2] (fun v2 wr => ∃ k : Nat, k ≤ l.length ∧ v2 = .int .i64 (k : Int) ∧ Hid (OvAt wr B g l k) ∧ Hid (Turn (tk (.slice (some ⟨g, 0, none⟩) l.length cap) l) w wr)) (fun v2 _ => l.length - (RowKit.intOf v2).toNat)
    case atStart => exact ⟨0, by omega, rfl, HO, Lib.hid (Turn.refl _ _)⟩
    case round =>
      obtain ⟨k, hk, rfl, HK, HB⟩ := hrel
      by_cases hp : k < l.length
      · obtain ⟨cs, hx, hsz, hat⟩ := HK.out.cells
        have hrows := HK.out.rows
        have hpw := HK.out.pw
        rw [List.drop_eq_getElem_cons hp] at hrows hpw
        obtain ⟨ca, cb⟩ := hat k hp (Nat.le_refl _)
        obtain ⟨hv1, hw1⟩ := HV.out l[k] (List.getElem_mem hp)
        obtain ⟨ra, rb⟩ := hrows l[k] (List.mem_cons_self ..)
        have rest : ∀ x ∈ l.drop (k + 1), Row wr B x.a x.e.v ∧ Row wr B x.b x.e.w := fun x hx => hrows x (List.mem_cons_of_mem _ hx)
        simp only [flat, List.pairwise_cons] at hpw
        obtain ⟨pa, pb, pr⟩ := hpw
        have hap : apart l[k].a l[k].b := pa _ (List.mem_cons_self ..)
        have pa' : ∀ u ∈ flat (l.drop (k + 1)), apart l[k].a u := fun u hu => pa u (List.mem_cons_of_mem _ hu)
        have HAT : Hid (∀ j (hj : j < l.length), k + 1 ≤ j → cs[j * 8 + 1]? = some l[j].a ∧ cs[j * 8 + 2]? = some l[j].b) := Lib.hid (fun j hj hkj => hat j hj (by omega))
        have hta : ∀ i, l[k].a.ownBlock = some i → tk (.slice (some ⟨g, 0, none⟩) l.length cap) l i := fun i hi => .inr ⟨_, (mem_flat_a (List.getElem_mem hp)).1, hi⟩
        have htb : ∀ i, l[k].b.ownBlock = some i → tk (.slice (some ⟨g, 0, none⟩) l.length cap) l i := fun i hi => .inr ⟨_, (mem_flat_a (List.getElem_mem hp)).2, hi⟩
        generalize l[k] = X at ca cb hv1 hw1 ra rb pb pa' hap hta htb
        obtain ⟨d, A, C⟩ := X
        simp only at ca cb hv1 hw1 ra rb pb pa' hap hta htb
        have HTA := Lib.hid hta
        have HTB := Lib.hid htb
        clear hta htb
        have C1 := Lib.hid (over_c d.v A wr B ra hv1 (Nat.le_trans hB HB.out.size))
        have HXr := Lib.hid hx
        have HRA := Lib.hid ra
        have HRB := Lib.hid rb
        have HREST := Lib.hid rest
        have HPA := Lib.hid pa'
        have HPB := Lib.hid pb
        have HPR := Lib.hid pr
        have HAP := Lib.hid hap
        have c1 : wr.cell? ⟨g, k * 8 + 1, none⟩ = some A := (hx.cell _).trans ca
        have hgl := hx.lt
        obtain ⟨adA, capA, rfl, _⟩ := ra.nl.form
        obtain ⟨adC, capC, rfl, _⟩ := rb.nl.form
        have hpi : decide ((k : Int) < (l.length : Int)) = true := by simpa using hp
        clear hat hrows pa pa' pb pr hap ra rb rest hx
        go_wp2_with fail
        refine C1.out.mono ?_
        rintro e w2 ⟨rfl, g2⟩
        have hx2 := HXr.out.far g2 (fun e => tag_bx HXr.out HRA.out e.symm)
        have hb2 : Turn (tk (.slice (some ⟨g, 0, none⟩) l.length cap) l) w w2 := HB.out.trans (Turn.ofGrown g2 HTA.out)
        have rb2 : Row w2 B (.slice adC d.w.length capC) d.w := HRB.out.far g2 (by rintro i hi i' hi' rfl; exact HAP.out i hi hi')
        have rest2 : ∀ x ∈ l.drop (k + 1), Row w2 B x.a x.e.v ∧ Row w2 B x.b x.e.w := fun x hx =>
          ⟨(HREST.out x hx).1.far g2 (by rintro i hi i' hi' rfl; exact HPA.out x.a (flat_a hx) i hi hi'), (HREST.out x hx).2.far g2 (by rintro i hi i' hi' rfl; exact HPA.out x.b (flat_b hx) i hi hi')⟩
        have C2 := Lib.hid (over_c d.w _ w2 B rb2 hw1 (Nat.le_trans hB hb2.size))
        have c2 : w2.cell? ⟨g, k * 8 + 2, none⟩ = some (.slice adC d.w.length capC) := (hx2.cell _).trans cb
        have hgl2 := hx2.lt
        have HX2 := Lib.hid hx2
        have HB2 := Lib.hid hb2
        have HRB2 := Lib.hid rb2
        have HREST2 := Lib.hid rest2
        clear g2 hx2 hb2 rb2 rest2 c1
        go_wp2_with fail
        refine C2.out.mono ?_
        rintro e w3 ⟨rfl, g3⟩
        have hx3 := HX2.out.far g3 (fun e => tag_bx HX2.out HRB2.out e.symm)
        have hb3 : Turn (tk (.slice (some ⟨g, 0, none⟩) l.length cap) l) w w3 := HB2.out.trans (Turn.ofGrown g3 HTB.out)
        have rest3 : ∀ x ∈ l.drop (k + 1), Row w3 B x.a x.e.v ∧ Row w3 B x.b x.e.w := fun x hx =>
          ⟨(HREST2.out x hx).1.far g3 (by rintro i hi i' hi' rfl; exact HPB.out x.a (flat_a hx) i hi hi'), (HREST2.out x hx).2.far g3 (by rintro i hi i' hi' rfl; exact HPB.out x.b (flat_b hx) i hi hi')⟩
        have ex : ∀ t, t < 8 → ∃ u, w3.cell? ⟨g, k * 8 + t, none⟩ = some u := fun t ht => ⟨cs[k * 8 + t]'(by omega), (hx3.cell _).trans (Array.getElem?_eq_getElem (by omega))⟩
        obtain ⟨y0, e0⟩ := ex 0 (by omega)
        rw [Nat.add_zero] at e0
        obtain ⟨y1, e1⟩ := ex 1 (by omega)
        obtain ⟨y2, e2⟩ := ex 2 (by omega)
        obtain ⟨y3, e3⟩ := ex 3 (by omega)
        obtain ⟨y4, e4⟩ := ex 4 (by omega)
        obtain ⟨y5, e5⟩ := ex 5 (by omega)
        obtain ⟨y6, e6⟩ := ex 6 (by omega)
        obtain ⟨y7, e7⟩ := ex 7 (by omega)
        have s0 := hx3.soft (k * 8)
        have s1 := hx3.soft (k * 8 + 1)
        have s2 := hx3.soft (k * 8 + 2)
        have s3 := hx3.soft (k * 8 + 3)
        have s4 := hx3.soft (k * 8 + 4)
        have s5 := hx3.soft (k * 8 + 5)
        have s6 := hx3.soft (k * 8 + 6)
        have s7 := hx3.soft (k * 8 + 7)
        have hgl3 := hx3.lt
        have HX3 := Lib.hid hx3
        have HB3 := Lib.hid hb3
        have HREST3 := Lib.hid rest3
        clear g3 hx3 hb3 rest3 ex c2
        have fin : Hid (OvAt (set8 w3 g (k * 8) (.int .i64 (-9)) (.slice none 0 0) (.slice none 0 0) (.int .i64 0) (.int .i64 0) (.int .i64 0) (.int .i64 0) (.string ⟨#[]⟩)) B g l (k + 1)) := Lib.hid (by
          obtain ⟨ds, hd1, hd2, hd3⟩ := bx_set8At (o := k * 8) HX3.out (.int .i64 (-9)) (.slice none 0 0) (.slice none 0 0) (.int .i64 0) (.int .i64 0) (.int .i64 0) (.int .i64 0) (.string ⟨#[]⟩)
          refine ⟨⟨ds, hd1, by rw [hd2]; exact hsz, fun j hj hkj => ?_⟩, fun x hx => ⟨row_set8 (HREST3.out x hx).1 (tag_bx HX3.out (HREST3.out x hx).1) _ _ _ _ _ _ _ _, row_set8 (HREST3.out x hx).2 (tag_bx HX3.out (HREST3.out x hx).2) _ _ _ _ _ _ _ _⟩, HPR.out⟩
          rw [hd3 _ (.inr (by omega)), hd3 _ (.inr (by omega))]
          exact HAT.out j hj hkj)
        have finb : Hid (Turn (tk (.slice (some ⟨g, 0, none⟩) l.length cap) l) w (set8 w3 g (k * 8) (.int .i64 (-9)) (.slice none 0 0) (.slice none 0 0) (.int .i64 0) (.int .i64 0) (.int .i64 0) (.int .i64 0) (.string ⟨#[]⟩))) := Lib.hid (HB3.out.trans (Turn.ofGrown (grown_set8 _ _ _ _ _ _ _ _ _ _ _) (fun i hi => .inl hi)))
        go_wp2
        go_roundw
        case rel => exact ⟨k + 1, hp, by go_num, fin, finb⟩
        case measure => simp [RowKit.intOf]; omega
      · go_wp2
        go_end0
        exact ⟨rfl, HB.out⟩
/-- A ledger whose entries, as they were answered, are written over. -/
theorem Cr.over {w0 w w' : World} {z g p : Nat} {S : Lg} {own : Nat → Prop} {v vx : Value} {ys xs : List Ev} (h : Cr w0 w z g p S own v ys []) (ek : EK w own (g + 1) vx xs) (ht : Turn (tk vx xs) w w') (hv : ∀ i, v.ownBlock = some i → i < g) : Cr w0 w' z g p S own v ys [] := by
  have hge : ∀ i, tk vx xs i → g + 1 ≤ i := fun i hi => by
    rcases hi with hi | ⟨u, hu, hi⟩
    · exact (ek.1.lt.1 i hi).1
    · exact (ek.1.lt.2 u hu i hi).1
  have hno : ∀ i, tk vx xs i → ¬ own i := fun i hi => by
    rcases hi with hi | ⟨u, hu, hi⟩
    · exact ek.2.1 i hi
    · exact ek.2.2 u hu i hi
  have hgg := h.gg
  refine ⟨h.ld.far ht (fun i hi => ⟨hno i hi, fun e => by have := hge i hi; omega⟩), ⟨h.gr.bl.trans (ht.below h.gr.bl.size (fun i hi => by have := hge i hi; omega)), h.gr.ow⟩, ⟨ownsRow_of_block h.wn.row (fun i hi => ht.block i (World.ownsRow.lt h.wn.row i hi).2 (fun k => by have := hge i k; have := hv i hi; omega)), h.wn.no, h.wn.ls⟩, fun e => absurd rfl e, h.gg⟩
end Go.Proofs.YtjmkphnppegegaaGreatDoor
