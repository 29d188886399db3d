/-
  SegmentTorn, by contract.
-/
import Derived.Test.YtcnpckdchjjeoaaDoorSegLaysLaw
import Derived.Test.YtcnpckdchjjeoaaDoorSegTornMath
namespace Go.Proofs.YtcnpckdchjjeoaaDoor
open Go.RowKit Go.Lib
set_option maxRecDepth 100000

set_option maxHeartbeats 16000000 in
theorem torn_law (l : List Ev) (v0 : Value) (n cut : Int) (m : List Int) (v3 : Value) (w : World) (h0 : Er w v0 l) (h3 : Bc w v3 m) (ho : OkB m) (hs : ∀ x ∈ l, x.e.r.t.size ≤ 9223372036854775807) (hT : Tabs w) :
    Calls Tryd.prog 5 #[v0, .int .i64 n, .int .i64 cut, v3] w fun x w' => x = .returned (.bool true) ∧ Below w.heap.size w w' := by
  have HT := Lib.hid hT
  have H0 := Lib.hid h0
  have H3 := Lib.hid h3
  have HO := Lib.hid ho
  have HSZ := Lib.hid hs
  obtain ⟨ad0, cap0, rfl, hc0, k0⟩ := h0
  obtain ⟨ad3, cap3, rfl, hc3⟩ := h3.2
  have HK0 := Lib.hid k0
  clear h3 ho hs hT k0
  by_cases hl : l.length ≤ 10
  case neg =>
    have e0 : decide ((10 : Int) < (l.length : Int)) = true := by simp; omega
    go_enter Tryd.func5, Tryd.ntmps5
    go_wp2_with fail
    refine (awake_c w HT.out).mono ?_
    rintro x w1 ⟨rfl, b1⟩
    go_wp2
    go_ret
    exact ⟨rfl, b1⟩
  case pos =>
  have e0 : decide ((10 : Int) < (l.length : Int)) = false := by simp; omega
  by_cases hm : m.length ≤ 200
  case neg =>
    have e1 : decide ((200 : Int) < (m.length : Int)) = true := by simp; omega
    go_enter Tryd.func5, Tryd.ntmps5
    go_wp2_with fail
    refine (awake_c w HT.out).mono ?_
    rintro x w1 ⟨rfl, b1⟩
    go_wp2
    go_ret
    exact ⟨rfl, b1⟩
  case pos =>
  have e1 : decide ((200 : Int) < (m.length : Int)) = false := by simp; omega
  obtain ⟨es, hes⟩ : ∃ es, es = l.map Ev.e := ⟨_, rfl⟩
  have HES := Lib.hid hes
  have HLE : Hid (es.length = l.length) := Lib.hid (by rw [hes]; simp)
  obtain ⟨i0, hi, hz0, hz1, hz2⟩ := info_parts intInfo
  have HI := Lib.hid hi
  have HZ0 := Lib.hid hz0
  have HZ1 := Lib.hid hz1
  have HZ2 := Lib.hid hz2
  clear hes hi hz0 hz1 hz2
  go_enter Tryd.func5, Tryd.ntmps5
  go_wp2
  go_loopw [9, 10, 11] (fun v9 v10 v11 wr => ∃ k : Nat, k ≤ l.length ∧ v11 = .int .i64 (k : Int) ∧ Hid (BRow wr w.heap.size v9 (rowsE (es.take k))) ∧ Hid (Row wr w.heap.size v10 (endsE (es.take k))) ∧ Hid ((rowsE (es.take k)).length ≤ 312 * k) ∧ Hid (∀ j (hj : j < es.length), j < k → mayE es[j] n = true ∧ (es[j].k == 1) = decide (j = 0)) ∧ Hid (Below w.heap.size w wr)) (fun _ _ v11 _ => l.length - (RowKit.intOf v11).toNat)
  case atStart => exact ⟨0, by omega, rfl, Lib.hid (BRow.nil _ _), Lib.hid (Row.nil _ _), Lib.hid (by simp [rowsE]), Lib.hid (fun j _ h => by omega), Lib.hid (Below.refl _ _)⟩
  case round =>
    obtain ⟨k, hk, rfl, HR, HN, HSz, HG, HB⟩ := hrel
    have hsz := HB.out.size
    by_cases hp : k < l.length
    · obtain ⟨g0, o0, rfl, c0⟩ := HK0.out (by omega)
      have a0 := (c0 k hp).below HB.out
      have hke : k < es.length := by have := HLE.out; omega
      have hx : es[k] = l[k].e := by simp [HES.out]
      have hts := HSZ.out l[k] (List.getElem_mem hp)
      have HX := Lib.hid hx
      generalize l[k] = X at a0 hx hts HX
      obtain ⟨d, A, B⟩ := X
      simp only at hx hts HX
      have n1 : Nl wr A d.v := a0.2.1
      have n2 : Nl wr B d.w := a0.2.2
      have HN1 := Lib.hid n1
      have HN2 := Lib.hid n2
      have HA0 := Lib.hid a0
      have CG := Lib.hid (great_c d A B wr n1 n2)
      obtain ⟨adA, capA, rfl, _⟩ := n1.form
      obtain ⟨adB, capB, rfl, _⟩ := n2.form
      have hgl : g0 < wr.heap.size := World.block_lt_of_cell? wr _ a0.1.1
      obtain ⟨⟨p0, p1, p2, p3, p4, p5, p6, p7⟩, _, _⟩ := a0
      simp only at p0 p1 p2 p3 p4 p5 p6 p7
      have hpi : decide ((k : Int) < (l.length : Int)) = true := by simpa using hp
      clear n1 n2 c0 hx
      cases hG : greatE d with
      | true =>
        rw [hG] at CG
        go_wp2_with fail
        refine CG.out.mono ?_
        rintro x w1 ⟨rfl, b1⟩
        have HB1 := Lib.hid (bn HB.out b1)
        clear b1
        go_wp2_with fail
        refine (awake_c w1 (HT.out.below HB1.out)).mono ?_
        rintro x w2 ⟨rfl, b2⟩
        go_wp2
        go_ret
        exact ⟨rfl, bn HB1.out b2⟩
      | false =>
        rw [hG] at CG
        obtain ⟨lv, lw⟩ := greatE_lens hG
        go_wp2_with fail
        refine CG.out.mono ?_
        rintro x w1 ⟨rfl, b1⟩
        have HB1 := Lib.hid (bn HB.out b1)
        have a1 := HA0.out.below b1
        have HA1 := Lib.hid a1
        have HN11 := Lib.hid (HN1.out.below b1)
        have HN21 := Lib.hid (HN2.out.below b1)
        have hgl1 : g0 < w1.heap.size := World.block_lt_of_cell? w1 _ a1.1.1
        have HR1 := Lib.hid (HR.out.below b1)
        have HNN1 := Lib.hid (HN.out.below b1)
        clear p0 p1 p2 p3 p4 p5 p6 p7 b1 HA0 HR HN CG
        obtain ⟨⟨p0, p1, p2, p3, p4, p5, p6, p7⟩, _, _⟩ := a1
        simp only at p0 p1 p2 p3 p4 p5 p6 p7
        have CM := Lib.hid (maye_c d _ _ n w1 HN11.out HN21.out (by omega) (by omega) hts (HT.out.below HB1.out))
        cases hM : mayE d n with
        | false =>
          rw [hM] at CM
          go_wp2_with fail
          refine CM.out.mono ?_
          rintro x w2 ⟨rfl, b2⟩
          have HB2 := Lib.hid (bn HB1.out b2)
          clear b2
          go_wp2_with fail
          refine (awake_c w2 (HT.out.below HB2.out)).mono ?_
          rintro x w3 ⟨rfl, b3⟩
          go_wp2
          go_ret
          exact ⟨rfl, bn HB2.out b3⟩
        | true =>
          rw [hM] at CM
          go_wp2_with fail
          refine CM.out.mono ?_
          rintro x w2 ⟨rfl, b2⟩
          have HB2 := Lib.hid (bn HB1.out b2)
          have a2 := HA1.out.below b2
          have HN12 := Lib.hid (HN11.out.below b2)
          have HN22 := Lib.hid (HN21.out.below b2)
          have hgl2 : g0 < w2.heap.size := World.block_lt_of_cell? w2 _ a2.1.1
          have HR2 := Lib.hid (HR1.out.below b2)
          have HNN2 := Lib.hid (HNN1.out.below b2)
          clear p0 p1 p2 p3 p4 p5 p6 p7 b2 HA1 HR1 HNN1 CM
          obtain ⟨⟨p0, p1, p2, p3, p4, p5, p6, p7⟩, _, _⟩ := a2
          simp only at p0 p1 p2 p3 p4 p5 p6 p7
          cases hK : (d.k == 1) with
          | false =>
            cases hZ : ((k : Int) == 0) with
            | false =>
              have hd0 : decide (k = 0) = false := by
                rw [← hZ]
                cases k <;> simp; omega
              have HGk : Hid (mayE es[k] n = true ∧ (es[k].k == 1) = decide (k = 0)) := Lib.hid (by rw [HX.out, hd0]; exact ⟨hM, hK⟩)
              have CL := Lib.hid (laye_c d _ _ w2 HN12.out HN22.out (by omega) (by omega) hts (HT.out.below HB2.out))
              unfold layeT at CL
              rw [mayE_some hM] at CL
              have hld : (layE d).length ≤ 312 := by rw [layE_len]; have := bodyE_len (mayE_some hM); omega
              have ed0 : (((layE d).length : Int) == 0) = false := by rw [layE_len]; simp; omega
              have eLL : rowsE (es.take (k + 1)) = rowsE (es.take k) ++ layE d := by rw [rowsE_take_succ es k hke, HX.out]
              have hEL : (endsE (es.take k)).length = k := by rw [endsE_len]; simp; omega
              have HEL := Lib.hid hEL
              have HES2 := Lib.hid (endsE_succ es k hke)
              obtain ⟨LL, hLL⟩ : ∃ LL, LL = rowsE (es.take (k + 1)) := ⟨_, rfl⟩
              have HLL := Lib.hid hLL
              have hLLl : LL.length ≤ 312 * (k + 1) := by rw [hLL, eLL, List.length_append]; have := HSz.out; omega
              have HLL2 := Lib.hid (hLL.trans eLL)
              obtain ⟨ad9, cap9, rfl, _⟩ := HR2.out.nl.form
              obtain ⟨ad10, cap10, rfl, _⟩ := HNN2.out.nl.form
              clear hEL eLL hLL hM hd0
              go_wp2_with fail
              refine CL.out.mono ?_
              rintro x w3 ⟨vb, rfl, hvb, b3⟩
              have hvb' : BRow w3 w2.heap.size vb (layE d) := hvb
              obtain ⟨adb, capb, rfl, _⟩ := hvb'.nl.form
              have hz3 := b3.size
              have hz2 := HB2.out.size
              obtain ⟨A4, N4, C4, w4, r4, h4, g4⟩ := bapp_grown (rowsE (es.take k)) (layE d) _ _ w3 33 w.heap.size (HR2.out.below b3) hvb'.nl (by have := HSz.out; omega) (by omega)
              rw [← HLL2.out] at h4
              obtain rfl := h4.bc.len
              have HR4 := Lib.hid r4
              have HA4 := Lib.hid h4
              have HB4 := Lib.hid ((bn HB2.out b3).trans (below_of_grown g4 (by omega) (fun i hi => (World.ownsRow.lt HR2.out i hi).1)))
              have HN4 := Lib.hid ((HNN2.out.below b3).far g4 (by
                rintro i hi i' hi' rfl
                exact (tags_bytes (HR2.out.below b3) (HNN2.out.below b3)).1 i hi hi'))
              have hz4 := g4.size
              clear hvb hvb' b3 CL r4 h4 g4
              go_wp2_with (first
                | (at_builtin; refine wpList_append_run rfl _ _ 33 rfl _ _ HR4.out ?_; clear HR4)
                | (at_builtin; refine wpList_append_own _ rfl _ _ 22 rfl w.heap.size 3 i0 (.int .i64 0) 1 8 Tryd.underlying22 HI.out HZ0.out HZ1.out HZ2.out rfl (by decide) _ _ _ rfl (World.ownsRow.alloc HN4.out _) ⟨w4.heap.size, 0, none⟩ 1 1 [.int .i64 (LL.length : Int)] rfl rfl (cell_one_new _ _ _) (fun x hx => by simp at hx; subst hx; rfl) (by have := HEL.out; unfold maxLen; omega) (by have := HEL.out; omega) (by simp; omega) ?_; intro v' w5 hown5 hgrow5 hnil5))
              have HA5 : Hid (BRow w5 w.heap.size (.slice A4 LL.length C4) LL) := Lib.hid ((HA4.out.below (alloc_below w4 (.cells #[.int .i64 (LL.length : Int)] 3))).far hgrow5 (by
                rintro i hi i' hi' rfl
                exact (tags_bytes HA4.out HN4.out).2 i hi hi'))
              go_roundw
              case rel => exact ⟨k + 1, hp, by go_num, Lib.hid (by rw [← HLL.out]; exact HA5.out), Lib.hid (by
                  rw [HES2.out, ← HLL.out]
                  unfold Row
                  have e : ints (endsE (es.take k) ++ [(LL.length : Int)]) = ints (endsE (es.take k)) ++ [.int .i64 (LL.length : Int)] := by simp [ints]
                  rw [e, List.length_append]
                  exact hown5), Lib.hid (by rw [← HLL.out]; exact hLLl), Lib.hid (fun j hj hjk => by
                  by_cases hjk' : j = k
                  · subst hjk'
                    exact HGk.out
                  · exact HG.out j hj (by omega)), Lib.hid (HB4.out.trans ((alloc_below_of (by omega) _).trans (below_of_grown hgrow5 (by simp; omega) (fun i hi => (World.ownsRow.lt HN4.out i hi).1))))⟩
              case measure => simp [RowKit.intOf]; omega
            | true =>
              go_wp2_with fail
              refine (awake_c w2 (HT.out.below HB2.out)).mono ?_
              rintro x w3 ⟨rfl, b3⟩
              go_wp2
              go_ret
              exact ⟨rfl, bn HB2.out b3⟩
          | true =>
            cases hZ : ((k : Int) == 0) with
            | false =>
              go_wp2_with fail
              refine (awake_c w2 (HT.out.below HB2.out)).mono ?_
              rintro x w3 ⟨rfl, b3⟩
              go_wp2
              go_ret
              exact ⟨rfl, bn HB2.out b3⟩
            | true =>
              have hd0 : decide (k = 0) = true := by
                rw [← hZ]
                cases k <;> simp; omega
              have HGk : Hid (mayE es[k] n = true ∧ (es[k].k == 1) = decide (k = 0)) := Lib.hid (by rw [HX.out, hd0]; exact ⟨hM, hK⟩)
              have CL := Lib.hid (laye_c d _ _ w2 HN12.out HN22.out (by omega) (by omega) hts (HT.out.below HB2.out))
              unfold layeT at CL
              rw [mayE_some hM] at CL
              have hld : (layE d).length ≤ 312 := by rw [layE_len]; have := bodyE_len (mayE_some hM); omega
              have ed0 : (((layE d).length : Int) == 0) = false := by rw [layE_len]; simp; omega
              have eLL : rowsE (es.take (k + 1)) = rowsE (es.take k) ++ layE d := by rw [rowsE_take_succ es k hke, HX.out]
              have hEL : (endsE (es.take k)).length = k := by rw [endsE_len]; simp; omega
              have HEL := Lib.hid hEL
              have HES2 := Lib.hid (endsE_succ es k hke)
              obtain ⟨LL, hLL⟩ : ∃ LL, LL = rowsE (es.take (k + 1)) := ⟨_, rfl⟩
              have HLL := Lib.hid hLL
              have hLLl : LL.length ≤ 312 * (k + 1) := by rw [hLL, eLL, List.length_append]; have := HSz.out; omega
              have HLL2 := Lib.hid (hLL.trans eLL)
              obtain ⟨ad9, cap9, rfl, _⟩ := HR2.out.nl.form
              obtain ⟨ad10, cap10, rfl, _⟩ := HNN2.out.nl.form
              clear hEL eLL hLL hM hd0
              go_wp2_with fail
              refine CL.out.mono ?_
              rintro x w3 ⟨vb, rfl, hvb, b3⟩
              have hvb' : BRow w3 w2.heap.size vb (layE d) := hvb
              obtain ⟨adb, capb, rfl, _⟩ := hvb'.nl.form
              have hz3 := b3.size
              have hz2 := HB2.out.size
              obtain ⟨A4, N4, C4, w4, r4, h4, g4⟩ := bapp_grown (rowsE (es.take k)) (layE d) _ _ w3 33 w.heap.size (HR2.out.below b3) hvb'.nl (by have := HSz.out; omega) (by omega)
              rw [← HLL2.out] at h4
              obtain rfl := h4.bc.len
              have HR4 := Lib.hid r4
              have HA4 := Lib.hid h4
              have HB4 := Lib.hid ((bn HB2.out b3).trans (below_of_grown g4 (by omega) (fun i hi => (World.ownsRow.lt HR2.out i hi).1)))
              have HN4 := Lib.hid ((HNN2.out.below b3).far g4 (by
                rintro i hi i' hi' rfl
                exact (tags_bytes (HR2.out.below b3) (HNN2.out.below b3)).1 i hi hi'))
              have hz4 := g4.size
              clear hvb hvb' b3 CL r4 h4 g4
              go_wp2_with (first
                | (at_builtin; refine wpList_append_run rfl _ _ 33 rfl _ _ HR4.out ?_; clear HR4)
                | (at_builtin; refine wpList_append_own _ rfl _ _ 22 rfl w.heap.size 3 i0 (.int .i64 0) 1 8 Tryd.underlying22 HI.out HZ0.out HZ1.out HZ2.out rfl (by decide) _ _ _ rfl (World.ownsRow.alloc HN4.out _) ⟨w4.heap.size, 0, none⟩ 1 1 [.int .i64 (LL.length : Int)] rfl rfl (cell_one_new _ _ _) (fun x hx => by simp at hx; subst hx; rfl) (by have := HEL.out; unfold maxLen; omega) (by have := HEL.out; omega) (by simp; omega) ?_; intro v' w5 hown5 hgrow5 hnil5))
              have HA5 : Hid (BRow w5 w.heap.size (.slice A4 LL.length C4) LL) := Lib.hid ((HA4.out.below (alloc_below w4 (.cells #[.int .i64 (LL.length : Int)] 3))).far hgrow5 (by
                rintro i hi i' hi' rfl
                exact (tags_bytes HA4.out HN4.out).2 i hi hi'))
              go_roundw
              case rel => exact ⟨k + 1, hp, by go_num, Lib.hid (by rw [← HLL.out]; exact HA5.out), Lib.hid (by
                  rw [HES2.out, ← HLL.out]
                  unfold Row
                  have e : ints (endsE (es.take k) ++ [(LL.length : Int)]) = ints (endsE (es.take k)) ++ [.int .i64 (LL.length : Int)] := by simp [ints]
                  rw [e, List.length_append]
                  exact hown5), Lib.hid (by rw [← HLL.out]; exact hLLl), Lib.hid (fun j hj hjk => by
                  by_cases hjk' : j = k
                  · subst hjk'
                    exact HGk.out
                  · exact HG.out j hj (by omega)), Lib.hid (HB4.out.trans ((alloc_below_of (by omega) _).trans (below_of_grown hgrow5 (by simp; omega) (fun i hi => (World.ownsRow.lt HN4.out i hi).1))))⟩
              case measure => simp [RowKit.intOf]; omega
    · obtain rfl : k = l.length := by omega
      have hgood : goodE n true es := goodE_true n es (fun j hj => HG.out j hj (by have := HLE.out; omega))
      have etk : es.take l.length = es := List.take_of_length_le (by have := HLE.out; omega)
      rw [etk] at HR HN HSz
      have HGD := Lib.hid hgood
      have hall : (rowsE es).length ≤ 3120 := by have := HSz.out; omega
      have hEL : (endsE es).length = l.length := by rw [endsE_len]; exact HLE.out
      have HEL := Lib.hid hEL
      have HOK := Lib.hid (rowsE_ok es)
      clear hgood etk HG hEL
      obtain ⟨LA, hLA⟩ : ∃ LA, LA = rowsE es := ⟨_, rfl⟩
      have HLA := Lib.hid hLA
      rw [← hLA] at HR hall HOK
      have CR := Lib.hid (reade_c LA _ n wr HR.out.bc HOK.out (by omega) (HT.out.below HB.out))
      unfold readT8 at CR
      have hra : readE LA n = (es, LA.length) := by rw [hLA]; exact read_all HGD.out
      rw [hra] at CR
      obtain ⟨ad9, cap9, rfl, _⟩ := HR.out.nl.form
      obtain ⟨ad10, cap10, hv10, _⟩ := HN.out.nl.form
      rw [HEL.out] at hv10
      subst hv10
      clear hLA hra
      have hpi : decide ((l.length : Int) < (l.length : Int)) = false := by simp
      go_wp2_with fail
      refine CR.out.mono ?_
      rintro x w1 ⟨v1, xs, rfl, hxs, h1, b1⟩
      have hxl : xs.length = l.length := by have := congrArg List.length hxs; rw [List.length_map] at this; rw [this]; exact HLE.out
      have hbd : ∀ x ∈ xs, x.e.v.length ≤ 1000000 ∧ x.e.w.length ≤ 1000000 := fun x hx => by
        have hm : x.e ∈ es := by
          have : x.e ∈ xs.map Ev.e := List.mem_map_of_mem hx
          rw [hxs] at this
          exact this
        have := mayE_lens2 (goodE_some HGD.out x.e hm)
        omega
      have HB1 := Lib.hid (bn HB.out b1)
      have CS := Lib.hid (sames_c xs l _ _ w1 h1.er (H0.out.below HB1.out) (hxs.trans HES.out) (by omega) hbd)
      have HR1 := Lib.hid (HR.out.below b1)
      have HN1 := Lib.hid (HN.out.below b1)
      obtain ⟨adx, capx, rfl, _, _⟩ := h1.er
      have eLA : ((LA.length : Int) != (LA.length : Int)) = false := by simp
      clear hxs h1 b1 CR HR HN hxl hbd
      go_wp2_with fail
      refine CS.out.mono ?_
      rintro x w2 ⟨rfl, b2⟩
      have HB2 := Lib.hid (bn HB1.out b2)
      have HR2 := Lib.hid (HR1.out.below b2)
      have HN2 := Lib.hid (HN1.out.below b2)
      clear b2 CS HR1 HN1
      have CLo := Lib.hid (low_c cut ((LA.length : Int) + 1) w2 (by omega) (by omega))
      go_wp2_with fail
      refine CLo.out.mono ?_
      rintro x w2' ⟨r, rfl, hr0, hr1, rfl⟩
      obtain ⟨c, rfl⟩ := Int.eq_ofNat_of_zero_le hr0
      have hcl : c ≤ LA.length := by omega
      clear CLo hr0 hr1
      go_wp2
      go_loopw [16, 17, 18] (fun v16 v17 v18 ws => ∃ (k wl at' q : Nat), k ≤ l.length ∧ v18 = .int .i64 (k : Int) ∧ v16 = .int .i64 (wl : Int) ∧ v17 = .int .i64 (at' : Int) ∧ wl ≤ k ∧ Hid (at' = (rowsE (es.take wl)).length) ∧ at' ≤ c ∧ Hid (wl < k → c < (rowsE (es.take (wl + 1))).length) ∧ ws = w2.drewN q) (fun _ _ v18 _ => l.length - (RowKit.intOf v18).toNat)
      case atStart => exact ⟨0, 0, 0, 0, by omega, rfl, rfl, rfl, by omega, Lib.hid (by simp [rowsE]), by omega, Lib.hid (fun h => by omega), rfl⟩
      case round =>
        obtain ⟨k, wl, at', q, hk, rfl, rfl, rfl, hwk, HAT, hatc, HWL, rfl⟩ := hrel
        by_cases hp : k < l.length
        · have hke : k < es.length := by have := HLE.out; omega
          have hkn : k < (endsE es).length := by have := HEL.out; omega
          obtain ⟨g, o, hga, c11⟩ := HN2.out.nl.cell k hkn
          subst hga
          obtain ⟨E, hE⟩ : ∃ E, E = (rowsE (es.take (k + 1))).length := ⟨_, rfl⟩
          rw [endsE_at es k hkn, ← hE] at c11
          have HE := Lib.hid hE
          have hgl : g < w2.heap.size := World.block_lt_of_cell? w2 _ c11
          have hpi2 : decide ((k : Int) < (l.length : Int)) = true := by simpa using hp
          clear hE
          by_cases hEc : E ≤ c
          · have eEc : decide (E ≤ c) = true := by simpa using hEc
            have hwl : wl = k := by
              by_cases h : wl < k
              · have h1 := HWL.out h
                have h2 := rowsE_mono es (wl + 1) (k + 1) (by omega)
                have := HE.out
                omega
              · omega
            have HWK := Lib.hid hwl
            clear hwl
            go_wp2
            go_quiet (fail)
            go_wp2
            go_roundw
            case rel => exact ⟨k + 1, k + 1, E, q + nq, hp, by go_num, by go_num, rfl, by omega, HE, hEc, Lib.hid (fun h => by omega), rfl⟩
            case measure => simp [RowKit.intOf]; omega
          · have eEc : decide (E ≤ c) = false := by simpa using hEc
            go_wp2
            go_roundw
            case rel => exact ⟨k + 1, wl, at', q, hp, by go_num, rfl, rfl, by omega, HAT, hatc, Lib.hid (fun h => by
              by_cases h' : wl < k
              · exact HWL.out h'
              · obtain rfl : wl = k := by omega
                have := HE.out
                omega), rfl⟩
            case measure => simp [RowKit.intOf]; omega
        · obtain rfl : k = l.length := by omega
          have hpi2 : decide ((l.length : Int) < (l.length : Int)) = false := by simp
          have hrt : readE (LA.take c) n = (es.take wl, at') := by
            rw [HLA.out, HAT.out]
            exact read_torn HGD.out wl c (by have := HLE.out; omega) (by rw [← HAT.out]; exact hatc) (by rw [← HLA.out]; exact hcl) (fun h => HWL.out (by have := HLE.out; omega))
          obtain ⟨w3, hw3⟩ : ∃ w3, w3 = w2.drewN q := ⟨_, rfl⟩
          have b3 : Below w2.heap.size w2 w3 := by rw [hw3]; exact below_drewN (Below.refl _ _) q
          have HR3 := Lib.hid (HR2.out.below b3)
          have HB3 := Lib.hid (bn HB2.out b3)
          obtain ⟨A5, C5, r5, p5⟩ := HR3.out.bc.front c hcl
          have HR5 := Lib.hid r5
          have HP5 := Lib.hid (p5 w3 HR3.out.bc)
          have hlt5 : (LA.take c).length ≤ 1000000 := by simp; omega
          have CR5 := Lib.hid (reade_c (LA.take c) (.slice A5 c C5) n w3 HP5.out (HOK.out.take c) hlt5 (HT.out.below HB3.out))
          unfold readT8 at CR5
          rw [hrt] at CR5
          have SL : Hid (∀ W, (Instr.sliceAt 47 (.slice ad0 l.length cap0) none (some (.int .i64 (wl : Int))) none).run Tryd.prog W = .ok (.slice ad0 wl cap0) W) := Lib.hid (fun W => slice_ents_run H0.out wl hwk W)
          have hmw : (l.take wl).map Ev.e = es.take wl := by rw [List.map_take, ← HES.out]
          have HMW := Lib.hid hmw
          clear r5 p5 b3 hrt hmw HN2 HWL
          rw [← hw3]
          clear hw3
          go_wp2_with (refine wpList_slice_run rfl 33 _ _ _ rfl _ (HR5.out _) ?_)
          refine CR5.out.mono ?_
          rintro x w4 ⟨v4, xs, rfl, hxs, h4, b4⟩
          have xsl : ∀ ys : List Ev, ys.map Ev.e = es.take wl → ys.length ≤ 1000000 ∧ ∀ x ∈ ys, x.e.v.length ≤ 1000000 ∧ x.e.w.length ≤ 1000000 := fun ys hys => by
            refine ⟨by have := congrArg List.length hys; rw [List.length_map] at this; rw [this]; simp; have := HLE.out; omega, fun x hx => ?_⟩
            have hm : x.e ∈ es := by
              have : x.e ∈ ys.map Ev.e := List.mem_map_of_mem hx
              rw [hys] at this
              exact List.mem_of_mem_take this
            have := mayE_lens2 (goodE_some HGD.out x.e hm)
            omega
          have XSL := Lib.hid xsl
          have HB4 := Lib.hid (bn HB3.out b4)
          have CS4 := Lib.hid (sames_c xs (l.take wl) _ _ w4 h4.er ((H0.out.below HB4.out).take wl hwk) (hxs.trans HMW.out.symm) (xsl xs hxs).1 (xsl xs hxs).2)
          have HR4 := Lib.hid (HR3.out.below b4)
          obtain ⟨adx, capx, rfl, _, _⟩ := h4.er
          have eAT : ((at' : Int) != (at' : Int)) = false := by simp
          have eAT2 : ((at' : Int) == (at' : Int)) = true := by simp
          clear hxs h4 b4 CR5 xsl HR5 HP5
          go_wp2_with (refine wpList_slice_run rfl 47 _ _ _ rfl _ (SL.out _) ?_)
          refine CS4.out.mono ?_
          rintro x w6 ⟨rfl, b6⟩
          have HB6 := Lib.hid (bn HB4.out b6)
          have HR6 := Lib.hid (HR4.out.below b6)
          clear b6 CS4
          obtain ⟨A7, C7, r7, p7⟩ := HR6.out.bc.front at' (by omega)
          have HR7 := Lib.hid r7
          have P7 := p7 w6 HR6.out.bc
          obtain ⟨vm, w8, r8, h8, b8⟩ := bcopy_run (LA.take at') _ w6 33 P7.1 (by simp; omega)
          obtain ⟨A9, N9, C9, w9, r9, h9, b9⟩ := bapp_run (LA.take at') m vm _ w8 33 w6.heap.size h8 ((H3.out.below (bn HB6.out b8)).1) (by simp; omega) b8.size
          have HR8 := Lib.hid r8
          have HR9 := Lib.hid r9
          have HB9 := Lib.hid (bn HB6.out (b8.trans b9))
          obtain ⟨TT, hTT⟩ : ∃ TT, TT = LA.take at' ++ m := ⟨_, rfl⟩
          rw [← hTT] at h9
          have HTT := Lib.hid (show TT = rowsE (es.take wl) ++ m by
            rw [hTT, HLA.out, HAT.out]
            congr 1
            have h := rowsE_app (es.take wl) (es.drop wl)
            rw [List.take_append_drop] at h
            rw [h, List.take_append_of_le_length (Nat.le_refl _), List.take_of_length_le (Nat.le_refl _)])
          have hTl : TT.length ≤ 1000000 := by rw [hTT]; simp; omega
          have OKT := Lib.hid (show OkB TT by rw [hTT]; exact (HOK.out.take _).append HO.out)
          have HT9 := Lib.hid h9
          have CN := Lib.hid (rnext_c TT (.slice A9 N9 C9) (at' : Int) w9 h9.bc OKT.out hTl)
          unfold nextT at CN
          have hFN : (nxT TT (at' : Int)).isSome = false → readE TT n = (es.take wl, at') := fun hf => by
            have h1 : nxT TT (at' : Int) = none := by cases h : nxT TT (at' : Int) <;> simp_all
            rw [HTT.out, HAT.out] at h1
            unfold nxT at h1
            rw [if_pos ⟨by omega, by rw [List.length_append]; omega⟩, Int.toNat_natCast, List.drop_append_of_le_length (Nat.le_refl _), List.drop_of_length_le (Nat.le_refl _), List.nil_append] at h1
            rw [HTT.out, HAT.out]
            exact read_behind HGD.out wl m h1
          generalize (nxT TT (at' : Int)).isSome = F at CN hFN
          generalize nxK (nxT TT (at' : Int)) = K6 at CN
          generalize nxE (at' : Int) (nxT TT (at' : Int)) = E6 at CN
          generalize nxL TT (at' : Int) (nxT TT (at' : Int)) = L6 at CN
          have HFN := Lib.hid hFN
          clear r7 p7 P7 r8 h8 b8 r9 h9 b9 hTT hFN
          go_wp2_with (first
            | refine wpList_slice_run rfl 33 _ _ _ rfl _ (HR7.out _) ?_
            | (at_builtin; refine wpList_append_run rfl _ _ 33 rfl _ _ HR8.out ?_; clear HR8)
            | (at_builtin; refine wpList_append_run rfl _ _ 33 rfl _ _ HR9.out ?_))
          refine CN.out.mono ?_
          rintro x w10 ⟨v10, rfl, h10, b10⟩
          obtain ⟨adn, capn, rfl, _⟩ := h10.nl.form
          have HB10 := Lib.hid (bn HB9.out b10)
          have CRT := Lib.hid (reade_c TT (.slice A9 N9 C9) n w10 (HT9.out.below b10).bc OKT.out hTl (HT.out.below HB10.out))
          unfold readT8 at CRT
          clear h10 b10 CN
          cases F with
          | true =>
            generalize (readE TT n).2 = K7 at CRT
            go_wp2_with fail
            refine CRT.out.mono ?_
            rintro x w11 ⟨v11, ys, rfl, hys, h11, b11⟩
            obtain ⟨ady, capy, rfl, _, _⟩ := h11.er
            have HB11 := Lib.hid (bn HB10.out b11)
            clear hys h11 b11 CRT
            go_wp2_with fail
            refine (awake_c w11 (HT.out.below HB11.out)).mono ?_
            rintro x w12 ⟨rfl, b12⟩
            go_wp2
            go_ret
            exact ⟨rfl, bn HB11.out b12⟩
          | false =>
            rw [HFN.out rfl] at CRT
            go_wp2_with fail
            refine CRT.out.mono ?_
            rintro x w11 ⟨v11, ys, rfl, hys, h11, b11⟩
            have HB11 := Lib.hid (bn HB10.out b11)
            have CS11 := Lib.hid (sames_c ys (l.take wl) _ _ w11 h11.er ((H0.out.below HB11.out).take wl hwk) (hys.trans HMW.out.symm) (XSL.out ys hys).1 (XSL.out ys hys).2)
            obtain ⟨ady, capy, rfl, _, _⟩ := h11.er
            have hsl := SL.out
            clear hys h11 b11 CRT SL
            go_wp2_with fail
            refine CS11.out.mono ?_
            rintro x w12 ⟨rfl, b12⟩
            have HB12 := Lib.hid (bn HB11.out b12)
            clear b12
            go_wp2_with fail
            refine (awake_c w12 (HT.out.below HB12.out)).mono ?_
            rintro x w13 ⟨rfl, b13⟩
            go_wp2
            go_ret
            exact ⟨rfl, bn HB12.out b13⟩
end Go.Proofs.YtcnpckdchjjeoaaDoor
