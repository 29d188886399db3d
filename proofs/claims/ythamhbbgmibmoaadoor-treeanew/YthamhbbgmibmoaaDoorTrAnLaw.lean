/-
  TreeAnew, walked.
-/
import Derived.Test.YthamhbbgmibmoaaDoorTrAn3
namespace Go.Proofs.YthamhbbgmibmoaaDoor
open Go.RowKit Go.Lib Go.Maps
set_option maxRecDepth 100000
set_option linter.unusedSimpArgs false

theorem sumV_all {F G : Nat → Nat → Int} (h : ∀ o a, a < 1365 → F o a = G o a) (o L i : Int) : sumV F o L i = sumV G o L i := by
  by_cases ho : 0 ≤ o
  · obtain ⟨n, rfl⟩ := Int.eq_ofNat_of_zero_le ho
    exact sumV_congr (h n) L i
  · have hb : sumB o L i = false := by
      unfold sumB
      rw [decide_eq_false_iff_not]
      omega
    unfold sumV
    rw [hb, if_neg (by decide), if_neg (by decide)]
theorem rootL_all {F G : Nat → Nat → Int} (h : ∀ o a, a < 1365 → F o a = G o a) : rootL F = rootL G := by
  unfold rootL
  rw [h 0 0 (by omega), h 1 0 (by omega), h 2 0 (by omega), h 3 0 (by omega), h 4 0 (by omega), h 5 0 (by omega), h 6 0 (by omega), h 7 0 (by omega)]
theorem put_new {L : List R.Rc} {m : Nat} (hm : m < L.length) (hnd : (L.map kyR).Nodup) (hmay : ∀ x ∈ L, R.mayR x = true) :
    putS (sx ((L.drop (m + 1)).reverse)) L[m] = sx ((L.drop m).reverse) ∧ (((putS (sx ((L.drop (m + 1)).reverse)) L[m]).length : Int) - ((sx ((L.drop (m + 1)).reverse)).length : Int)) = 1 := by
  have hdr : L.drop m = L[m] :: L.drop (m + 1) := List.drop_eq_getElem_cons hm
  have hnot : kyR L[m] ∉ ((L.drop (m + 1)).reverse).map kyR := by
    have h1 : ((L.drop m).map kyR).Nodup := ((List.drop_sublist m L).map kyR).nodup hnd
    rw [hdr, List.map_cons, List.nodup_cons] at h1
    rw [List.map_reverse, List.mem_reverse]
    exact h1.1
  have e : putS (sx ((L.drop (m + 1)).reverse)) L[m] = sx ((L.drop m).reverse) := by
    rw [sx_put]
    unfold refPut
    rw [if_pos ⟨hmay _ (List.getElem_mem hm), hnot⟩, hdr, List.reverse_cons]
  refine ⟨e, ?_⟩
  rw [e, sx_len, sx_len, hdr, List.reverse_cons, List.length_append, List.length_singleton]
  omega
theorem put_newR {L : List R.Rc} {m : Nat} {r : R.Rc} (hm : m < L.length) (hr : r = L[m]) (hnd : (L.map kyR).Nodup) (hmay : ∀ x ∈ L, R.mayR x = true) :
    putS (sx ((L.drop (m + 1)).reverse)) r = sx ((L.drop m).reverse) ∧ (((putS (sx ((L.drop (m + 1)).reverse)) r).length : Int) - ((sx ((L.drop (m + 1)).reverse)).length : Int)) = 1 ∧ R.mayR r = true := by
  subst hr
  exact ⟨(put_new hm hnd hmay).1, (put_new hm hnd hmay).2, hmay _ (List.getElem_mem hm)⟩
theorem rec_at {w : World} {g o : Nat} {L : List R.Rc} {m : Nat} {r : R.Rc} (h : R.Recs w g o L) (hm : m < L.length) (hr : r = L[m]) :
    w.cell? ⟨g, o + m * 5, none⟩ = some (.int .i64 r.o) ∧ w.cell? ⟨g, o + m * 5 + 1, none⟩ = some (.int .i64 r.s) ∧ w.cell? ⟨g, o + m * 5 + 2, none⟩ = some (.int .i64 r.w) ∧ w.cell? ⟨g, o + m * 5 + 3, none⟩ = some (.int .i64 r.c) ∧ w.cell? ⟨g, o + m * 5 + 4, none⟩ = some (.string r.t) := by
  subst hr
  exact h m hm
theorem may_ok {r : R.Rc} (h : R.mayR r = true) : r.t.size ≤ 9223372036854775807 ∧ okKy (kyR r) := by
  obtain ⟨h1, h2, _, _, h5⟩ := R.mayR_bounds h
  refine ⟨by omega, ⟨?_, ?_⟩, ⟨?_, ?_⟩⟩
  all_goals
    simp only [kyR]
    omega
set_option maxHeartbeats 64000000 in
theorem anew_law (l : List Ac) (v : Value) (oi Li ii : Int) (w : World) (h : Al w v l) (hs : ∀ x ∈ l, x.r.t.size ≤ 9223372036854775807 ∧ okKy (x.r.o, x.r.s)) (hl : l.length ≤ maxLen) (hT : R.Tabs w) :
    Calls Tryd.prog 4 #[v, .int .i64 oi, .int .i64 Li, .int .i64 ii] w fun e w' => e = .returned (.bool true) ∧ Below w.heap.size w w' := by
  have mixed : Tryd.prog.follows .mixedOrders = true := by kernel_rfl
  have HG := Lib.hid (greatA_c l v 30 w h (by omega) hl)
  have HT := Lib.hid hT
  cases hg : greatA l 30 with
  | true =>
    rw [hg] at HG
    clear hg h hs hl hT
    go_enter Tryd.func4, Tryd.ntmps4
    go_wp2_with fail
    refine HG.out.mono ?_
    rintro e w1 ⟨rfl, b1⟩
    go_wp2_with fail
    refine (awake_c w1 (HT.out.below b1)).mono ?_
    rintro e w2 ⟨rfl, b2⟩
    go_wp2
    go_ret
    exact ⟨rfl, bn b1 b2⟩
  | false =>
    rw [hg] at HG
    have hln : l.length ≤ 30 := (greatA_no hg).1
    obtain ⟨ad, cap, rfl, _, _⟩ := id h
    have HAL := Lib.hid h
    have HSZ := Lib.hid hs
    clear hg h hs hl hT
    go_enter Tryd.func4, Tryd.ntmps4
    go_wp2_with fail
    refine HG.out.mono ?_
    rintro e w1 ⟨rfl, b1⟩
    have B1 := Lib.hid b1
    clear b1 HG
    go_wp2_with fail
    refine (new_c w1).mono ?_
    rintro e w2 ⟨p, ot, rfl, h2, o2, b2⟩
    have H2 := Lib.hid (And.intro h2 (And.intro o2 b2))
    clear h2 o2 b2
    go_wp2_with fail
    refine (new_c w2).mono ?_
    rintro e w3 ⟨u, ou, rfl, h3, o3, b3⟩
    obtain ⟨q, hq⟩ : ∃ q, q = w3.heap.size := ⟨_, rfl⟩
    obtain ⟨w4, hw4⟩ : ∃ w4, w4 = w3.alloc (.cells #[.slice none 0 0] 30) := ⟨_, rfl⟩
    have HA : Hid (A3 w w4 p u q ot ou (sx []) (sx []) []) := Lib.hid (by
      obtain ⟨h2, o2, b2⟩ := H2.out
      have al : Below w3.heap.size w3 w4 := by rw [hw4]; exact alloc_below _ _
      refine ⟨(h2.below b3).below al, h3.below al, ⟨.slice none 0 0, by rw [hw4, hq]; exact R.Bx.new _ w3 _, R.ORow.nil _ _, fun g hg => by cases hg⟩, fun hh => ?_, fun j h5 h6 => ?_, bn (bn (bn B1.out b2) b3) al, fun j hj => Nat.le_trans B1.out.size (o2 j hj), fun j hj => Nat.le_trans (bn B1.out b2).size (o3 j hj), ?_⟩
      · rcases hh with hh | hh
        · have := (h2.below b3).up q hh
          omega
        · have := h3.up q hh
          omega
      · have h7 := h2.up j h5
        have h8 := o3 j h6
        omega
      · rw [hq]
        exact (bn (bn B1.out b2) b3).size)
    have HW4 := Lib.hid hw4
    have HQ := Lib.hid hq
    clear H2 h3 o3 b3 hq hw4
    go_wp2_with fail
    rw [← HW4.out, ← HQ.out]
    clear HW4 HQ
    go_loopw [12] (fun v12 wr => ∃ (k : Nat) (L : List R.Rc) (ot ou : Nat → Prop), k ≤ l.length ∧ v12 = .int .i64 (k : Int) ∧ L.length ≤ k ∧ Hid ((L.map kyR).Nodup ∧ ∀ x ∈ L, R.mayR x = true) ∧ Hid (A3 w wr p u q ot ou (sx L) (sx []) L)) (fun v12 _ => l.length - (RowKit.intOf v12).toNat)
    case atStart => exact ⟨0, [], ot, ou, by omega, rfl, by simp, Lib.hid ⟨by simp, by simp⟩, HA⟩
    case round =>
      obtain ⟨k, L, ot, ou, hk, rfl, hLk, HL, HA⟩ := hrel
      by_cases hp : k < l.length
      · have HP := Lib.hid hp
        obtain ⟨ad2, cap2, e, _, hc⟩ := HAL.out
        simp only [Value.slice.injEq, true_and] at e
        obtain ⟨rfl, rfl⟩ := e
        obtain ⟨b, o, rfl, hac⟩ := hc (by omega)
        have HX := Lib.hid (fun W (hW : Below w.heap.size w W) => (hac k hp).below hW)
        have HSI := Lib.hid (HSZ.out _ (List.getElem_mem hp))
        clear hc hac
        generalize l[k] = x at *
        obtain ⟨dd, r⟩ := x
        obtain ⟨x0, x1, x2, x3, x4, x5⟩ := HX.out wr HA.out.b
        have hgl := World.block_lt_of_cell? _ _ x0
        simp only at x0 x1 x2 x3 x4 x5
        cases dd with
        | true =>
          have CD := Lib.hid (drop1_c p (sx L) ot r.o r.s wr HA.out.t HSI.out.2 (by rw [sx_len]; omega))
          go_wp2_with fail
          refine CD.out.mono ?_
          rintro e w5 ⟨rfl, h5, t5⟩
          have A5 := Lib.hid (HA.out.turnT h5 t5 (fun j hj => .inl hj))
          clear h5 t5 CD x0 x1 x2 x3 x4 x5 hgl
          obtain ⟨x0, x1, x2, x3, x4, x5⟩ := HX.out w5 A5.out.b
          have hgl := World.block_lt_of_cell? _ _ x0
          simp only at x0 x1 x2 x3 x4 x5
          have CR := Lib.hid (rdrop1_c q L r.o r.s w5 _ A5.out.fresh A5.out.r (by omega))
          go_wp2_with fail
          refine CR.out.mono ?_
          rintro e w6 ⟨n, rfl, hn, r6, g6⟩
          have A6 := Lib.hid (A5.out.turnR r6 g6)
          have hd := refDrop_len L (r.o, r.s)
          have HD : Hid (dropSs (sx L) [(r.o, r.s)] = sx (refDrop L (r.o, r.s))) := Lib.hid (sx_drop (r.o, r.s) HL.out.1)
          have HL6 := Lib.hid (And.intro (drop_nd (r.o, r.s) HL.out.1) (drop_may (r.o, r.s) HL.out.2))
          clear hn r6 g6 CR x0 x1 x2 x3 x4 x5 hgl
          go_wp2_with fail
          go_roundw
          case rel => exact ⟨k + 1, refDrop L (r.o, r.s), ot, ou, HP.out, by go_num, by omega, HL6, Lib.hid (by rw [← HD.out]; exact A6.out)⟩
          case measure => have := HP.out; simp [RowKit.intOf]; omega
        | false =>
          have CD := Lib.hid (put1_c p (sx L) ot r wr HA.out.t HSI.out (by rw [sx_len]; omega) (fun W t => HT.out.below (HA.out.b.trans (t.below HA.out.b.size HA.out.lt))))
          go_wp2_with fail
          refine CD.out.mono ?_
          rintro e w5 ⟨ot5, rfl, h5, t5, o5⟩
          have A5 := Lib.hid (HA.out.turnT h5 t5 o5)
          clear h5 t5 o5 CD x0 x1 x2 x3 x4 x5 hgl
          obtain ⟨x0, x1, x2, x3, x4, x5⟩ := HX.out w5 A5.out.b
          have hgl := World.block_lt_of_cell? _ _ x0
          simp only at x0 x1 x2 x3 x4 x5
          have CR := Lib.hid (rput1_c q L r w5 _ A5.out.fresh A5.out.r HSI.out.1 (by omega) (fun W g => HT.out.below (A5.out.b.trans (D.below_of_grown g A5.out.b.size (fun _ e => Option.some.inj e ▸ A5.out.lq)))))
          generalize ((putS (sx L) r).length : Int) - ((sx L).length : Int) = nn at *
          go_wp2_with fail
          refine CR.out.mono ?_
          rintro e w6 ⟨n, rfl, hn, r6, g6⟩
          have A6 := Lib.hid (A5.out.turnR r6 g6)
          have hd : (refPut L r).length ≤ L.length + 1 := by unfold refPut; split <;> simp
          have HD := Lib.hid (sx_put L r)
          have HL6 := Lib.hid (And.intro (put_nd r HL.out.1) (put_may r HL.out.2))
          clear hn r6 g6 CR x0 x1 x2 x3 x4 x5 hgl
          go_wp2_with fail
          go_roundw
          case rel => exact ⟨k + 1, refPut L r, ot5, ou, HP.out, by go_num, by omega, HL6, Lib.hid (by rw [← HD.out]; exact A6.out)⟩
          case measure => have := HP.out; simp [RowKit.intOf]; omega
      · have hkl : k = l.length := by omega
        subst hkl
        obtain ⟨wq, hwq⟩ : ∃ wq, wq = wr := ⟨_, rfl⟩
        subst hwq
        have B0 : Hid (A3 w wq p u q ot ou (sx L) (sx ((L.drop L.length).reverse)) L) := Lib.hid (by rw [List.drop_length]; exact HA.out)
        have hL30 : L.length ≤ 30 := by omega
        obtain ⟨rv, rb, rr, _⟩ := HA.out.r
        obtain ⟨ra, rc, rfl⟩ := orow_form rr
        have q0 := rb.cell 0
        simp only [List.getElem?_toArray, List.getElem?_cons_zero] at q0
        have hq0 := World.block_lt_of_cell? _ _ q0
        clear rb rr HA
        go_wp2_with fail
        go_loopw [13] (fun v13 wr => ∃ (k : Nat) (ou : Nat → Prop), k ≤ L.length ∧ v13 = .int .i64 ((k : Int) - 1) ∧ Hid (A3 w wr p u q ot ou (sx L) (sx ((L.drop k).reverse)) L)) (fun v13 _ => ((RowKit.intOf v13) + 1).toNat)
        case atStart => exact ⟨L.length, ou, Nat.le_refl _, rfl, B0⟩
        case round =>
          obtain ⟨k, ou, hk, rfl, HA⟩ := hrel
          by_cases hk0 : k = 0
          · subst hk0
            rw [List.drop_zero] at HA
            have HTR := Lib.hid (fun o a ha => tree_rev HL.out.1 o a ha)
            have HSM : Hid (sumV (treeF (sx L.reverse)) oi Li ii = sumV (treeF (sx L)) oi Li ii) := Lib.hid (sumV_all HTR.out oi Li ii)
            have HRM : Hid (rootL (treeF (sx L.reverse)) = rootL (treeF (sx L))) := Lib.hid (rootL_all HTR.out)
            go_wp2_with fail
            refine (sumT_c p (sx L) ot oi Li ii wr HA.out.t).mono ?_
            rintro e w5 ⟨rfl, rfl⟩
            generalize hsv : sumV (treeF (sx L)) oi Li ii = sv at *
            clear hsv
            generalize hsb : sumB oi Li ii = sb at *
            have HSB := Lib.hid hsb
            clear hsb
            go_wp2_with fail
            refine (sumT_c u (sx L.reverse) ou oi Li ii w5 HA.out.v).mono ?_
            rintro e w6 ⟨rfl, rfl⟩
            rw [HSM.out, HSB.out]
            go_wp2_with fail
            refine (rootT_c p (sx L) ot w6 HA.out.t).mono ?_
            rintro e w7 ⟨rfl, b7⟩
            have A7 := Lib.hid (HA.out.below b7)
            clear b7
            generalize hrv : D.allD (rootL (treeF (sx L))) = rv at *
            have HRV := Lib.hid hrv
            clear hrv
            go_wp2_with fail
            refine (rootT_c u (sx L.reverse) ou w7 A7.out.v).mono ?_
            rintro e w8 ⟨rfl, b8⟩
            rw [HRM.out, HRV.out]
            have A8 := Lib.hid (A7.out.below b8)
            clear b8
            go_wp2_with fail
            refine (same_c p u (sx L) (sx L.reverse) ot ou w8 A8.out.t A8.out.v (same_rev L)).mono ?_
            rintro e w9 ⟨rfl, b9⟩
            have A9 := Lib.hid (A8.out.below b9)
            clear b9
            go_wp2_with fail
            refine (len_c p (sx L) ot w9 A9.out.t).mono ?_
            rintro e w10 ⟨rfl, rfl⟩
            go_wp2_with fail
            refine (len_c u (sx L.reverse) ou w10 A9.out.v).mono ?_
            rintro e w11 ⟨rfl, rfl⟩
            rw [show (sx L.reverse).length = (sx L).length by rw [sx_len, sx_len, List.length_reverse]]
            go_wp2_with fail
            refine (awake_c w11 (HT.out.below A9.out.b)).mono ?_
            rintro e w12 ⟨rfl, b12⟩
            go_wp2
            go_ret
            exact ⟨rfl, bn A9.out.b b12⟩
          · obtain ⟨m, rfl⟩ : ∃ m, k = m + 1 := ⟨k - 1, by omega⟩
            have hm : m < L.length := by omega
            have HM := Lib.hid hm
            have hv1 : (((m + 1 : Nat) : Int) - 1) = (m : Int) := by omega
            rw [hv1]
            obtain ⟨rv, rb, rr, _⟩ := HA.out.r
            obtain ⟨ra, rc, rfl⟩ := orow_form rr
            have q0 := rb.cell 0
            simp only [List.getElem?_toArray, List.getElem?_cons_zero] at q0
            have hq0 := World.block_lt_of_cell? _ _ q0
            obtain ⟨_, _, e, _, hrc⟩ := rr.rl.form
            simp only [Value.slice.injEq, true_and] at e
            obtain ⟨rfl, rfl⟩ := e
            obtain ⟨g, o, rfl, hrd⟩ := hrc (by omega)
            obtain ⟨r, hr⟩ : ∃ r, r = L[m] := ⟨_, rfl⟩
            have hpn := put_newR hm hr HL.out.1 HL.out.2
            have hmr := hpn.2.2
            have hx2 := rec_at hrd hm hr
            obtain ⟨x0, x1, x2, x3, x4⟩ := hx2
            have hgl := World.block_lt_of_cell? _ _ x0
            have CP0 := put1_c u (sx ((L.drop (m + 1)).reverse)) ou r wr HA.out.v (may_ok hmr) (by rw [sx_len]; simp; omega) (fun W t => HT.out.below (HA.out.b.trans (t.below HA.out.b.size HA.out.lu)))
            rw [hpn.2.1, hpn.1] at CP0
            have CP := Lib.hid CP0
            clear rb rr hrc hrd hv1 hpn hk0 hr CP0 hmr
            go_wp2_with fail
            refine CP.out.mono ?_
            rintro e w5 ⟨ou5, rfl, h5, t5, o5⟩
            have A5 := Lib.hid (HA.out.turnU h5 t5 o5)
            clear h5 t5 o5 CP x0 x1 x2 x3 x4 hgl q0 hq0
            go_wp2_with fail
            go_roundw
            case rel => exact ⟨m, ou5, by have := HM.out; omega, by go_num, A5⟩
            case measure => simp [RowKit.intOf]
end Go.Proofs.YthamhbbgmibmoaaDoor
