/-
  PROVED: DescentAdds answers true, whatever two lists of records it is given. Conditions: the library's two listed tables hold what the program's text, and the pinned table, lay (the card ties them).
-/
import Derived.Test.YtchkadifjbmmpaaDoorPkDs
namespace Go.Proofs.YtchkadifjbmmpaaDoor
open Go.RowKit Go.Lib Go.Maps
set_option maxRecDepth 100000
set_option linter.unusedSimpArgs false

/-- Two trees, side by side. -/
structure T2 (w wr : World) (p u : Nat) (ot ou : Nat → Prop) (S V : Sb) : Prop where
  t : Tr wr p S ot
  u : Tr wr u V ou
  ne : ∀ i, ot i → ¬ ou i
  b : Below w.heap.size w wr
  lt : ∀ j, ot j → w.heap.size ≤ j
  lu : ∀ j, ou j → w.heap.size ≤ j
theorem T2.below {w wr w' : World} {p u : Nat} {ot ou : Nat → Prop} {S V : Sb} (h : T2 w wr p u ot ou S V) (hb : Below wr.heap.size wr w') : T2 w w' p u ot ou S V :=
  ⟨h.t.below hb, h.u.below hb, h.ne, bn h.b hb, h.lt, h.lu⟩
theorem T2.turnT {w wr w' : World} {p u : Nat} {ot ou ot' : Nat → Prop} {S V S' : Sb} (h : T2 w wr p u ot ou S V) (ht : Tr w' p S' ot') (t4 : Turn ot wr w') (o4 : ∀ j, ot' j → ot j ∨ wr.heap.size ≤ j) : T2 w w' p u ot' ou S' V :=
  ⟨ht, h.u.keep t4.size (fun i hi => t4.block i (h.u.up i hi) (fun ho => h.ne i ho hi)), fun i hi hu => (o4 i hi).elim (fun h5 => h.ne i h5 hu) (fun h5 => by have := h.u.up i hu; omega), h.b.trans (t4.below h.b.size h.lt), fun j hj => (o4 j hj).elim (h.lt j) (fun h5 => Nat.le_trans h.b.size h5), h.lu⟩
theorem T2.turnU {w wr w' : World} {p u : Nat} {ot ou ou' : Nat → Prop} {S V V' : Sb} (h : T2 w wr p u ot ou S V) (hu : Tr w' u V' ou') (t4 : Turn ou wr w') (o4 : ∀ j, ou' j → ou j ∨ wr.heap.size ≤ j) : T2 w w' p u ot ou' S V' :=
  ⟨h.t.keep t4.size (fun i hi => t4.block i (h.t.up i hi) (fun ho => h.ne i hi ho)), hu, fun i hi hu => (o4 i hu).elim (fun h5 => h.ne i hi h5) (fun h5 => by have := h.t.up i hi; omega), h.b.trans (t4.below h.b.size h.lu), h.lt, fun j hj => (o4 j hj).elim (h.lu j) (fun h5 => Nat.le_trans h.b.size h5)⟩
/-- A row of Keys that no tree owns. -/
structure KOwn (wr : World) (B : Nat) (v : Value) (ks : List (Int × Int)) (ou : Nat → Prop) : Prop where
  row : P.KRow wr B v ks
  ne : ∀ g, v.ownBlock = some g → ¬ ou g
theorem KOwn.below {wr w' : World} {B : Nat} {v : Value} {ks : List (Int × Int)} {ou : Nat → Prop} (h : KOwn wr B v ks ou) (hb : Below wr.heap.size wr w') : KOwn w' B v ks ou := ⟨h.row.below hb, h.ne⟩
theorem KOwn.turn {wr w' : World} {B : Nat} {v : Value} {ks : List (Int × Int)} {ou ou' : Nat → Prop} (h : KOwn wr B v ks ou) (t4 : Turn ou wr w') (o4 : ∀ j, ou' j → ou j ∨ wr.heap.size ≤ j) : KOwn w' B v ks ou' :=
  ⟨ownsRow_of_block h.row (fun g hg => t4.block g (World.ownsRow.lt h.row g hg).2 (h.ne g hg)), fun g hg hu => (o4 g hu).elim (h.ne g hg) (fun h5 => by have := (World.ownsRow.lt h.row g hg).2; omega)⟩
theorem KOwn.cells {wr : World} {B : Nat} {A : Option Addr} {C : Nat} {ks : List (Int × Int)} {ou : Nat → Prop} (h : KOwn wr B (.slice A ks.length C) ks ou) {k : Nat} (hk : k < ks.length) : ∃ g, A = some ⟨g, 0, none⟩ ∧ wr.cell? ⟨g, k * 2, none⟩ = some (.int .i64 ks[k].1) ∧ wr.cell? ⟨g, k * 2 + 1, none⟩ = some (.int .i64 ks[k].2) ∧ ks.length ≤ C := by
  rcases h.row.2 with ⟨e, h0⟩ | ⟨g, cap, cur, e, _, hh, hn, _, hsz, htake⟩
  · omega
  · simp only [Value.slice.injEq] at e
    obtain ⟨rfl, _, rfl⟩ := e
    obtain ⟨ad, cap2, e2, _, hc⟩ := h.row.rd
    simp only [Value.slice.injEq] at e2
    obtain ⟨rfl, _, rfl⟩ := e2
    obtain ⟨b, o, e3, hs⟩ := hc (by omega)
    simp only [Option.some.injEq, Addr.mk.injEq] at e3
    obtain ⟨rfl, rfl, _⟩ := e3
    obtain ⟨x0, x1⟩ := hs k hk
    rw [Nat.zero_add] at x0 x1
    exact ⟨_, rfl, x0, x1, hn⟩
theorem may_okR {r : R.Rc} (h : R.mayR r = true) : r.t.size ≤ 9223372036854775807 ∧ okKy (kyR r) := by
  obtain ⟨h1, h2, _, _, h5⟩ := R.mayR_bounds h
  refine ⟨by omega, ⟨?_, ?_⟩, ⟨?_, ?_⟩⟩
  all_goals
    simp only [kyR]
    omega
theorem key_okR {o s : Nat} (ho : o < 8) (hs : s < 1024) : okKy ((o : Int), (s : Int)) := by
  refine ⟨⟨?_, ?_⟩, ⟨?_, ?_⟩⟩
  all_goals
    simp only
    omega
set_option maxHeartbeats 64000000 in
theorem adds_law (xs ys : List R.Rc) (v1 v2 : Value) (w : World) (h1 : R.Rl w v1 xs) (h2 : R.Rl w v2 ys) (hs1 : ∀ x ∈ xs, x.t.size ≤ 9223372036854775807 ∧ okKy (kyR x)) (hs2 : ∀ x ∈ ys, x.t.size ≤ 9223372036854775807 ∧ okKy (kyR x)) (hl1 : xs.length ≤ maxLen) (hl2 : ys.length ≤ maxLen) (hT : R.Tabs w) :
    Calls Tryd.prog 11 #[v1, v2] w fun e w' => e = .returned (.bool true) ∧ Below w.heap.size w w' := by
  have mixed : Tryd.prog.follows .mixedOrders = true := by kernel_rfl
  have HG1 := Lib.hid (R.great_c xs v1 20 w h1 (by omega) hl1)
  have HG2 := Lib.hid (fun W (hb : Below w.heap.size w W) => R.great_c ys v2 10 W (h2.below hb) (by omega) hl2)
  have HAW := Lib.hid (fun W (hb : Below w.heap.size w W) => awake13_c W (hT.below hb))
  have HT := Lib.hid hT
  cases hg1 : R.greatB xs 20 with
  | true =>
    rw [hg1] at HG1
    clear hg1 HG2 h1 h2 hs1 hs2 hl1 hl2 hT
    go_enter Tryd.func11, Tryd.ntmps11
    go_wp2_with fail
    refine HG1.out.mono ?_
    rintro e w1 ⟨rfl, b1⟩
    go_wp2_with fail
    refine (HAW.out w1 b1).mono ?_
    rintro e w2 ⟨rfl, b2⟩
    go_wp2
    go_ret
    exact ⟨rfl, bn b1 b2⟩
  | false =>
    rw [hg1] at HG1
    cases hg2 : R.greatB ys 10 with
    | true =>
      rw [hg2] at HG2
      clear hg1 hg2 h1 h2 hs1 hs2 hl1 hl2 hT
      go_enter Tryd.func11, Tryd.ntmps11
      go_wp2_with fail
      refine HG1.out.mono ?_
      rintro e w1 ⟨rfl, b1⟩
      go_wp2_with fail
      refine (HG2.out w1 b1).mono ?_
      rintro e w2 ⟨rfl, b2⟩
      have B2 := Lib.hid (bn b1 b2)
      clear b1 b2
      go_wp2_with fail
      refine (HAW.out w2 B2.out).mono ?_
      rintro e w3 ⟨rfl, b3⟩
      go_wp2
      go_ret
      exact ⟨rfl, bn B2.out b3⟩
    | false =>
      rw [hg2] at HG2
      have hx : xs.length ≤ 20 := (R.greatB_no hg1).1
      have hy : ys.length ≤ 10 := (R.greatB_no hg2).1
      have HX1 := Lib.hid (fun W (hb : Below w.heap.size w W) => h1.below hb)
      have HX2 := Lib.hid (fun W (hb : Below w.heap.size w W) => h2.below hb)
      have HS1 := Lib.hid hs1
      have HS2 := Lib.hid hs2
      have HPX := Lib.hid (fun p own W (hb : Below w.heap.size w W) (ht : Tr W p [] own) (hlo : ∀ i, own i → w.heap.size ≤ i) => put_c p [] own v1 xs W ht (fun W' t => h1.below (hb.trans (t.below hb.size hlo))) hs1 (by omega) (by simp) (fun W' t => hT.below (hb.trans (t.below hb.size hlo))))
      have HPY := Lib.hid (fun p own W (hb : Below w.heap.size w W) (ht : Tr W p (putSs [] xs) own) (hlo : ∀ i, own i → w.heap.size ≤ i) => put_c p (putSs [] xs) own v2 ys W ht (fun W' t => h2.below (hb.trans (t.below hb.size hlo))) hs2 (by omega) (by have := putSs_len [] xs; simp only [List.length_nil] at this; omega) (fun W' t => hT.below (hb.trans (t.below hb.size hlo))))
      have hsl : (putSs [] xs).length ≤ 20 := by have := putSs_len [] xs; simp only [List.length_nil] at this; omega
      have hk0 : Kept (putSs (putSs [] xs) ys) := kept_puts ys (kept_puts xs kept_nil)
      have hk1 : Kept (putSs [] xs) := kept_puts xs kept_nil
      have hel := putSs_len (putSs [] xs) ys
      obtain ⟨E, hE⟩ := putSs_more ys (putSs [] xs)
      rw [hE] at HPY hk0 hel
      rw [List.length_append] at hel
      have hel : E.length ≤ 10 := by omega
      generalize putSs [] xs = S at *
      have hadd : clashB (S ++ E) S 8 = false → (∀ k, k ∈ findK (difB (S ++ E) S) 8 ↔ k ∈ E.map Prod.fst) ∧ (findK (difB (S ++ E) S) 8).length = E.length := fun hc => add_keys hk0 hc
      have hrise : clashB (S ++ E) S 8 = false → (findK (difB (S ++ E) S) 8).Nodup := fun hc => rise_nodup (clear_rise (by omega) hc)
      have hfew := find_few (S ++ E) S 8
      have hno : ∀ k, k ∈ E.map Prod.fst → k ∉ S.map Prod.fst := fun k hk h => by
        have := hk0.nd
        rw [List.map_append, List.nodup_append] at this
        exact this.2.2 k h k hk rfl
      have HK0 := Lib.hid hk0
      have HK1 := Lib.hid hk1
      have HADD := Lib.hid hadd
      have HRISE := Lib.hid hrise
      have HNO := Lib.hid hno
      have HFEW := Lib.hid hfew
      clear hg1 hg2 h1 h2 hs1 hs2 hl1 hl2 hT hx hy hadd hrise hno hk0 hk1 hE hfew
      go_enter Tryd.func11, Tryd.ntmps11
      go_wp2_with fail
      refine HG1.out.mono ?_
      rintro e w1 ⟨rfl, b1⟩
      have B1 := Lib.hid b1
      clear b1 HG1
      go_wp2_with fail
      refine (HG2.out w1 B1.out).mono ?_
      rintro e w2 ⟨rfl, b2⟩
      have B2 := Lib.hid (bn B1.out b2)
      clear b2 HG2 B1
      go_wp2_with fail
      refine (new_c w2).mono ?_
      rintro e w3 ⟨p, ot, rfl, h3, o3, b3⟩
      have H3 := Lib.hid h3
      have O3 := Lib.hid o3
      have B3 := Lib.hid b3
      clear h3 o3 b3
      go_wp2_with fail
      refine (new_c w3).mono ?_
      rintro e w4 ⟨u, ou, rfl, h4, o4, b4⟩
      have A4 : Hid (T2 w w4 p u ot ou [] []) := Lib.hid ⟨H3.out.below b4, h4, fun i h5 h6 => by
        have h7 := H3.out.up i h5
        have h8 := o4 i h6
        omega, bn (bn B2.out B3.out) b4, fun i hi => Nat.le_trans B2.out.size (O3.out i hi), fun i hi => Nat.le_trans (bn B2.out B3.out).size (o4 i hi)⟩
      clear h4 o4 b4 H3 O3 B3 B2
      go_wp2_with fail
      refine (HPX.out p ot w4 A4.out.b A4.out.t A4.out.lt).mono ?_
      rintro e w5 ⟨ot5, rfl, h5, t5, o5⟩
      have A5 := Lib.hid (A4.out.turnT h5 t5 o5)
      clear h5 t5 o5 A4
      go_wp2_with fail
      refine (HPX.out u ou w5 A5.out.b A5.out.u A5.out.lu).mono ?_
      rintro e w6 ⟨ou6, rfl, h6, t6, o6⟩
      have A6 := Lib.hid (A5.out.turnU h6 t6 o6)
      clear h6 t6 o6 A5 HPX
      go_wp2_with fail
      refine (len_c p S ot5 w6 A6.out.t).mono ?_
      rintro e w7 ⟨rfl, rfl⟩
      have CPY := Lib.hid (HPY.out p ot5 w7 A6.out.b A6.out.t A6.out.lt)
      rw [show (((S ++ E).length : Int) - (S.length : Int)) = (E.length : Int) by rw [List.length_append]; omega] at CPY
      clear HPY
      go_wp2_with fail
      refine CPY.out.mono ?_
      rintro e w8 ⟨ot8, rfl, h8, t8, o8⟩
      have A8 := Lib.hid (A6.out.turnT h8 t8 o8)
      clear h8 t8 o8 A6 CPY
      have CF := Lib.hid (find_all p u (S ++ E) S ot8 ou6 8 w8 A8.out.t A8.out.u (by omega))
      have CC := Lib.hid (fun W (hb : Below w8.heap.size w8 W) => clash_c p u (S ++ E) S ot8 ou6 8 W (A8.out.t.below hb) (A8.out.u.below hb) HK0.out HK1.out (by omega) (HT.out.below (bn A8.out.b hb)))
      generalize findK (difB (S ++ E) S) 8 = ks at *
      generalize findN (difB (S ++ E) S) 8 = kn at *
      go_wp2_with fail
      refine CF.out.mono ?_
      rintro e w9 ⟨A, C, rfl, k9, b9⟩
      have A9 := Lib.hid (A8.out.below b9)
      have K9 : Hid (KOwn w9 w8.heap.size (.slice A ks.length C) ks ou6) := Lib.hid ⟨k9, fun g hg hu => by
        have h5 := (World.ownsRow.lt k9 g hg).1
        have h6 := A8.out.u.up g hu
        omega⟩
      have CC9 := Lib.hid (CC.out w9 b9)
      clear k9 b9 CF CC A8
      go_wp2_with fail
      refine CC9.out.mono ?_
      cases hc : clashB (S ++ E) S 8 with
      | true =>
        rintro e w10 ⟨rfl, b10⟩
        have B10 := Lib.hid (bn A9.out.b b10)
        clear b10
        go_wp2_with fail
        refine (HAW.out w10 B10.out).mono ?_
        rintro e w11 ⟨rfl, b11⟩
        go_wp2_with fail
        go_ret
        exact ⟨rfl, bn B10.out b11⟩
      | false =>
        rintro e w10 ⟨rfl, b10⟩
        have A10 := Lib.hid (A9.out.below b10)
        have K10 := Lib.hid (K9.out.below b10)
        have hlen := (HADD.out hc).2
        have HM := Lib.hid (HADD.out hc).1
        have HND := Lib.hid (HRISE.out hc)
        have HLE := Lib.hid hlen
        have hkn : ¬ ((8 : Int) + (ks.length : Int) * 4 * 5 < (kn : Int)) := by have := HFEW.out; omega
        have hks : ks.length ≤ 10 := by omega
        have hlS : (((S ++ E).length : Nat) : Int) = (S.length : Int) + (ks.length : Int) := by rw [List.length_append]; omega
        have HLS := Lib.hid hlS
        have CL := Lib.hid (len_c p (S ++ E) ot8 w10 A10.out.t)
        rw [hlS] at CL
        have CB := Lib.hid (bound_c ks.length w10 (by omega))
        rw [← hlen]
        clear b10 CC9 A9 K9 HADD HRISE HFEW hlen hlS hc hel
        go_wp2_with fail
        refine CL.out.mono ?_
        rintro e w11 ⟨rfl, rfl⟩
        go_wp2_with fail
        refine CB.out.mono ?_
        rintro e w12 ⟨rfl, rfl⟩
        clear CL CB
        have T0 : Hid (Took S (S ++ E) [] ks 0) := Lib.hid (took_start _ _ _)
        have A0 : Hid (T2 w w12 p u ot8 ou6 (S ++ E) (S ++ [])) := Lib.hid (by rw [List.append_nil]; exact A10.out)
        have Z0 : Hid (Kept (S ++ [])) := Lib.hid (by rw [List.append_nil]; exact HK1.out)
        go_wp2_with fail
        clear hkn
        go_loopw [11] (fun v11 wr => ∃ (i : Nat) (ou : Nat → Prop) (G : Sb), i ≤ ks.length ∧ v11 = .int .i64 (i : Int) ∧ Hid (Took S (S ++ E) G ks i) ∧ Hid (Kept (S ++ G)) ∧ Hid (T2 w wr p u ot8 ou (S ++ E) (S ++ G)) ∧ Hid (KOwn wr w8.heap.size (.slice A ks.length C) ks ou)) (fun v11 _ => ks.length - (RowKit.intOf v11).toNat)
        case atStart => exact ⟨0, ou6, [], by omega, rfl, T0, Z0, A0, K10⟩
        case round =>
          obtain ⟨i, ou, G, hi, rfl, TI, ZI, AI, KI⟩ := hrel
          clear T0 A0 Z0 K10 A10
          by_cases hp : i < ks.length
          · have HP := Lib.hid hp
            obtain ⟨g, rfl, x0, x1, hcap⟩ := KI.out.cells hp
            have hgl := World.block_lt_of_cell? _ _ x0
            have hmem := (HM.out ks[i]).1 (List.getElem_mem hp)
            have hnot := took_no TI.out HND.out (fun k hk => HNO.out k ((HM.out k).1 hk)) hp
            obtain ⟨ko, kk, hke, hko, hkk⟩ := kept_keys HK0.out (k := ks[i]) (by rw [List.map_append]; exact List.mem_append_right _ hmem)
            have HTN := Lib.hid (fun (r : R.Rc) (hm : R.mayR r = true) (hk : kyR r = ks[i]) (hA : (ks[i], R.layL r) ∈ S ++ E) => took_next TI.out hp hnot hm hk hA)
            have HIN : Hid (ks[i] ∈ (S ++ E).map Prod.fst) := Lib.hid (by rw [List.map_append]; exact List.mem_append_right _ hmem)
            have HNI := Lib.hid hnot
            clear hmem hnot
            generalize ks[i] = k at *
            subst hke
            simp only at x0 x1
            have HC : Hid (∀ W, Below wr.heap.size wr W → W.cell? ⟨g, i * 2, none⟩ = some (.int .i64 (ko : Int)) ∧ W.cell? ⟨g, i * 2 + 1, none⟩ = some (.int .i64 (kk : Int))) := Lib.hid (fun W hW => ⟨(hW.cell (World.block_lt_of_cell? _ _ x0)).trans x0, (hW.cell (World.block_lt_of_cell? _ _ x1)).trans x1⟩)
            have CG := Lib.hid (getz_c p (S ++ E) ot8 (ko : Int) (kk : Int) wr AI.out.t HK0.out.laid (key_okR hko hkk) (HT.out.below AI.out.b))
            clear hi
            go_wp2_with fail
            refine CG.out.mono ?_
            rintro e w13 ⟨r, b, rfl, hz, b13⟩
            have hz2 : b = true ∧ R.mayR r = true ∧ kyR r = ((ko : Int), (kk : Int)) ∧ (((ko : Int), (kk : Int)), R.layL r) ∈ S ++ E := by
              rcases hz with hz | ⟨_, hn, _⟩
              · exact hz
              · exact absurd HIN.out hn
            obtain ⟨rfl, hm, hkr, hA⟩ := hz2
            have HNX := Lib.hid (HTN.out r hm hkr hA)
            have HOK := Lib.hid (may_okR hm)
            clear hm hkr hA hz HTN HIN CG x0 x1 hgl
            have A13 := Lib.hid (AI.out.below b13)
            have K13 := Lib.hid (KI.out.below b13)
            obtain ⟨w14, hw14⟩ : ∃ w14, w14 = w13.alloc (.cells #[.int .i64 r.o, .int .i64 r.s, .int .i64 r.w, .int .i64 r.c, .string r.t] 36) := ⟨_, rfl⟩
            obtain ⟨bk, hbk⟩ : ∃ bk, bk = w13.heap.size := ⟨_, rfl⟩
            have b14 : Below w13.heap.size w13 w14 := by rw [hw14]; exact alloc_below _ _
            have HBK : Hid (R.Bx 36 w14 bk #[.int .i64 r.o, .int .i64 r.s, .int .i64 r.w, .int .i64 r.c, .string r.t]) := Lib.hid (by rw [hw14, hbk]; exact R.Bx.new _ w13 _)
            have hlb : bk < w14.heap.size := HBK.out.lt
            have A14 := Lib.hid (A13.out.below b14)
            have K14 := Lib.hid (K13.out.below b14)
            obtain ⟨x0, x1⟩ := HC.out w14 (bn b13 b14)
            have hgl := World.block_lt_of_cell? _ _ x0
            have HW14 := Lib.hid hw14
            have HBB := Lib.hid hbk
            clear b13 AI KI A13 K13 HC hw14 hbk b14
            go_wp2_with (rw [← HW14.out, ← HBB.out])
            have CG := Lib.hid (getz_c u (S ++ G) ou (ko : Int) (kk : Int) w14 A14.out.u ZI.out.laid (key_okR hko hkk) (HT.out.below A14.out.b))
            refine CG.out.mono ?_
            rintro e w15 ⟨r2, b, rfl, hz, b15⟩
            have hz2 : b = false := by
              rcases hz with ⟨_, _, _, hin⟩ | ⟨hb, _⟩
              · exact absurd (List.mem_map_of_mem (f := Prod.fst) hin) HNI.out
              · exact hb
            subst hz2
            clear hz CG HNI x0 x1 hgl hlb
            have HB15 := Lib.hid (HBK.out.below b15)
            have b16 := alloc_below w15 (.cells #[.int .i64 r2.o, .int .i64 r2.s, .int .i64 r2.w, .int .i64 r2.c, .string r2.t] 36)
            obtain ⟨w16, hw16⟩ : ∃ w16, w16 = w15.alloc (.cells #[.int .i64 r2.o, .int .i64 r2.s, .int .i64 r2.w, .int .i64 r2.c, .string r2.t] 36) := ⟨_, rfl⟩
            rw [← hw16] at b16
            have HB16 := HB15.out.below b16
            have r0 := HB16.cell 0
            have r1 := HB16.cell 1
            have r2' := HB16.cell 2
            have r3 := HB16.cell 3
            have r4 := HB16.cell 4
            simp only [List.getElem?_toArray, List.getElem?_cons_succ, List.getElem?_cons_zero] at r0 r1 r2' r3 r4
            have hlb := HB16.lt
            have A16 := Lib.hid (A14.out.below (bn b15 b16))
            have K16 := Lib.hid (K14.out.below (bn b15 b16))
            have hgs : (S ++ G).length ≤ 1000 := by
              have h1 := TI.out.keys
              have h2 := congrArg List.length h1
              rw [List.length_map, List.length_take] at h2
              rw [List.length_append]
              omega
            have CP := Lib.hid (put1_c u (S ++ G) ou r w16 A16.out.u HOK.out (by omega) (fun W t => HT.out.below (A16.out.b.trans (t.below A16.out.b.size A16.out.lu))))
            rw [HNX.out.1, show (((S ++ (G ++ [(((ko : Int), (kk : Int)), R.layL r)])).length : Nat) : Int) - (((S ++ G).length : Nat) : Int) = 1 by simp only [List.length_append, List.length_singleton]; omega] at CP
            have KP : Hid (Kept (S ++ (G ++ [(((ko : Int), (kk : Int)), R.layL r)]))) := Lib.hid (by rw [← HNX.out.1]; exact kept_put ZI.out r)
            have HW16 := Lib.hid hw16
            clear b15 b16 hw16 HB16 HB15 HBK A14 K14 hgs HBB HW14 HOK
            go_wp2_with (rw [← HW16.out])
            refine CP.out.mono ?_
            rintro e w17 ⟨ou17, rfl, h17, t17, o17⟩
            have A17 := Lib.hid (A16.out.turnU h17 t17 o17)
            have K17 := Lib.hid (K16.out.turn t17 o17)
            have T17 := Lib.hid HNX.out.2
            clear h17 t17 o17 A16 K16 CP HNX r0 r1 r2' r3 r4 hlb HW16
            go_wp2_with fail
            go_roundw
            case rel => exact ⟨i + 1, ou17, _, HP.out, by go_num, T17, KP, A17, K17⟩
            case measure => have := HP.out; simp [RowKit.intOf]; omega
          · obtain rfl : i = ks.length := by omega
            have HSM : Hid (sameS (S ++ E) (S ++ G)) := Lib.hid (took_end HK0.out TI.out HM.out HLE.out)
            have HDF : Hid (∀ r, difB (S ++ E) (S ++ G) r = false) := Lib.hid (same_dif HK0.out ZI.out HSM.out (took_back (fun x hx => List.mem_append_left _ hx) TI.out))
            have CF := Lib.hid (find_all p u (S ++ E) (S ++ G) ot8 ou 8 wr AI.out.t AI.out.u (by omega))
            rw [(find_none HDF.out).1, (find_none HDF.out).2] at CF
            go_wp2_with fail
            refine CF.out.mono ?_
            rintro e w13 ⟨a13, c13, rfl, _, b13⟩
            have A13 := Lib.hid (AI.out.below b13)
            clear b13 CF AI KI TI hi hp
            go_wp2_with fail
            refine (same_c p u _ _ _ _ w13 A13.out.t A13.out.u HSM.out).mono ?_
            rintro e w14 ⟨rfl, b14⟩
            have B14 := Lib.hid (bn A13.out.b b14)
            clear b14
            go_wp2_with fail
            refine (HAW.out w14 B14.out).mono ?_
            rintro e w15 ⟨rfl, b15⟩
            go_wp2_with fail
            go_ret
            exact ⟨rfl, bn B14.out b15⟩
end Go.Proofs.YtchkadifjbmmpaaDoor
namespace Go.Proofs.YtchkadifjbmmpaaDoor
open Go.RowKit Go.ChangeShapes Go.WideShapes Go.ChangeAt Go.Deep

set_option maxRecDepth 100000 in
theorem adds_lifted (os : Os) (started : os.Started) (H : Type) (enc : TypeId × Value → H) :
    ReturnsInHanded {} Tryd.checked os 11 .any (fun w args => (Rows.descentAddsSpec.pre enc Tryd.prog Tryd.f11 [] false w args ∧ laidMetH Tryd.prog Rows.descentAddsRow.laid w) ∧ sizedMet enc Tryd.prog Tryd.f11 (OpenSpec.ofChange Rows.descentAddsSpec) false w args)
      (Rows.descentAddsSpec.post enc Tryd.prog Tryd.f11 false true false false) := by
  refine laid_lift (C := Tryd.checked) (L := seatLaid) own started (by kernel_rfl) Tryd.func11
    (ChangeSpec.witness_shaped (enc := enc) (C := Tryd.checked) (os := os) (X := fun w _ => laidMetH Tryd.prog seatLaid w) false (World.laidAll Tryd.prog os seatLaid) #[.slice none 0 0, .slice none 0 0] 8 (World.laidAll_os _ _ _)
      (World.shaped_of_ZipB (by kernel_rfl) (by kernel_rfl)) (by kernel_rfl) (by kernel_rfl) (by kernel_rfl) (laid_world os _)) laidOut
    (by rw [Tryd.params11]; exact of_decide_eq_true (by kernel_rfl)) rfl 4 Tryd.underlying4 (by kernel_rfl)
    (fun ds h => by
      rw [Tryd.params11] at h
      match ds, h with
      | [_, _], _ => rfl) ?_
  intro W base args ds ps hval hA hL
  rw [Tryd.params11] at hA hval
  have hT := tabs_of_laid W hL
  obtain ⟨v0, v1, d0, d1, p0, p1, rfl, rfl, rfl, h0, h1⟩ := trodAll_two hA
  obtain ⟨l0, hl0, hs0, hm0⟩ := open_recs (hval 0 28 v0 rfl rfl) h0
  obtain ⟨l1, hl1, hs1, hm1⟩ := open_recs (hval 1 28 v1 rfl rfl) h1
  exact adds_law l0 l1 v0 v1 W hl0 hl1 hs0 hs1 hm0 hm1 hT

theorem adds_holds : Rows.DescentAddsSaid :=
  OpenClaim.holds_of_wide 11 Tryd.f11 rfl rfl rfl rfl rfl rfl rfl ⟨rfl, rfl, rfl, rfl, rfl⟩ rfl rfl rfl rfl rfl (by kernel_rfl) Tryd.func11 (by kernel_rfl)
    (of_decide_eq_true (by kernel_rfl)) (by unfold Func.isWrapper; first | (rw [if_pos (by decide +kernel)]; kernel_rfl) | (rw [if_neg (by decide +kernel)]; exact ⟨rfl, rfl⟩))
    (fun os started H enc _ => adds_lifted os started H enc)

theorem adds_card : Rows.DescentAddsCardSaid :=
  Claim7.holds_tied_plain_at .later [] _ _ _ _ adds_holds (fun _ h => by cases h) (by kernel_rfl) (fun _ h => by cases h) descentAdds_row_tie rfl ⟨rfl, rfl⟩ (by kernel_rfl) rfl
    (fun f fn hf hfn => by
      obtain rfl : f = 11 := Option.some.inj ((show Tryd.prog.funcNamed Rows.descentAddsRow.func = some 11 by kernel_rfl).symm.trans hf) |>.symm
      obtain rfl : fn = Tryd.f11 := (Option.some.inj (Tryd.func11.symm.trans hfn)).symm
      exact ⟨by kernel_rfl, fun j t ht => by
        rw [Tryd.params11] at ht
        have hm : t ∈ [28, 28] := by simpa using Array.mem_of_getElem? ht
        have hall : ([28, 28].all fun u => !Tryd.prog.wantsStandIn u) = true := by kernel_rfl
        exact (show Tryd.prog.wantsStandIn t = false by simpa using List.all_eq_true.1 hall t hm)⟩)
    (by kernel_rfl)
#print axioms adds_card
end Go.Proofs.YtchkadifjbmmpaaDoor
