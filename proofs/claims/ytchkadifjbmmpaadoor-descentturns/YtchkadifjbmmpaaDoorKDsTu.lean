/-
  PROVED: DescentTurns answers true, whatever two lists of records and number of origins it is given. Conditions: the library's two listed tables hold what the program's text, and the pinned table, lay (the card ties them).
-/
import Derived.Test.YtchkadifjbmmpaaDoorPkDs
import Derived.Test.YtchkadifjbmmpaaDoorWDigAwake
namespace Go.Proofs.YtchkadifjbmmpaaDoor
open Go.RowKit Go.Lib Go.Maps
set_option maxRecDepth 100000
set_option linter.unusedSimpArgs false

set_option maxHeartbeats 64000000 in
theorem turns_law (xs ys : List R.Rc) (v1 v2 : Value) (oi : Int) (w : World) (h1 : R.Rl w v1 xs) (h2 : R.Rl w v2 ys) (hs1 : ∀ x ∈ xs, x.t.size ≤ 9223372036854775807 ∧ okKy (kyR x)) (hs2 : ∀ x ∈ ys, x.t.size ≤ 9223372036854775807 ∧ okKy (kyR x)) (hl1 : xs.length ≤ maxLen) (hl2 : ys.length ≤ maxLen) (hT : R.Tabs w) :
    Calls Tryd.prog 9 #[v1, v2, .int .i64 oi] w fun e w' => e = .returned (.bool true) ∧ Below w.heap.size w w' := by
  have mixed : Tryd.prog.follows .mixedOrders = true := by kernel_rfl
  have HG1 := Lib.hid (fun W (hb : Below w.heap.size w W) => R.great_c xs v1 25 W (h1.below hb) (by omega) hl1)
  have HG2 := Lib.hid (fun W (hb : Below w.heap.size w W) => R.great_c ys v2 25 W (h2.below hb) (by omega) hl2)
  have HAW := Lib.hid (fun W (hb : Below w.heap.size w W) => awake13_c W (hT.below hb))
  have HT := Lib.hid hT
  cases hg1 : R.greatB xs 25 with
  | true =>
    rw [hg1] at HG1
    clear hg1 HG2 h1 h2 hs1 hs2 hl1 hl2 hT
    go_enter Tryd.func9, Tryd.ntmps9
    go_wp2_with fail
    refine (HG1.out _ (Below.refl _ _)).mono ?_
    rintro e w1 ⟨rfl, b1⟩
    have B1 := Lib.hid (bn (Below.refl _ _) b1)
    clear b1
    go_wp2_with fail
    refine (HAW.out w1 B1.out).mono ?_
    rintro e w2 ⟨rfl, b2⟩
    go_wp2
    go_ret
    exact ⟨rfl, id (bn B1.out b2)⟩
  | false =>
    rw [hg1] at HG1
    cases hg2 : R.greatB ys 25 with
    | true =>
      rw [hg2] at HG2
      clear hg1 hg2 h1 h2 hs1 hs2 hl1 hl2 hT
      go_enter Tryd.func9, Tryd.ntmps9
      go_wp2_with fail
      refine (HG1.out _ (Below.refl _ _)).mono ?_
      rintro e w1 ⟨rfl, b1⟩
      have B1 := Lib.hid (bn (Below.refl _ _) b1)
      clear b1
      go_wp2_with fail
      refine (HG2.out w1 B1.out).mono ?_
      rintro e w2 ⟨rfl, b2⟩
      have B2 := Lib.hid (bn B1.out b2)
      clear b2
      go_wp2_with fail
      refine (HAW.out w2 B2.out).mono ?_
      rintro e w3 ⟨rfl, b3⟩
      go_wp2
      go_ret
      exact ⟨rfl, id (bn B2.out b3)⟩
    | false =>
      rw [hg2] at HG2
      have hx : xs.length ≤ 25 := (R.greatB_no hg1).1
      have hy : ys.length ≤ 25 := (R.greatB_no hg2).1
      have HB1 := Lib.hid (fun W (hb : Below w.heap.size w W) => both_c xs v1 W (h1.below hb) hs1 (by omega) (hT.below hb))
      have HB2 := Lib.hid (fun W (hb : Below w.heap.size w W) => both_c ys v2 W (h2.below hb) hs2 (by omega) (hT.below hb))
      have HF1 : Hid (Once (refPuts [] xs)) := Lib.hid (puts_facts xs [] ⟨by simp, by simp⟩)
      have HF2 : Hid (Once (refPuts [] ys)) := Lib.hid (puts_facts ys [] ⟨by simp, by simp⟩)
      have hL : (refPuts [] xs).length ≤ 25 := by have := (refPuts_len xs []).2; simp only [List.length_nil] at this; omega
      have hM : (refPuts [] ys).length ≤ 25 := by have := (refPuts_len ys []).2; simp only [List.length_nil] at this; omega
      generalize refPuts [] xs = L at *
      generalize refPuts [] ys = M at *
      clear hg1 hg2 h1 h2 hs1 hs2 hl1 hl2 hT hx hy
      go_enter Tryd.func9, Tryd.ntmps9
      go_wp2_with fail
      refine (HG1.out _ (Below.refl _ _)).mono ?_
      rintro e w1 ⟨rfl, b1⟩
      have B1 := Lib.hid (bn (Below.refl _ _) b1)
      clear b1 HG1
      go_wp2_with fail
      refine (HG2.out w1 B1.out).mono ?_
      rintro e w2 ⟨rfl, b2⟩
      have B2 := Lib.hid (bn B1.out b2)
      clear b2 HG2 B1
      go_wp2_with fail
      refine (HB1.out w2 B2.out).mono ?_
      rintro e w3 ⟨p, q, ot, rfl, a3⟩
      have A3 := Lib.hid a3
      have B3 := Lib.hid (bn B2.out a3.b)
      clear a3 HB1 B2
      go_wp2_with fail
      refine (HB2.out w3 B3.out).mono ?_
      rintro e w4 ⟨u, y, ou, rfl, a4⟩
      have M4 := Lib.hid a4
      have L4 := Lib.hid (A3.out.below a4.b)
      have B4 := Lib.hid (bn B3.out a4.b)
      clear a4 HB2 B3 A3
      go_wp2_with fail
      refine (D.low_c oi 9 w4 (by omega) (by omega)).mono ?_
      rintro e w5 ⟨n, rfl, hn0, hn9, rfl⟩
      obtain ⟨w5, hw5⟩ : ∃ w5, w5 = w4 := ⟨_, rfl⟩
      subst hw5
      obtain ⟨n, rfl⟩ := Int.eq_ofNat_of_zero_le hn0
      have hn8 : n ≤ 8 := by omega
      clear hn0 hn9
      have CF1 := Lib.hid (find_all p u (sx L) (sx M) ot ou n w5 L4.out.t M4.out.t hn8)
      have CF2 := Lib.hid (fun W (hb : Below w5.heap.size w5 W) => find_all u p (sx M) (sx L) ou ot n W (M4.out.t.below hb) (L4.out.t.below hb) hn8)
      have CF3 := Lib.hid (fun W (hb : Below w5.heap.size w5 W) => find_all p p (sx L) (sx L) ot ot n W (L4.out.t.below hb) (L4.out.t.below hb) hn8)
      have CC1 := Lib.hid (fun W (hb : Below w5.heap.size w5 W) => clash_c p u (sx L) (sx M) ot ou n W (L4.out.t.below hb) (M4.out.t.below hb) (kept_sx HF1.out) (kept_sx HF2.out) hn8 (HT.out.below (bn B4.out hb)))
      have CC2 := Lib.hid (fun W (hb : Below w5.heap.size w5 W) => clash_c u p (sx M) (sx L) ou ot n W (M4.out.t.below hb) (L4.out.t.below hb) (kept_sx HF2.out) (kept_sx HF1.out) hn8 (HT.out.below (bn B4.out hb)))
      have CC3 := Lib.hid (fun W (hb : Below w5.heap.size w5 W) => clash_c p p (sx L) (sx L) ot ot n W (L4.out.t.below hb) (L4.out.t.below hb) (kept_sx HF1.out) (kept_sx HF1.out) hn8 (HT.out.below (bn B4.out hb)))
      have hkl := findK_len (difB (sx L) (sx M)) hn8
      rw [dif_comm (sx M) (sx L)] at CF2
      rw [clash_comm (sx M) (sx L)] at CC2
      rw [clash_self] at CC3
      rw [(find_self (sx L) n).1, (find_self (sx L) n).2] at CF3
      generalize findK (difB (sx L) (sx M)) n = ks at *
      generalize findN (difB (sx L) (sx M)) n = kn at *
      generalize clashB (sx L) (sx M) n = cb at *
      have B5 := Lib.hid (Below.refl w5.heap.size w5)
      clear M4 L4 HF1 HF2
      go_wp2_with fail
      refine CF1.out.mono ?_
      rintro e w6 ⟨a6, c6, rfl, k6, b6⟩
      have K6 := Lib.hid (P.KRow.rd k6)
      have B6 := Lib.hid b6
      clear k6 b6 CF1
      go_wp2_with fail
      refine (CF2.out w6 B6.out).mono ?_
      rintro e w7 ⟨a7, c7, rfl, k7, b7⟩
      have K7 := Lib.hid (P.KRow.rd k7)
      have K6 := Lib.hid (K6.out.below b7)
      have B7 := Lib.hid (bn B6.out b7)
      clear k7 b7 CF2
      go_wp2_with fail
      refine (CF3.out w7 B7.out).mono ?_
      rintro e w8 ⟨a8, c8, rfl, _, b8⟩
      have CK := Lib.hid (P.samek_c ks _ _ w8 (K6.out.below b8) (K7.out.below b8) (by omega))
      have B8 := Lib.hid (bn B7.out b8)
      clear b8 CF3 K6 K7
      go_wp2_with fail
      refine CK.out.mono ?_
      rintro e w9 ⟨rfl, b9⟩
      have B9 := Lib.hid (bn B8.out b9)
      clear b9 CK
      go_wp2_with fail
      refine (CC1.out w9 B9.out).mono ?_
      rintro e w10 ⟨rfl, b10⟩
      have B10 := Lib.hid (bn B9.out b10)
      clear b10 CC1
      go_wp2_with fail
      refine (CC2.out w10 B10.out).mono ?_
      rintro e w11 ⟨rfl, b11⟩
      have B11 := Lib.hid (bn B10.out b11)
      clear b11 CC2
      go_wp2_with fail
      refine (CC3.out w11 B11.out).mono ?_
      rintro e w12 ⟨rfl, b12⟩
      have B12 := Lib.hid (bn B11.out b12)
      clear b12 CC3
      go_wp2_with fail
      refine (HAW.out w12 (bn B4.out B12.out)).mono ?_
      rintro e w13 ⟨rfl, b13⟩
      go_wp2_with fail
      go_ret
      exact ⟨rfl, bn (bn B4.out B12.out) b13⟩
end Go.Proofs.YtchkadifjbmmpaaDoor
namespace Go.Proofs.YtchkadifjbmmpaaDoor
open Go.RowKit Go.ChangeShapes Go.WideShapes Go.ChangeAt Go.Deep

set_option maxRecDepth 100000 in
theorem turns_lifted (os : Os) (started : os.Started) (H : Type) (enc : TypeId × Value → H) :
    ReturnsInHanded {} Tryd.checked os 9 .any (fun w args => (Rows.descentTurnsSpec.pre enc Tryd.prog Tryd.f9 [] false w args ∧ laidMetH Tryd.prog Rows.descentTurnsRow.laid w) ∧ sizedMet enc Tryd.prog Tryd.f9 (OpenSpec.ofChange Rows.descentTurnsSpec) false w args)
      (Rows.descentTurnsSpec.post enc Tryd.prog Tryd.f9 false true false false) := by
  refine laid_lift (C := Tryd.checked) (L := seatLaid) own started (by kernel_rfl) Tryd.func9
    (ChangeSpec.witness_shaped (enc := enc) (C := Tryd.checked) (os := os) (X := fun w _ => laidMetH Tryd.prog seatLaid w) false (World.laidAll Tryd.prog os seatLaid) #[.slice none 0 0, .slice none 0 0, .int .i64 0] 8 (World.laidAll_os _ _ _)
      (World.shaped_of_ZipB (by kernel_rfl) (by kernel_rfl)) (by kernel_rfl) (by kernel_rfl) (by kernel_rfl) (laid_world os _)) laidOut
    (by rw [Tryd.params9]; exact of_decide_eq_true (by kernel_rfl)) rfl 4 Tryd.underlying4 (by kernel_rfl)
    (fun ds h => by
      rw [Tryd.params9] at h
      match ds, h with
      | [_, _, _], _ => rfl) ?_
  intro W base args ds ps hval hA hL
  rw [Tryd.params9] at hA hval
  have hT := tabs_of_laid W hL
  obtain ⟨v0, v1, v2, d0, d1, d2, p0, p1, p2, rfl, rfl, rfl, h0, h1, h2⟩ := trodAll_three hA
  obtain ⟨l0, hl0, hs0, hm0⟩ := open_recs (hval 0 28 v0 rfl rfl) h0
  obtain ⟨l1, hl1, hs1, hm1⟩ := open_recs (hval 1 28 v1 rfl rfl) h1
  obtain ⟨a2, rfl, rfl, rfl, _⟩ := open_int Tryd.underlying3 (hval 2 3 v2 rfl rfl) h2
  exact turns_law l0 l1 v0 v1 a2 W hl0 hl1 hs0 hs1 hm0 hm1 hT

theorem turns_holds : Rows.DescentTurnsSaid :=
  OpenClaim.holds_of_wide 9 Tryd.f9 rfl rfl rfl rfl rfl rfl rfl ⟨rfl, rfl, rfl, rfl, rfl⟩ rfl rfl rfl rfl rfl (by kernel_rfl) Tryd.func9 (by kernel_rfl)
    (of_decide_eq_true (by kernel_rfl)) (by unfold Func.isWrapper; first | (rw [if_pos (by decide +kernel)]; kernel_rfl) | (rw [if_neg (by decide +kernel)]; exact ⟨rfl, rfl⟩))
    (fun os started H enc _ => turns_lifted os started H enc)

theorem turns_card : Rows.DescentTurnsCardSaid :=
  Claim7.holds_tied_plain_at .later [] _ _ _ _ turns_holds (fun _ h => by cases h) (by kernel_rfl) (fun _ h => by cases h) descentTurns_row_tie rfl ⟨rfl, rfl⟩ (by kernel_rfl) rfl
    (fun f fn hf hfn => by
      obtain rfl : f = 9 := Option.some.inj ((show Tryd.prog.funcNamed Rows.descentTurnsRow.func = some 9 by kernel_rfl).symm.trans hf) |>.symm
      obtain rfl : fn = Tryd.f9 := (Option.some.inj (Tryd.func9.symm.trans hfn)).symm
      exact ⟨by kernel_rfl, fun j t ht => by
        rw [Tryd.params9] at ht
        have hm : t ∈ [28, 28, 3] := by simpa using Array.mem_of_getElem? ht
        have hall : ([28, 28, 3].all fun u => !Tryd.prog.wantsStandIn u) = true := by kernel_rfl
        exact (show Tryd.prog.wantsStandIn t = false by simpa using List.all_eq_true.1 hall t hm)⟩)
    (by kernel_rfl)
#print axioms turns_card
end Go.Proofs.YtchkadifjbmmpaaDoor
