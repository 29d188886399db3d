/-
  PROVED: DescentOne answers true, whatever records and numbers it is given. Conditions: the library's two listed tables hold what the program's text, and the pinned table, lay (the card ties them).
-/
import Derived.Test.YtchkadifjbmmpaaDoorPkDs
import Derived.Test.YtchkadifjbmmpaaDoorWDigAwake
namespace Go.Proofs.YtchkadifjbmmpaaDoor
open Go.RowKit Go.Lib Go.Maps
set_option maxRecDepth 100000
set_option linter.unusedSimpArgs false

theorem drop_one_len {L : List R.Rc} (h : (L.map kyR).Nodup) {k : Ky} (hk : k ∈ L.map kyR) : ((sx L).length : Int) - ((dropS (sx L) k).length : Int) = 1 := by
  rw [sx_drop k h, sx_len, sx_len]
  obtain ⟨r, hr, e⟩ := List.mem_map.1 hk
  have h2 : (refDrop L k).length = L.length - 1 := List.length_eraseP_of_mem hr (by simpa using e)
  have h3 := List.length_pos_of_mem hr
  omega
theorem key_okQ {o s : Nat} (ho : o < 8) (hs : s < 1024) : okKy ((o : Int), (s : Int)) := by
  refine ⟨⟨?_, ?_⟩, ⟨?_, ?_⟩⟩
  all_goals
    simp only
    omega
theorem low_at (x m : Int) (hm : 0 < m) (hm2 : m ≤ 4294967296) : ∃ q : Int, 0 ≤ q ∧ q < m ∧ ∀ w, Calls Tryd.prog 26 #[.int .i64 x, .int .i64 m] w fun e w' => e = .returned (.int .i64 q) ∧ w' = w := by
  have hne : (m == 0) = false := by simp; omega
  have h1 : 0 ≤ IntKind.u64.wrap x := by rw [IntKind.wrap_u64]; omega
  have h2 := Int.emod_nonneg (IntKind.u64.wrap x) (show m ≠ 0 by omega)
  have h3 := Int.emod_lt_of_pos (IntKind.u64.wrap x) hm
  refine ⟨IntKind.u64.wrap x % m, h2, h3, fun w => ?_⟩
  go_enter Tryd.func26, Tryd.ntmps26
  go_wp2
  go_ret
  generalize IntKind.u64.wrap x % m = r at *
  have e : wrap64 r = r := by unfold wrap64; omega
  exact ⟨by simp only [e]; rfl, rfl⟩
set_option maxHeartbeats 64000000 in
theorem one_law (xs : List R.Rc) (v1 : Value) (wi oi : Int) (w : World) (h1 : R.Rl w v1 xs) (hs1 : ∀ x ∈ xs, x.t.size ≤ 9223372036854775807 ∧ okKy (kyR x)) (hl1 : xs.length ≤ maxLen) (hT : R.Tabs w) :
    Calls Tryd.prog 10 #[v1, .int .i64 wi, .int .i64 oi] w fun e w' => e = .returned (.bool true) ∧ Below w.heap.size w w' := by
  have mixed : Tryd.prog.follows .mixedOrders = true := by kernel_rfl
  have HG1 := Lib.hid (R.great_c xs v1 20 w h1 (by omega) hl1)
  have HAW := Lib.hid (fun W (hb : Below w.heap.size w W) => awake13_c W (hT.below hb))
  have HT := Lib.hid hT
  cases hg1 : R.greatB xs 20 with
  | true =>
    rw [hg1] at HG1
    clear hg1 h1 hs1 hl1 hT
    go_enter Tryd.func10, Tryd.ntmps10
    go_wp2_with fail
    refine HG1.out.mono ?_
    rintro e w1 ⟨rfl, b1⟩
    go_wp2_with fail
    refine (HAW.out w1 b1).mono ?_
    rintro e w2 ⟨rfl, b2⟩
    go_wp2
    go_ret
    exact ⟨rfl, bn b1 b2⟩
  | false =>
    rw [hg1] at HG1
    have hx : xs.length ≤ 20 := (R.greatB_no hg1).1
    have HB1 := Lib.hid (fun W (hb : Below w.heap.size w W) => both_c xs v1 W (h1.below hb) hs1 (by omega) (hT.below hb))
    have HF1 : Hid (Once (refPuts [] xs)) := Lib.hid (puts_facts xs [] ⟨by simp, by simp⟩)
    have hL : (refPuts [] xs).length ≤ 20 := by have := (refPuts_len xs []).2; simp only [List.length_nil] at this; omega
    generalize refPuts [] xs = L at *
    clear hg1 h1 hs1 hl1 hT hx
    go_enter Tryd.func10, Tryd.ntmps10
    go_wp2_with fail
    refine HG1.out.mono ?_
    rintro e w2 ⟨rfl, b2⟩
    have B2 := Lib.hid b2
    clear b2 HG1
    go_wp2_with fail
    refine (HB1.out w2 B2.out).mono ?_
    rintro e w3 ⟨p, q, ot, rfl, a3⟩
    have A3 := Lib.hid a3
    have B3 := Lib.hid (bn B2.out a3.b)
    clear a3
    go_wp2_with fail
    refine (HB1.out w3 B3.out).mono ?_
    rintro e w4 ⟨u, y, ou, rfl, a4⟩
    have M4 := Lib.hid a4
    have L4 := Lib.hid (A3.out.below a4.b)
    have HNE : Hid (∀ i, ot i → ¬ ou i) := Lib.hid (fun i h5 h6 => by have := A3.out.t.up i h5; have := a4.lt i h6; omega)
    have B4 := Lib.hid (bn B3.out a4.b)
    clear a4 HB1
    go_wp2_with fail
    refine (D.low_c oi 9 w4 (by omega) (by omega)).mono ?_
    rintro e w5 ⟨n, rfl, hn0, hn9, rfl⟩
    obtain ⟨w5, hw5⟩ : ∃ w5, w5 = w4 := ⟨_, rfl⟩
    subst hw5
    obtain ⟨n, rfl⟩ := Int.eq_ofNat_of_zero_le hn0
    have hn8 : n ≤ 8 := by omega
    clear hn0 hn9
    obtain ⟨va, vc, vb, vr⟩ := rt_form L4.out.r
    have q0 := vb.cell 0
    simp only [List.getElem?_toArray, List.getElem?_cons_zero] at q0
    have hq0 := World.block_lt_of_cell? _ _ q0
    have VB := Lib.hid vb
    have VR := Lib.hid vr
    clear vb vr
    by_cases hL0 : L.length = 0
    · have hz : ((L.length : Int) == 0) = true := by rw [hL0]; rfl
      clear hL0
      go_wp2_with fail
      refine (HAW.out w5 B4.out).mono ?_
      rintro e w6 ⟨rfl, b6⟩
      go_wp2_with fail
      go_ret
      exact ⟨rfl, bn B4.out b6⟩
    · have hz : ((L.length : Int) == 0) = false := by simpa using hL0
      have hpos : 0 < L.length := by omega
      obtain ⟨_, _, e, hcap, hrc⟩ := VR.out.form
      simp only [Value.slice.injEq, true_and] at e
      obtain ⟨rfl, rfl⟩ := e
      obtain ⟨g, o, rfl, hrd⟩ := hrc hpos
      have HRD := Lib.hid hrd
      clear hrc hrd hL0
      go_wp2_with fail
      clear hz
      have HCL : Hid (∀ j (hj : j < L.length) W, Below w5.heap.size w5 W → W.cell? ⟨g, o + j * 5, none⟩ = some (.int .i64 L[j].o) ∧ W.cell? ⟨g, o + j * 5 + 1, none⟩ = some (.int .i64 L[j].s)) := Lib.hid (fun j hj W hW => by
        obtain ⟨y0, y1, _, _, _⟩ := (HRD.out j hj)
        exact ⟨(hW.cell (World.block_lt_of_cell? _ _ y0)).trans y0, (hW.cell (World.block_lt_of_cell? _ _ y1)).trans y1⟩)
      obtain ⟨m, hm0, hm1, hlw⟩ := low_at wi (L.length : Int) (by omega) (by omega)
      obtain ⟨m, rfl⟩ := Int.eq_ofNat_of_zero_le hm0
      have hmL : m < L.length := by omega
      have HLW := Lib.hid hlw
      have HME := Lib.hid (List.getElem_mem hmL)
      have HSX : Hid (∀ W, Below w5.heap.size w5 W → W.cell? ⟨q, 0, none⟩ = some (.slice (some ⟨g, o, none⟩) L.length vc) ∧ W.cell? ⟨g, o + m * 5, none⟩ = some (.int .i64 L[m].o) ∧ W.cell? ⟨g, o + m * 5 + 1, none⟩ = some (.int .i64 L[m].s)) := Lib.hid (fun W hW => ⟨(hW.cell hq0).trans q0, HCL.out m hmL W hW⟩)
      have HMAY := Lib.hid (mayr_key (HF1.out.2 _ (List.getElem_mem hmL)))
      have HBI : Hid ((kyR L[m], R.layL L[m]) ∈ sx L) := Lib.hid (List.mem_map.2 ⟨_, List.getElem_mem hmL, rfl⟩)
      have HKI : Hid (kyR L[m] ∈ L.map kyR) := Lib.hid (List.mem_map_of_mem (List.getElem_mem hmL))
      clear hm0 hlw HCL q0
      generalize L[m] = r at *
      obtain ⟨oo, ss, hk, hoo, hss⟩ := HMAY.out
      have hro : r.o = (oo : Int) := congrArg Prod.fst hk
      have hrs : r.s = (ss : Int) := congrArg Prod.snd hk
      rw [hro, hrs] at HSX
      rw [hk] at HBI HKI
      clear hro hrs hk HMAY HME HRD
      generalize R.layL r = bs at *
      clear r
      have STEP : Hid (∀ W6, (W6 = (w5.alloc (.cells #[.int .i64 (oo : Int), .int .i64 (ss : Int)] 32)).drew ∨ W6 = w5.drew.alloc (.cells #[.int .i64 (oo : Int), .int .i64 (ss : Int)] 32)) → Below w5.heap.size w5 W6 ∧ R.Bx 32 W6 w5.heap.size #[.int .i64 (oo : Int), .int .i64 (ss : Int)]) := Lib.hid (fun W6 h => by
        rcases h with rfl | rfl
        · exact ⟨(alloc_below w5 _).drew, R.Bx.new 32 w5 _⟩
        · exact ⟨(Below.refl _ _).drew.alloc (Nat.le_refl _) _, R.Bx.new 32 w5.drew _⟩)
      obtain ⟨q0, x0, x1⟩ := HSX.out w5 (Below.refl _ _)
      have hgl := World.block_lt_of_cell? _ _ x0
      go_region_held3 (fun W => W.cell? ⟨q, 0, none⟩ = some (.slice (some ⟨g, o, none⟩) L.length vc) ∧ W.cell? ⟨g, o + m * 5, none⟩ = some (.int .i64 (oo : Int)) ∧ W.cell? ⟨g, o + m * 5 + 1, none⟩ = some (.int .i64 (ss : Int))) (exact HSX.out _ (by first | assumption | exact Below.refl _ _ | exact (Below.refl _ _).drew | exact alloc_below _ _ | exact (alloc_below _ _).drew | exact (Below.refl _ _).drew.alloc (Nat.le_refl _) _))
        (first
        | (go_at_call 26; refine (HLW.out _).mono ?_; rintro e w7 ⟨rfl, rfl⟩)
        | fail)
      all_goals
        first
        | (obtain ⟨w6, hw6⟩ : ∃ w6, w6 = (w5.alloc (.cells #[.int .i64 (oo : Int), .int .i64 (ss : Int)] 32)).drew := ⟨_, rfl⟩; rw [← hw6]; have h6 := STEP.out w6 (.inl hw6))
        | (obtain ⟨w6, hw6⟩ : ∃ w6, w6 = w5.drew.alloc (.cells #[.int .i64 (oo : Int), .int .i64 (ss : Int)] 32) := ⟨_, rfl⟩; rw [← hw6]; have h6 := STEP.out w6 (.inr hw6))
        obtain ⟨bk, hbk⟩ : ∃ bk, bk = w5.heap.size := ⟨_, rfl⟩
        rw [← hbk]
        have b6 := h6.1
        have KX := Lib.hid h6.2
        rw [← hbk] at KX
        have B6 := Lib.hid (bn B4.out b6)
        have L6 := Lib.hid (L4.out.t.below b6)
        have M6 := Lib.hid (M4.out.t.below b6)
        have HKN : Hid (¬ ou bk) := Lib.hid (fun h => by have := M4.out.t.up bk h; omega)
        have HUL : Hid (∀ i, ou i → w.heap.size ≤ i) := Lib.hid (fun i hi => Nat.le_trans B3.out.size (M4.out.lt i hi))
        have hSL : (sx L).length ≤ 100000 := by rw [sx_len]; omega
        have HD1 := Lib.hid (drop_one_len HF1.out.1 HKI.out)
        have HSK := Lib.hid (kept_sx HF1.out)
        have CD := Lib.hid (drop1_c u (sx L) ou (oo : Int) (ss : Int) w6 M6.out (key_okQ hoo hss) hSL)
        rw [show dropSs (sx L) [((oo : Int), (ss : Int))] = dropS (sx L) ((oo : Int), (ss : Int)) from rfl, HD1.out] at CD
        have k0 := KX.out.cell 0
        have k1 := KX.out.cell 1
        simp only [List.getElem?_toArray, List.getElem?_cons_succ, List.getElem?_cons_zero] at k0 k1
        have hbl := KX.out.lt
        clear hw6 h6 hbk b6 STEP q0 x0 x1 hgl HSX HLW HKI HD1 M4 L4 hq0 VB VR HF1 hSL
        go_wp2_with fail
        refine CD.out.mono ?_
        rintro e w7 ⟨rfl, h7, t7⟩
        have L7 : Hid (Tr w7 p (sx L) ot) := Lib.hid (L6.out.keep t7.size (fun i hi => t7.block i (L6.out.up i hi) (HNE.out i hi)))
        have M7 := Lib.hid h7
        have B7 : Hid (Below w.heap.size w w7) := Lib.hid (B6.out.trans (t7.below B6.out.size HUL.out))
        have KX7 : Hid (R.Bx 32 w7 bk #[.int .i64 (oo : Int), .int .i64 (ss : Int)]) := Lib.hid ((t7.block bk KX.out.lt HKN.out).trans KX.out)
        have HON : Hid (clashB (sx L) (dropS (sx L) ((oo : Int), (ss : Int))) n = false → (n ≤ oo → findK (difB (sx L) (dropS (sx L) ((oo : Int), (ss : Int)))) n = [] ∧ findN (difB (sx L) (dropS (sx L) ((oo : Int), (ss : Int)))) n = n) ∧ (oo < n → findK (difB (sx L) (dropS (sx L) ((oo : Int), (ss : Int)))) n = [((oo : Int), (ss : Int))] ∧ findN (difB (sx L) (dropS (sx L) ((oo : Int), (ss : Int)))) n = n + 20)) := Lib.hid (fun hc => one_keys HSK.out HBI.out hss hn8 hc)
        have CF := Lib.hid (find_all p u (sx L) (dropS (sx L) ((oo : Int), (ss : Int))) ot ou n w7 L7.out M7.out hn8)
        have CC := Lib.hid (fun W (hb : Below w7.heap.size w7 W) => clash_c p u (sx L) (dropS (sx L) ((oo : Int), (ss : Int))) ot ou n W (L7.out.below hb) (M7.out.below hb) HSK.out (kept_drop HSK.out _) hn8 (HT.out.below (bn B7.out hb)))
        generalize findK (difB (sx L) (dropS (sx L) ((oo : Int), (ss : Int)))) n = ks at *
        generalize findN (difB (sx L) (dropS (sx L) ((oo : Int), (ss : Int)))) n = kn at *
        generalize clashB (sx L) (dropS (sx L) ((oo : Int), (ss : Int))) n = cb at *
        clear h7 t7 k0 k1 hbl KX CD L6 M6 B6 HKN HUL HNE HBI HSK
        go_wp2_with fail
        refine CF.out.mono ?_
        rintro e w8 ⟨a8, c8, rfl, k8, b8⟩
        have K8 := Lib.hid (P.KRow.rd k8)
        have B8 := Lib.hid b8
        clear k8 b8 CF
        go_wp2_with fail
        refine (CC.out w8 B8.out).mono ?_
        cases cb with
        | true =>
          rintro e w9 ⟨rfl, b9⟩
          have B9 := Lib.hid (bn B7.out (bn B8.out b9))
          clear b9
          go_wp2_with fail
          refine (HAW.out w9 B9.out).mono ?_
          rintro e w10 ⟨rfl, b10⟩
          go_wp2_with fail
          go_ret
          exact ⟨rfl, bn B9.out b10⟩
        | false =>
          rintro e w9 ⟨rfl, b9⟩
          have K9 := Lib.hid (K8.out.below b9)
          have B9 := Lib.hid (bn B8.out b9)
          have X9 := KX7.out.below B9.out
          have k0 := X9.cell 0
          have k1 := X9.cell 1
          simp only [List.getElem?_toArray, List.getElem?_cons_succ, List.getElem?_cons_zero] at k0 k1
          have hbl := X9.lt
          clear X9 b9 K8 B8 CC
          by_cases hno : n ≤ oo
          · obtain ⟨rfl, hkn⟩ := (HON.out rfl).1 hno
            have hge : (n : Int) ≤ (oo : Int) := by omega
            have hkn2 : (kn : Int) = (n : Int) := by omega
            clear hkn hno HON
            go_wp2_with fail
            refine (HAW.out w9 (bn B7.out B9.out)).mono ?_
            rintro e w10 ⟨rfl, b10⟩
            go_wp2_with fail
            go_ret
            exact ⟨rfl, bn (bn B7.out B9.out) b10⟩
          · obtain ⟨rfl, hkn⟩ := (HON.out rfl).2 (by omega)
            have hge : ¬ (n : Int) ≤ (oo : Int) := by omega
            have hkn2 : (kn : Int) = (n : Int) + 20 := by omega
            have al := alloc_below w9 (.cells #[.int .i64 (oo : Int), .int .i64 (ss : Int)] 32)
            have CK := Lib.hid (P.samek_c [((oo : Int), (ss : Int))] _ _ _ (K9.out.below al) (P.KRd.one w9 (oo : Int) (ss : Int) 32) (by simp))
            have BA := Lib.hid (bn (bn B7.out B9.out) al)
            clear hkn hno HON al
            go_wp2_with fail
            refine CK.out.mono ?_
            rintro e w10 ⟨rfl, b10⟩
            have B10 := Lib.hid (bn BA.out b10)
            clear b10 k0 k1 hbl CK
            go_wp2_with fail
            refine (HAW.out w10 B10.out).mono ?_
            rintro e w11 ⟨rfl, b11⟩
            go_wp2_with fail
            go_ret
            exact ⟨rfl, bn B10.out b11⟩
end Go.Proofs.YtchkadifjbmmpaaDoor
namespace Go.Proofs.YtchkadifjbmmpaaDoor
open Go.RowKit Go.ChangeShapes Go.WideShapes Go.ChangeAt Go.Deep

set_option maxRecDepth 100000 in
theorem one_lifted (os : Os) (started : os.Started) (H : Type) (enc : TypeId × Value → H) :
    ReturnsInHanded {} Tryd.checked os 10 .any (fun w args => (Rows.descentOneSpec.pre enc Tryd.prog Tryd.f10 [] false w args ∧ laidMetH Tryd.prog Rows.descentOneRow.laid w) ∧ sizedMet enc Tryd.prog Tryd.f10 (OpenSpec.ofChange Rows.descentOneSpec) false w args)
      (Rows.descentOneSpec.post enc Tryd.prog Tryd.f10 false true false false) := by
  refine laid_lift (C := Tryd.checked) (L := seatLaid) own started (by kernel_rfl) Tryd.func10
    (ChangeSpec.witness_shaped (enc := enc) (C := Tryd.checked) (os := os) (X := fun w _ => laidMetH Tryd.prog seatLaid w) false (World.laidAll Tryd.prog os seatLaid) #[.slice none 0 0, .int .i64 0, .int .i64 0] 8 (World.laidAll_os _ _ _)
      (World.shaped_of_ZipB (by kernel_rfl) (by kernel_rfl)) (by kernel_rfl) (by kernel_rfl) (by kernel_rfl) (laid_world os _)) laidOut
    (by rw [Tryd.params10]; exact of_decide_eq_true (by kernel_rfl)) rfl 4 Tryd.underlying4 (by kernel_rfl)
    (fun ds h => by
      rw [Tryd.params10] at h
      match ds, h with
      | [_, _, _], _ => rfl) ?_
  intro W base args ds ps hval hA hL
  rw [Tryd.params10] at hA hval
  have hT := tabs_of_laid W hL
  obtain ⟨v0, v1, v2, d0, d1, d2, p0, p1, p2, rfl, rfl, rfl, h0, h1, h2⟩ := trodAll_three hA
  obtain ⟨l0, hl0, hs0, hm0⟩ := open_recs (hval 0 28 v0 rfl rfl) h0
  obtain ⟨a1, rfl, rfl, rfl, _⟩ := open_int Tryd.underlying3 (hval 1 3 v1 rfl rfl) h1
  obtain ⟨a2, rfl, rfl, rfl, _⟩ := open_int Tryd.underlying3 (hval 2 3 v2 rfl rfl) h2
  exact one_law l0 v0 a1 a2 W hl0 hs0 hm0 hT

theorem one_holds : Rows.DescentOneSaid :=
  OpenClaim.holds_of_wide 10 Tryd.f10 rfl rfl rfl rfl rfl rfl rfl ⟨rfl, rfl, rfl, rfl, rfl⟩ rfl rfl rfl rfl rfl (by kernel_rfl) Tryd.func10 (by kernel_rfl)
    (of_decide_eq_true (by kernel_rfl)) (by unfold Func.isWrapper; first | (rw [if_pos (by decide +kernel)]; kernel_rfl) | (rw [if_neg (by decide +kernel)]; exact ⟨rfl, rfl⟩))
    (fun os started H enc _ => one_lifted os started H enc)

theorem one_card : Rows.DescentOneCardSaid :=
  Claim7.holds_tied_plain_at .later [] _ _ _ _ one_holds (fun _ h => by cases h) (by kernel_rfl) (fun _ h => by cases h) descentOne_row_tie rfl ⟨rfl, rfl⟩ (by kernel_rfl) rfl
    (fun f fn hf hfn => by
      obtain rfl : f = 10 := Option.some.inj ((show Tryd.prog.funcNamed Rows.descentOneRow.func = some 10 by kernel_rfl).symm.trans hf) |>.symm
      obtain rfl : fn = Tryd.f10 := (Option.some.inj (Tryd.func10.symm.trans hfn)).symm
      exact ⟨by kernel_rfl, fun j t ht => by
        rw [Tryd.params10] at ht
        have hm : t ∈ [28, 3, 3] := by simpa using Array.mem_of_getElem? ht
        have hall : ([28, 3, 3].all fun u => !Tryd.prog.wantsStandIn u) = true := by kernel_rfl
        exact (show Tryd.prog.wantsStandIn t = false by simpa using List.all_eq_true.1 hall t hm)⟩)
    (by kernel_rfl)
#print axioms one_card
end Go.Proofs.YtchkadifjbmmpaaDoor
