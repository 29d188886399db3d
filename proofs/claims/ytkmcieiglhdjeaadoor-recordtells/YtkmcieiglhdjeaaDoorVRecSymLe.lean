/-
  symMerge of package slices, at records, by contract: two sorted runs merged, equals in order.
-/
import Derived.Test.YtkmcieiglhdjeaaDoorVRecSymMid
namespace Go.Proofs.YtkmcieiglhdjeaaDoor
open Go.RowKit Go.Lib
variable {bxr : Nat}

set_option maxHeartbeats 32000000 in
set_option maxRecDepth 1000000 in
theorem sym_le (g n cap a m b mid : Nat) (d : Nat → Rc) (w : World) (h : Dx bxr w g n d) (hn : n ≤ 1000) (hm1 : a + 2 ≤ m) (hm2 : m + 2 ≤ b) (hb : b ≤ n) (hmid : mid = (a + b) / 2) (hgt : m ≤ mid) (sl : Srt d a m) (sr : Srt d m b)
    (IH : ∀ (a' m' b' : Nat) (d' : Nat → Rc) (W : World), b' - a' < b - a → Dx bxr W g n d' → a' < m' → m' < b' → b' ≤ n → Srt d' a' m' → Srt d' m' b' → SymC bxr g n cap a' m' b' d' W) : SymC bxr g n cap a m b d w := by
  unfold SymC at IH ⊢
  have H := Lib.hid h
  have HSL := Lib.hid sl
  have HSR := Lib.hid sr
  have HIH := Lib.hid IH
  have HMID := Lib.hid hmid
  have t0 : ((m : Int) - (a : Int) == 1) = false := by simp; omega
  have t1 : ((b : Int) - (m : Int) == 1) = false := by simp; omega
  have zm : ((a : Int) + (b : Int)) / 2 = (mid : Int) := by omega
  have ham : a < mid := by omega
  have hmb : mid < b := by omega
  have t2 : decide (mid < m) = false := by simp; omega
  obtain ⟨nn, hnn⟩ : ∃ nn, nn = mid + m := ⟨_, rfl⟩
  have zn : (mid : Int) + (m : Int) = (nn : Int) := by omega
  obtain ⟨pp, hpp⟩ : ∃ pp, nn = pp + 1 := ⟨nn - 1, by omega⟩
  have zp : (nn : Int) - 1 = (pp : Int) := by omega
  have hpm : pp + 1 = mid + m := by omega
  have HNN := Lib.hid hnn
  have HPM := Lib.hid hpm
  have HFOUND : Hid (∀ s e, a ≤ s → s ≤ m → e = mid + m - s → (∀ c, a ≤ c → c < s → lessR (d (pp - c)) (d c) = false) → (∀ c, s ≤ c → c < m → lessR (d (pp - c)) (d c) = true) → Found d a m b mid s e) := Lib.hid (fun s e hs hr he k1 k2 =>
    found hm1 hm2 hmid (.inr ⟨hgt, rfl, rfl⟩) hs hr he sl sr (fun c hc hcs => by rw [show mid + m - 1 - c = pp - c from by omega]; exact k1 c hc hcs) (fun c hc hcs => by rw [show mid + m - 1 - c = pp - c from by omega]; exact k2 c hc hcs))
  have hb1 : a ≤ m := by omega
  have hb2 : ∀ c, a ≤ c → c < m → a ≤ c ∧ c < m ∧ m ≤ pp - c ∧ pp - c < b ∧ c ≤ pp := fun c h1 h2 => by omega
  have HB2 := Lib.hid hb2
  have hr0m : m ≤ m := by omega
  clear h sl sr IH hmid hnn hpp hpm hb2 hgt
  go_enter Tryd.func44, Tryd.ntmps44
  go_wp2
  go_loopw [20, 21] (fun v20 v21 wr => ∃ (s r : Nat), a ≤ s ∧ s ≤ r ∧ r ≤ m ∧ v20 = .int .i64 (s : Int) ∧ v21 = .int .i64 (r : Int) ∧ Hid (∀ c, a ≤ c → c < s → lessR (d (pp - c)) (d c) = false) ∧ Hid (∀ c, r ≤ c → c < m → lessR (d (pp - c)) (d c) = true) ∧ Hid (Dx bxr wr g n d) ∧ Hid (w.grownBy wr (some g))) (fun v20 v21 _ => (RowKit.intOf v21).toNat - (RowKit.intOf v20).toNat)
  case atStart => exact ⟨a, m, Nat.le_refl _, hb1, Nat.le_refl _, rfl, rfl, Lib.hid (fun c _ _ => by omega), Lib.hid (fun c _ _ => by omega), H, Lib.hid (grown_refl _ _)⟩
  case round =>
    obtain ⟨s, r, hs, hsr, hr, rfl, rfl, HL, HR, HD, HG⟩ := hrel
    by_cases hp : s < r
    · have hp2 : decide (s < r) = true := by simpa using hp
      obtain ⟨x, hx⟩ : ∃ x, x = (s + r) / 2 := ⟨_, rfl⟩
      have hxi : s ≤ x := by omega
      have hxj : x < r := by omega
      have hz : ((s : Int) + (r : Int)) / 2 = (x : Int) := by omega
      obtain ⟨k1, k2, k3, k4, k5⟩ := HB2.out x (by omega) (by omega)
      obtain ⟨y, hy⟩ : ∃ y, y = pp - x := ⟨_, rfl⟩
      have zy : (pp : Int) - (x : Int) = (y : Int) := by omega
      have zyw : IntKind.i64.wrap ((pp : Int) - (x : Int)) = (y : Int) := by rw [IntKind.wrap_i64]; omega
      have zyw2 : IntKind.i64.wrap (y : Int) = (y : Int) := by rw [IntKind.wrap_i64]; omega
      have hxn : x < n := by omega
      have hyn : y < n := by omega
      have xz : (x : Int) < (n : Int) := by omega
      have yz : (y : Int) < (n : Int) := by omega
      have HY0 := Lib.hid hy
      clear hx hy
      have hlt := HD.out.lt
      have HS : Hid (∀ W, Below wr.heap.size wr W → W.cell? ⟨g, y * 5, none⟩ = some (.int .i64 (d y).o) ∧ W.cell? ⟨g, y * 5 + 1, none⟩ = some (.int .i64 (d y).s) ∧ W.cell? ⟨g, y * 5 + 2, none⟩ = some (.int .i64 (d y).w) ∧ W.cell? ⟨g, y * 5 + 3, none⟩ = some (.int .i64 (d y).c) ∧ W.cell? ⟨g, y * 5 + 4, none⟩ = some (.string (d y).t) ∧ W.cell? ⟨g, x * 5, none⟩ = some (.int .i64 (d x).o) ∧ W.cell? ⟨g, x * 5 + 1, none⟩ = some (.int .i64 (d x).s) ∧ W.cell? ⟨g, x * 5 + 2, none⟩ = some (.int .i64 (d x).w) ∧ W.cell? ⟨g, x * 5 + 3, none⟩ = some (.int .i64 (d x).c) ∧ W.cell? ⟨g, x * 5 + 4, none⟩ = some (.string (d x).t)) := Lib.hid (fun W hb => by
        have hd := HD.out.below hb
        exact ⟨hd.c0 _ hyn, hd.c1 _ hyn, hd.c2 _ hyn, hd.c3 _ hyn, hd.c4 _ hyn, hd.c0 _ hxn, hd.c1 _ hxn, hd.c2 _ hxn, hd.c3 _ hxn, hd.c4 _ hxn⟩)
      have HCM := Lib.hid (fun (W : World) (hW : Below wr.heap.size wr W) => compare_c bxr (d y) (d x) W (HD.out.below hW).bx)
      have hneg := cmpR_neg (d y) (d x)
      obtain ⟨X, hX⟩ : ∃ X, X = d y := ⟨_, rfl⟩
      obtain ⟨Y, hY⟩ : ∃ Y, Y = d x := ⟨_, rfl⟩
      rw [← hX, ← hY] at HS HCM hneg
      have HX := Lib.hid hX
      have HY := Lib.hid hY
      clear hX hY
      cases hL : lessR X Y
      · rw [hL] at hneg
        have HL2 : Hid (∀ c, a ≤ c → c < x + 1 → lessR (d (pp - c)) (d c) = false) := Lib.hid (fun c hc hcx => by
          have h1 : Le (d x) (d y) := by rw [← HX.out, ← HY.out]; exact hL
          obtain ⟨j1, j2, j3, j4, j5⟩ := HB2.out c hc (by omega)
          have h2 : y ≤ pp - c := by have := HY0.out; omega
          exact le_trans (HSL.out.le j1 (by omega) k2) (le_trans h1 (HSR.out.le (by have := HY0.out; omega) h2 j4)))
        generalize cmpR X Y = N at HCM hneg
        go_wp2_with fail
        go_region_held3 (fun W => W.cell? ⟨g, y * 5, none⟩ = some (.int .i64 X.o) ∧ W.cell? ⟨g, y * 5 + 1, none⟩ = some (.int .i64 X.s) ∧ W.cell? ⟨g, y * 5 + 2, none⟩ = some (.int .i64 X.w) ∧ W.cell? ⟨g, y * 5 + 3, none⟩ = some (.int .i64 X.c) ∧ W.cell? ⟨g, y * 5 + 4, none⟩ = some (.string X.t) ∧ W.cell? ⟨g, x * 5, none⟩ = some (.int .i64 Y.o) ∧ W.cell? ⟨g, x * 5 + 1, none⟩ = some (.int .i64 Y.s) ∧ W.cell? ⟨g, x * 5 + 2, none⟩ = some (.int .i64 Y.w) ∧ W.cell? ⟨g, x * 5 + 3, none⟩ = some (.int .i64 Y.c) ∧ W.cell? ⟨g, x * 5 + 4, none⟩ = some (.string Y.t)) (exact HS.out _ (by first | assumption | exact (Below.refl _ _).drew | exact Below.refl _ _))
          (first
          | (go_at_call 37; refine (HCM.out _ (by first | assumption | exact (Below.refl _ _).drew | exact Below.refl _ _)).mono ?_; rintro e w5 ⟨rfl, b5⟩; have b5' : Below wr.heap.size wr w5 := bn (by first | assumption | exact (Below.refl _ _).drew | exact Below.refl _ _) b5; clear b5)
          | fail)
        go_wp2
        go_roundw
        case rel => exact ⟨x + 1, r, by omega, by omega, hr, by go_num, rfl, HL2, HR, Lib.hid (HD.out.below b5'), Lib.hid (grown_next HG.out b5')⟩
        case measure => simp [RowKit.intOf]; omega
      · rw [hL] at hneg
        have HR2 : Hid (∀ c, x ≤ c → c < m → lessR (d (pp - c)) (d c) = true) := Lib.hid (fun c hc hcr => by
          have h1 : lessR (d y) (d x) = true := by rw [← HX.out, ← HY.out]; exact hL
          obtain ⟨j1, j2, j3, j4, j5⟩ := HB2.out c (by omega) hcr
          have h2 : pp - c ≤ y := by have := HY0.out; omega
          exact less_of_le_less (HSR.out.le j3 h2 (by have := HY0.out; omega)) (less_of_less_le h1 (HSL.out.le k1 hc j2)))
        generalize cmpR X Y = N at HCM hneg
        go_wp2_with fail
        go_region_held3 (fun W => W.cell? ⟨g, y * 5, none⟩ = some (.int .i64 X.o) ∧ W.cell? ⟨g, y * 5 + 1, none⟩ = some (.int .i64 X.s) ∧ W.cell? ⟨g, y * 5 + 2, none⟩ = some (.int .i64 X.w) ∧ W.cell? ⟨g, y * 5 + 3, none⟩ = some (.int .i64 X.c) ∧ W.cell? ⟨g, y * 5 + 4, none⟩ = some (.string X.t) ∧ W.cell? ⟨g, x * 5, none⟩ = some (.int .i64 Y.o) ∧ W.cell? ⟨g, x * 5 + 1, none⟩ = some (.int .i64 Y.s) ∧ W.cell? ⟨g, x * 5 + 2, none⟩ = some (.int .i64 Y.w) ∧ W.cell? ⟨g, x * 5 + 3, none⟩ = some (.int .i64 Y.c) ∧ W.cell? ⟨g, x * 5 + 4, none⟩ = some (.string Y.t)) (exact HS.out _ (by first | assumption | exact (Below.refl _ _).drew | exact Below.refl _ _))
          (first
          | (go_at_call 37; refine (HCM.out _ (by first | assumption | exact (Below.refl _ _).drew | exact Below.refl _ _)).mono ?_; rintro e w5 ⟨rfl, b5⟩; have b5' : Below wr.heap.size wr w5 := bn (by first | assumption | exact (Below.refl _ _).drew | exact Below.refl _ _) b5; clear b5)
          | fail)
        go_wp2
        go_roundw
        case rel => exact ⟨s, x, hs, hxi, by omega, rfl, rfl, HL, HR2, Lib.hid (HD.out.below b5'), Lib.hid (grown_next HG.out b5')⟩
        case measure => simp [RowKit.intOf]; omega
    · have hsr2 : s = r := by omega
      subst hsr2
      have hp2 : decide (s < s) = false := by simp
      obtain ⟨e, he⟩ : ∃ e, e = mid + m - s := ⟨_, rfl⟩
      have ze : (nn : Int) - (s : Int) = (e : Int) := by have := HNN.out; omega
      have HF : Hid (Found d a m b mid s e) := Lib.hid (HFOUND.out s e hs hr he HL.out HR.out)
      have fas := HF.out.aS
      have fsm := HF.out.sm
      have fme := HF.out.me
      have feb := HF.out.eb
      clear he hp
      by_cases g1 : s < m ∧ m < e
      · have u1 : decide (s < m) = true := by simpa using g1.1
        have u2 : decide (m < e) = true := by simpa using g1.2
        have HRO := Lib.hid (rotate_c g n cap s m e d wr HD.out hn g1.1 g1.2 (by omega))
        go_wp2_with fail
        refine HRO.out.mono ?_
        rintro ee w1 ⟨rfl, ⟨d1, hd1, hq1⟩, hg1⟩
        have HD1 := Lib.hid hd1
        have HE1 := Lib.hid hq1
        have HG1 := Lib.hid (grown_trans HG.out hg1)
        clear hd1 hq1 hg1 HRO HD HG
        have RR := HF.out.runs HSL.out HSR.out HE1.out
        have R1 := Lib.hid RR.1
        have R2 := Lib.hid RR.2.1
        have R3 := Lib.hid RR.2.2.1
        have R4 := Lib.hid RR.2.2.2
        clear RR
        have smid2 : s ≤ mid := by have := HF.out.smid; omega
        have mide2 : mid ≤ e := by have := HF.out.smid; omega
        by_cases g2 : a < s ∧ s < mid
        · have x1 : decide (a < s) = true := by simpa using g2.1
          have x2 : decide (s < mid) = true := by simpa using g2.2
          have HI1 := Lib.hid (HIH.out a s mid d1 w1 (by omega) HD1.out g2.1 g2.2 (by omega) R1.out R2.out)
          go_wp2_with fail
          refine HI1.out.mono ?_
          rintro ee w2 ⟨rfl, ⟨d2, hd2, hq2⟩, hg2⟩
          have HD2 := Lib.hid hd2
          have HQ2 := Lib.hid hq2
          have HG2 := Lib.hid (grown_trans HG1.out hg2)
          clear hd2 hq2 hg2 HI1
          by_cases g3 : mid < e ∧ e < b
          · have y1 : decide (mid < e) = true := by simpa using g3.1
            have y2 : decide (e < b) = true := by simpa using g3.2
            have HI2 := Lib.hid (HIH.out mid e b d2 w2 (by omega) HD2.out g3.1 g3.2 hb (R3.out.congr (fun k hk _ => HQ2.out.out k (.inr hk))) (R4.out.congr (fun k hk _ => HQ2.out.out k (.inr (by omega)))))
            go_wp2_with fail
            refine HI2.out.mono ?_
            rintro ee w3 ⟨rfl, ⟨d3, hd3, hq3⟩, hg3⟩
            go_wp2
            go_end0
            exact ⟨rfl, ⟨d3, hd3, merge_whole d d1 d2 d3 HF.out.aS HF.out.sm HF.out.me HF.out.eb HF.out.smid HSL.out HSR.out HF.out.hu HF.out.hl HE1.out HQ2.out hq3⟩, grown_trans HG2.out hg3⟩
          · have HQ3 : Hid (SMQ d2 mid b d2) := Lib.hid (SMQ.self (by
              by_cases h1 : mid < e
              · have : e = b := by omega
                rw [← this]
                exact R3.out.congr (fun k hk _ => HQ2.out.out k (.inr hk))
              · have : e = mid := by have := HF.out.smid; omega
                rw [← this]
                exact R4.out.congr (fun k hk _ => HQ2.out.out k (.inr (by omega)))))
            by_cases g4 : mid < e
            · have y1 : decide (mid < e) = true := by simpa using g4
              have y2 : decide (e < b) = false := by simp; omega
              go_wp2
              go_end0
              exact ⟨rfl, ⟨d2, HD2.out, merge_whole d d1 d2 d2 HF.out.aS HF.out.sm HF.out.me HF.out.eb HF.out.smid HSL.out HSR.out HF.out.hu HF.out.hl HE1.out HQ2.out HQ3.out⟩, HG2.out⟩
            · have y1 : decide (mid < e) = false := by simpa using g4
              go_wp2
              go_end0
              exact ⟨rfl, ⟨d2, HD2.out, merge_whole d d1 d2 d2 HF.out.aS HF.out.sm HF.out.me HF.out.eb HF.out.smid HSL.out HSR.out HF.out.hu HF.out.hl HE1.out HQ2.out HQ3.out⟩, HG2.out⟩
        · have HQ2 : Hid (SMQ d1 a mid d1) := Lib.hid (SMQ.self (by
            by_cases h1 : a < s
            · have : s = mid := by omega
              rw [← this]
              exact R1.out
            · have : s = a := by omega
              rw [← this]
              exact R2.out))
          by_cases g5 : a < s
          · have x1 : decide (a < s) = true := by simpa using g5
            have x2 : decide (s < mid) = false := by simp; omega
            by_cases g3 : mid < e ∧ e < b
            · have y1 : decide (mid < e) = true := by simpa using g3.1
              have y2 : decide (e < b) = true := by simpa using g3.2
              have HI2 := Lib.hid (HIH.out mid e b d1 w1 (by omega) HD1.out g3.1 g3.2 hb (R3.out.congr (fun k hk _ => HQ2.out.out k (.inr hk))) (R4.out.congr (fun k hk _ => HQ2.out.out k (.inr (by omega)))))
              go_wp2_with fail
              refine HI2.out.mono ?_
              rintro ee w3 ⟨rfl, ⟨d3, hd3, hq3⟩, hg3⟩
              go_wp2
              go_end0
              exact ⟨rfl, ⟨d3, hd3, merge_whole d d1 d1 d3 HF.out.aS HF.out.sm HF.out.me HF.out.eb HF.out.smid HSL.out HSR.out HF.out.hu HF.out.hl HE1.out HQ2.out hq3⟩, grown_trans HG1.out hg3⟩
            · have HQ3 : Hid (SMQ d1 mid b d1) := Lib.hid (SMQ.self (by
                by_cases h1 : mid < e
                · have : e = b := by omega
                  rw [← this]
                  exact R3.out.congr (fun k hk _ => HQ2.out.out k (.inr hk))
                · have : e = mid := by have := HF.out.smid; omega
                  rw [← this]
                  exact R4.out.congr (fun k hk _ => HQ2.out.out k (.inr (by omega)))))
              by_cases g4 : mid < e
              · have y1 : decide (mid < e) = true := by simpa using g4
                have y2 : decide (e < b) = false := by simp; omega
                go_wp2
                go_end0
                exact ⟨rfl, ⟨d1, HD1.out, merge_whole d d1 d1 d1 HF.out.aS HF.out.sm HF.out.me HF.out.eb HF.out.smid HSL.out HSR.out HF.out.hu HF.out.hl HE1.out HQ2.out HQ3.out⟩, HG1.out⟩
              · have y1 : decide (mid < e) = false := by simpa using g4
                go_wp2
                go_end0
                exact ⟨rfl, ⟨d1, HD1.out, merge_whole d d1 d1 d1 HF.out.aS HF.out.sm HF.out.me HF.out.eb HF.out.smid HSL.out HSR.out HF.out.hu HF.out.hl HE1.out HQ2.out HQ3.out⟩, HG1.out⟩
          · have x1 : decide (a < s) = false := by simpa using g5
            by_cases g3 : mid < e ∧ e < b
            · have y1 : decide (mid < e) = true := by simpa using g3.1
              have y2 : decide (e < b) = true := by simpa using g3.2
              have HI2 := Lib.hid (HIH.out mid e b d1 w1 (by omega) HD1.out g3.1 g3.2 hb (R3.out.congr (fun k hk _ => HQ2.out.out k (.inr hk))) (R4.out.congr (fun k hk _ => HQ2.out.out k (.inr (by omega)))))
              go_wp2_with fail
              refine HI2.out.mono ?_
              rintro ee w3 ⟨rfl, ⟨d3, hd3, hq3⟩, hg3⟩
              go_wp2
              go_end0
              exact ⟨rfl, ⟨d3, hd3, merge_whole d d1 d1 d3 HF.out.aS HF.out.sm HF.out.me HF.out.eb HF.out.smid HSL.out HSR.out HF.out.hu HF.out.hl HE1.out HQ2.out hq3⟩, grown_trans HG1.out hg3⟩
            · have HQ3 : Hid (SMQ d1 mid b d1) := Lib.hid (SMQ.self (by
                by_cases h1 : mid < e
                · have : e = b := by omega
                  rw [← this]
                  exact R3.out.congr (fun k hk _ => HQ2.out.out k (.inr hk))
                · have : e = mid := by have := HF.out.smid; omega
                  rw [← this]
                  exact R4.out.congr (fun k hk _ => HQ2.out.out k (.inr (by omega)))))
              by_cases g4 : mid < e
              · have y1 : decide (mid < e) = true := by simpa using g4
                have y2 : decide (e < b) = false := by simp; omega
                go_wp2
                go_end0
                exact ⟨rfl, ⟨d1, HD1.out, merge_whole d d1 d1 d1 HF.out.aS HF.out.sm HF.out.me HF.out.eb HF.out.smid HSL.out HSR.out HF.out.hu HF.out.hl HE1.out HQ2.out HQ3.out⟩, HG1.out⟩
              · have y1 : decide (mid < e) = false := by simpa using g4
                go_wp2
                go_end0
                exact ⟨rfl, ⟨d1, HD1.out, merge_whole d d1 d1 d1 HF.out.aS HF.out.sm HF.out.me HF.out.eb HF.out.smid HSL.out HSR.out HF.out.hu HF.out.hl HE1.out HQ2.out HQ3.out⟩, HG1.out⟩
      · have u1 : (decide (s < m) && decide (m < e)) = false := by
          cases h1 : decide (s < m) <;> cases h2 : decide (m < e) <;> first | rfl | (exfalso; simp at h1 h2; exact g1 ⟨h1, h2⟩)
        have HD1 := HD
        have HE1 := Lib.hid (HF.out.still g1)
        have HG1 := HG
        clear HD HG
        by_cases g0 : s < m
        · have u2 : decide (s < m) = true := by simpa using g0
          have u3 : decide (m < e) = false := by simp; omega
          have RR := HF.out.runs HSL.out HSR.out HE1.out
          have R1 := Lib.hid RR.1
          have R2 := Lib.hid RR.2.1
          have R3 := Lib.hid RR.2.2.1
          have R4 := Lib.hid RR.2.2.2
          clear RR
          have smid2 : s ≤ mid := by have := HF.out.smid; omega
          have mide2 : mid ≤ e := by have := HF.out.smid; omega
          by_cases g2 : a < s ∧ s < mid
          · have x1 : decide (a < s) = true := by simpa using g2.1
            have x2 : decide (s < mid) = true := by simpa using g2.2
            have HI1 := Lib.hid (HIH.out a s mid d wr (by omega) HD1.out g2.1 g2.2 (by omega) R1.out R2.out)
            go_wp2_with fail
            refine HI1.out.mono ?_
            rintro ee w2 ⟨rfl, ⟨d2, hd2, hq2⟩, hg2⟩
            have HD2 := Lib.hid hd2
            have HQ2 := Lib.hid hq2
            have HG2 := Lib.hid (grown_trans HG1.out hg2)
            clear hd2 hq2 hg2 HI1
            by_cases g3 : mid < e ∧ e < b
            · have y1 : decide (mid < e) = true := by simpa using g3.1
              have y2 : decide (e < b) = true := by simpa using g3.2
              have HI2 := Lib.hid (HIH.out mid e b d2 w2 (by omega) HD2.out g3.1 g3.2 hb (R3.out.congr (fun k hk _ => HQ2.out.out k (.inr hk))) (R4.out.congr (fun k hk _ => HQ2.out.out k (.inr (by omega)))))
              go_wp2_with fail
              refine HI2.out.mono ?_
              rintro ee w3 ⟨rfl, ⟨d3, hd3, hq3⟩, hg3⟩
              go_wp2
              go_end0
              exact ⟨rfl, ⟨d3, hd3, merge_whole d d d2 d3 HF.out.aS HF.out.sm HF.out.me HF.out.eb HF.out.smid HSL.out HSR.out HF.out.hu HF.out.hl HE1.out HQ2.out hq3⟩, grown_trans HG2.out hg3⟩
            · have HQ3 : Hid (SMQ d2 mid b d2) := Lib.hid (SMQ.self (by
                by_cases h1 : mid < e
                · have : e = b := by omega
                  rw [← this]
                  exact R3.out.congr (fun k hk _ => HQ2.out.out k (.inr hk))
                · have : e = mid := by have := HF.out.smid; omega
                  rw [← this]
                  exact R4.out.congr (fun k hk _ => HQ2.out.out k (.inr (by omega)))))
              by_cases g4 : mid < e
              · have y1 : decide (mid < e) = true := by simpa using g4
                have y2 : decide (e < b) = false := by simp; omega
                go_wp2
                go_end0
                exact ⟨rfl, ⟨d2, HD2.out, merge_whole d d d2 d2 HF.out.aS HF.out.sm HF.out.me HF.out.eb HF.out.smid HSL.out HSR.out HF.out.hu HF.out.hl HE1.out HQ2.out HQ3.out⟩, HG2.out⟩
              · have y1 : decide (mid < e) = false := by simpa using g4
                go_wp2
                go_end0
                exact ⟨rfl, ⟨d2, HD2.out, merge_whole d d d2 d2 HF.out.aS HF.out.sm HF.out.me HF.out.eb HF.out.smid HSL.out HSR.out HF.out.hu HF.out.hl HE1.out HQ2.out HQ3.out⟩, HG2.out⟩
          · have HQ2 : Hid (SMQ d a mid d) := Lib.hid (SMQ.self (by
              by_cases h1 : a < s
              · have : s = mid := by omega
                rw [← this]
                exact R1.out
              · have : s = a := by omega
                rw [← this]
                exact R2.out))
            by_cases g5 : a < s
            · have x1 : decide (a < s) = true := by simpa using g5
              have x2 : decide (s < mid) = false := by simp; omega
              by_cases g3 : mid < e ∧ e < b
              · have y1 : decide (mid < e) = true := by simpa using g3.1
                have y2 : decide (e < b) = true := by simpa using g3.2
                have HI2 := Lib.hid (HIH.out mid e b d wr (by omega) HD1.out g3.1 g3.2 hb (R3.out.congr (fun k hk _ => HQ2.out.out k (.inr hk))) (R4.out.congr (fun k hk _ => HQ2.out.out k (.inr (by omega)))))
                go_wp2_with fail
                refine HI2.out.mono ?_
                rintro ee w3 ⟨rfl, ⟨d3, hd3, hq3⟩, hg3⟩
                go_wp2
                go_end0
                exact ⟨rfl, ⟨d3, hd3, merge_whole d d d d3 HF.out.aS HF.out.sm HF.out.me HF.out.eb HF.out.smid HSL.out HSR.out HF.out.hu HF.out.hl HE1.out HQ2.out hq3⟩, grown_trans HG1.out hg3⟩
              · have HQ3 : Hid (SMQ d mid b d) := Lib.hid (SMQ.self (by
                  by_cases h1 : mid < e
                  · have : e = b := by omega
                    rw [← this]
                    exact R3.out.congr (fun k hk _ => HQ2.out.out k (.inr hk))
                  · have : e = mid := by have := HF.out.smid; omega
                    rw [← this]
                    exact R4.out.congr (fun k hk _ => HQ2.out.out k (.inr (by omega)))))
                by_cases g4 : mid < e
                · have y1 : decide (mid < e) = true := by simpa using g4
                  have y2 : decide (e < b) = false := by simp; omega
                  go_wp2
                  go_end0
                  exact ⟨rfl, ⟨d, HD1.out, merge_whole d d d d HF.out.aS HF.out.sm HF.out.me HF.out.eb HF.out.smid HSL.out HSR.out HF.out.hu HF.out.hl HE1.out HQ2.out HQ3.out⟩, HG1.out⟩
                · have y1 : decide (mid < e) = false := by simpa using g4
                  go_wp2
                  go_end0
                  exact ⟨rfl, ⟨d, HD1.out, merge_whole d d d d HF.out.aS HF.out.sm HF.out.me HF.out.eb HF.out.smid HSL.out HSR.out HF.out.hu HF.out.hl HE1.out HQ2.out HQ3.out⟩, HG1.out⟩
            · have x1 : decide (a < s) = false := by simpa using g5
              by_cases g3 : mid < e ∧ e < b
              · have y1 : decide (mid < e) = true := by simpa using g3.1
                have y2 : decide (e < b) = true := by simpa using g3.2
                have HI2 := Lib.hid (HIH.out mid e b d wr (by omega) HD1.out g3.1 g3.2 hb (R3.out.congr (fun k hk _ => HQ2.out.out k (.inr hk))) (R4.out.congr (fun k hk _ => HQ2.out.out k (.inr (by omega)))))
                go_wp2_with fail
                refine HI2.out.mono ?_
                rintro ee w3 ⟨rfl, ⟨d3, hd3, hq3⟩, hg3⟩
                go_wp2
                go_end0
                exact ⟨rfl, ⟨d3, hd3, merge_whole d d d d3 HF.out.aS HF.out.sm HF.out.me HF.out.eb HF.out.smid HSL.out HSR.out HF.out.hu HF.out.hl HE1.out HQ2.out hq3⟩, grown_trans HG1.out hg3⟩
              · have HQ3 : Hid (SMQ d mid b d) := Lib.hid (SMQ.self (by
                  by_cases h1 : mid < e
                  · have : e = b := by omega
                    rw [← this]
                    exact R3.out.congr (fun k hk _ => HQ2.out.out k (.inr hk))
                  · have : e = mid := by have := HF.out.smid; omega
                    rw [← this]
                    exact R4.out.congr (fun k hk _ => HQ2.out.out k (.inr (by omega)))))
                by_cases g4 : mid < e
                · have y1 : decide (mid < e) = true := by simpa using g4
                  have y2 : decide (e < b) = false := by simp; omega
                  go_wp2
                  go_end0
                  exact ⟨rfl, ⟨d, HD1.out, merge_whole d d d d HF.out.aS HF.out.sm HF.out.me HF.out.eb HF.out.smid HSL.out HSR.out HF.out.hu HF.out.hl HE1.out HQ2.out HQ3.out⟩, HG1.out⟩
                · have y1 : decide (mid < e) = false := by simpa using g4
                  go_wp2
                  go_end0
                  exact ⟨rfl, ⟨d, HD1.out, merge_whole d d d d HF.out.aS HF.out.sm HF.out.me HF.out.eb HF.out.smid HSL.out HSR.out HF.out.hu HF.out.hl HE1.out HQ2.out HQ3.out⟩, HG1.out⟩
        · have u2 : decide (s < m) = false := by simpa using g0
          have RR := HF.out.runs HSL.out HSR.out HE1.out
          have R1 := Lib.hid RR.1
          have R2 := Lib.hid RR.2.1
          have R3 := Lib.hid RR.2.2.1
          have R4 := Lib.hid RR.2.2.2
          clear RR
          have smid2 : s ≤ mid := by have := HF.out.smid; omega
          have mide2 : mid ≤ e := by have := HF.out.smid; omega
          by_cases g2 : a < s ∧ s < mid
          · have x1 : decide (a < s) = true := by simpa using g2.1
            have x2 : decide (s < mid) = true := by simpa using g2.2
            have HI1 := Lib.hid (HIH.out a s mid d wr (by omega) HD1.out g2.1 g2.2 (by omega) R1.out R2.out)
            go_wp2_with fail
            refine HI1.out.mono ?_
            rintro ee w2 ⟨rfl, ⟨d2, hd2, hq2⟩, hg2⟩
            have HD2 := Lib.hid hd2
            have HQ2 := Lib.hid hq2
            have HG2 := Lib.hid (grown_trans HG1.out hg2)
            clear hd2 hq2 hg2 HI1
            by_cases g3 : mid < e ∧ e < b
            · have y1 : decide (mid < e) = true := by simpa using g3.1
              have y2 : decide (e < b) = true := by simpa using g3.2
              have HI2 := Lib.hid (HIH.out mid e b d2 w2 (by omega) HD2.out g3.1 g3.2 hb (R3.out.congr (fun k hk _ => HQ2.out.out k (.inr hk))) (R4.out.congr (fun k hk _ => HQ2.out.out k (.inr (by omega)))))
              go_wp2_with fail
              refine HI2.out.mono ?_
              rintro ee w3 ⟨rfl, ⟨d3, hd3, hq3⟩, hg3⟩
              go_wp2
              go_end0
              exact ⟨rfl, ⟨d3, hd3, merge_whole d d d2 d3 HF.out.aS HF.out.sm HF.out.me HF.out.eb HF.out.smid HSL.out HSR.out HF.out.hu HF.out.hl HE1.out HQ2.out hq3⟩, grown_trans HG2.out hg3⟩
            · have HQ3 : Hid (SMQ d2 mid b d2) := Lib.hid (SMQ.self (by
                by_cases h1 : mid < e
                · have : e = b := by omega
                  rw [← this]
                  exact R3.out.congr (fun k hk _ => HQ2.out.out k (.inr hk))
                · have : e = mid := by have := HF.out.smid; omega
                  rw [← this]
                  exact R4.out.congr (fun k hk _ => HQ2.out.out k (.inr (by omega)))))
              by_cases g4 : mid < e
              · have y1 : decide (mid < e) = true := by simpa using g4
                have y2 : decide (e < b) = false := by simp; omega
                go_wp2
                go_end0
                exact ⟨rfl, ⟨d2, HD2.out, merge_whole d d d2 d2 HF.out.aS HF.out.sm HF.out.me HF.out.eb HF.out.smid HSL.out HSR.out HF.out.hu HF.out.hl HE1.out HQ2.out HQ3.out⟩, HG2.out⟩
              · have y1 : decide (mid < e) = false := by simpa using g4
                go_wp2
                go_end0
                exact ⟨rfl, ⟨d2, HD2.out, merge_whole d d d2 d2 HF.out.aS HF.out.sm HF.out.me HF.out.eb HF.out.smid HSL.out HSR.out HF.out.hu HF.out.hl HE1.out HQ2.out HQ3.out⟩, HG2.out⟩
          · have HQ2 : Hid (SMQ d a mid d) := Lib.hid (SMQ.self (by
              by_cases h1 : a < s
              · have : s = mid := by omega
                rw [← this]
                exact R1.out
              · have : s = a := by omega
                rw [← this]
                exact R2.out))
            by_cases g5 : a < s
            · have x1 : decide (a < s) = true := by simpa using g5
              have x2 : decide (s < mid) = false := by simp; omega
              by_cases g3 : mid < e ∧ e < b
              · have y1 : decide (mid < e) = true := by simpa using g3.1
                have y2 : decide (e < b) = true := by simpa using g3.2
                have HI2 := Lib.hid (HIH.out mid e b d wr (by omega) HD1.out g3.1 g3.2 hb (R3.out.congr (fun k hk _ => HQ2.out.out k (.inr hk))) (R4.out.congr (fun k hk _ => HQ2.out.out k (.inr (by omega)))))
                go_wp2_with fail
                refine HI2.out.mono ?_
                rintro ee w3 ⟨rfl, ⟨d3, hd3, hq3⟩, hg3⟩
                go_wp2
                go_end0
                exact ⟨rfl, ⟨d3, hd3, merge_whole d d d d3 HF.out.aS HF.out.sm HF.out.me HF.out.eb HF.out.smid HSL.out HSR.out HF.out.hu HF.out.hl HE1.out HQ2.out hq3⟩, grown_trans HG1.out hg3⟩
              · have HQ3 : Hid (SMQ d mid b d) := Lib.hid (SMQ.self (by
                  by_cases h1 : mid < e
                  · have : e = b := by omega
                    rw [← this]
                    exact R3.out.congr (fun k hk _ => HQ2.out.out k (.inr hk))
                  · have : e = mid := by have := HF.out.smid; omega
                    rw [← this]
                    exact R4.out.congr (fun k hk _ => HQ2.out.out k (.inr (by omega)))))
                by_cases g4 : mid < e
                · have y1 : decide (mid < e) = true := by simpa using g4
                  have y2 : decide (e < b) = false := by simp; omega
                  go_wp2
                  go_end0
                  exact ⟨rfl, ⟨d, HD1.out, merge_whole d d d d HF.out.aS HF.out.sm HF.out.me HF.out.eb HF.out.smid HSL.out HSR.out HF.out.hu HF.out.hl HE1.out HQ2.out HQ3.out⟩, HG1.out⟩
                · have y1 : decide (mid < e) = false := by simpa using g4
                  go_wp2
                  go_end0
                  exact ⟨rfl, ⟨d, HD1.out, merge_whole d d d d HF.out.aS HF.out.sm HF.out.me HF.out.eb HF.out.smid HSL.out HSR.out HF.out.hu HF.out.hl HE1.out HQ2.out HQ3.out⟩, HG1.out⟩
            · have x1 : decide (a < s) = false := by simpa using g5
              by_cases g3 : mid < e ∧ e < b
              · have y1 : decide (mid < e) = true := by simpa using g3.1
                have y2 : decide (e < b) = true := by simpa using g3.2
                have HI2 := Lib.hid (HIH.out mid e b d wr (by omega) HD1.out g3.1 g3.2 hb (R3.out.congr (fun k hk _ => HQ2.out.out k (.inr hk))) (R4.out.congr (fun k hk _ => HQ2.out.out k (.inr (by omega)))))
                go_wp2_with fail
                refine HI2.out.mono ?_
                rintro ee w3 ⟨rfl, ⟨d3, hd3, hq3⟩, hg3⟩
                go_wp2
                go_end0
                exact ⟨rfl, ⟨d3, hd3, merge_whole d d d d3 HF.out.aS HF.out.sm HF.out.me HF.out.eb HF.out.smid HSL.out HSR.out HF.out.hu HF.out.hl HE1.out HQ2.out hq3⟩, grown_trans HG1.out hg3⟩
              · have HQ3 : Hid (SMQ d mid b d) := Lib.hid (SMQ.self (by
                  by_cases h1 : mid < e
                  · have : e = b := by omega
                    rw [← this]
                    exact R3.out.congr (fun k hk _ => HQ2.out.out k (.inr hk))
                  · have : e = mid := by have := HF.out.smid; omega
                    rw [← this]
                    exact R4.out.congr (fun k hk _ => HQ2.out.out k (.inr (by omega)))))
                by_cases g4 : mid < e
                · have y1 : decide (mid < e) = true := by simpa using g4
                  have y2 : decide (e < b) = false := by simp; omega
                  go_wp2
                  go_end0
                  exact ⟨rfl, ⟨d, HD1.out, merge_whole d d d d HF.out.aS HF.out.sm HF.out.me HF.out.eb HF.out.smid HSL.out HSR.out HF.out.hu HF.out.hl HE1.out HQ2.out HQ3.out⟩, HG1.out⟩
                · have y1 : decide (mid < e) = false := by simpa using g4
                  go_wp2
                  go_end0
                  exact ⟨rfl, ⟨d, HD1.out, merge_whole d d d d HF.out.aS HF.out.sm HF.out.me HF.out.eb HF.out.smid HSL.out HSR.out HF.out.hu HF.out.hl HE1.out HQ2.out HQ3.out⟩, HG1.out⟩

theorem sym_c (g n cap : Nat) (hn : n ≤ 1000) : ∀ (N a m b : Nat) (d : Nat → Rc) (w : World), b - a ≤ N → Dx bxr w g n d → a < m → m < b → b ≤ n → Srt d a m → Srt d m b → SymC bxr g n cap a m b d w
  | 0, a, m, b, _, _, hN, _, h1, h2, _, _, _ => by omega
  | N + 1, a, m, b, d, w, hN, hD, h1, h2, hb, sl, sr => by
    by_cases hm : m = a + 1
    · exact sym_left g n cap a m b d w hD hn hm h2 hb sr
    · by_cases hbm : b = m + 1
      · exact sym_right g n cap a m b d w hD hn h1 (by omega) hbm hb sl
      · have IH : ∀ (a' m' b' : Nat) (d' : Nat → Rc) (W : World), b' - a' < b - a → Dx bxr W g n d' → a' < m' → m' < b' → b' ≤ n → Srt d' a' m' → Srt d' m' b' → SymC bxr g n cap a' m' b' d' W :=
          fun a' m' b' d' W hlt hD' h1' h2' hb' sl' sr' => sym_c g n cap hn N a' m' b' d' W (by omega) hD' h1' h2' hb' sl' sr'
        by_cases hg : (a + b) / 2 < m
        · exact sym_gt g n cap a m b _ d w hD hn (by omega) (by omega) hb rfl hg sl sr IH
        · exact sym_le g n cap a m b _ d w hD hn (by omega) (by omega) hb rfl (by omega) sl sr IH
end Go.Proofs.YtkmcieiglhdjeaaDoor
