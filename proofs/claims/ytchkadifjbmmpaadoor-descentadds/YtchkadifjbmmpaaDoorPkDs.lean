/-
  Package descent: plain facts: the Keys that two lists of records differ in; a tree that has some more.
-/
import Derived.Test.YtchkadifjbmmpaaDoorDsPl
import Derived.Test.YtchkadifjbmmpaaDoorTrAwk
import Derived.Test.YtchkadifjbmmpaaDoorKKeys
import Derived.Test.YtchkadifjbmmpaaDoorWRecReadAll
import Derived.Test.YtchkadifjbmmpaaDoorWDigAwake
import Derived.Test.YtchkadifjbmmpaaDoorWRecGreat
import Derived.Test.YtchkadifjbmmpaaDoorWDigBase
import Derived.Deep.OwnRows
import Derived.Maps.AppendAt
import Derived.Deep.SlicePairs
import Derived.Test.YtchkadifjbmmpaaDoorWRecArgs
namespace Go.Proofs.YtchkadifjbmmpaaDoor
open Go.RowKit Go.Lib Go.Maps
set_option maxRecDepth 100000
set_option linter.unusedSimpArgs false

/-- Whether a range's Sums differ. -/
def difB (S V : Sb) (r : Rg) : Bool := sumB r.1 r.2.1 r.2.2 && (sumV (treeF S) r.1 r.2.1 r.2.2 != sumV (treeF V) r.1 r.2.1 r.2.2)
theorem dif_deep (S V : Sb) : Deep (difB S V) := fun r h => by
  unfold difB at h
  rw [Bool.and_eq_true] at h
  have h1 := h.1
  unfold sumB at h1
  rw [decide_eq_true_eq] at h1
  omega
theorem dif_in {S V : Sb} {o l i : Int} (h : difB S V (o, l, i) = true) : ∃ on ln k : Nat, o = (on : Int) ∧ l = (ln : Int) ∧ i = (k : Int) ∧ on < 8 ∧ ln ≤ 5 ∧ k < 1024 := by
  unfold difB at h
  rw [Bool.and_eq_true] at h
  have h1 := h.1
  unfold sumB at h1
  rw [decide_eq_true_eq] at h1
  obtain ⟨h1, h2, h3, h4, h5, h6⟩ := h1
  simp only at h1 h2 h3 h4 h5 h6
  obtain ⟨on, rfl⟩ := Int.eq_ofNat_of_zero_le h1
  obtain ⟨ln, rfl⟩ := Int.eq_ofNat_of_zero_le h3
  obtain ⟨k, rfl⟩ := Int.eq_ofNat_of_zero_le h5
  have hc : ∀ k : Nat, k < 6 → cnt (k : Int) ≤ 1024 := by decide
  have := hc ln (by omega)
  exact ⟨on, ln, k, rfl, rfl, rfl, by omega, by omega, by omega⟩
set_option maxHeartbeats 8000000 in
theorem differ_c (p u : Nat) (S V : Sb) (ot ou : Nat → Prop) (o l i : Int) (w : World) (hp : Tr w p S ot) (hu : Tr w u V ou) :
    Calls Tryd.prog 59 #[.pointer (some ⟨p, 0, none⟩), .pointer (some ⟨u, 0, none⟩), .agg #[.int .i64 o, .int .i64 l, .int .i64 i]] w fun e w' => e = .returned (.bool (difB S V (o, l, i))) ∧ Below w.heap.size w w' := by
  have al := alloc_below w (.cells #[.int .i64 o, .int .i64 l, .int .i64 i] 75)
  have bx := R.Bx.new 75 w #[.int .i64 o, .int .i64 l, .int .i64 i]
  have C1 := Lib.hid (sumT_c p S ot o l i _ (hp.below al))
  have C2 := Lib.hid (sumT_c u V ou o l i _ (hu.below al))
  have HB := Lib.hid bx
  have AL := Lib.hid al
  obtain ⟨w1, hw1⟩ : ∃ w1, w1 = w.alloc (.cells #[.int .i64 o, .int .i64 l, .int .i64 i] 75) := ⟨_, rfl⟩
  rw [← hw1] at C1 C2 HB AL
  have HW := Lib.hid hw1
  have hd : difB S V (o, l, i) = (sumB o l i && (sumV (treeF S) o l i != sumV (treeF V) o l i)) := rfl
  rw [hd]
  generalize sumV (treeF S) o l i = x at *
  generalize sumV (treeF V) o l i = y at *
  clear hp hu al bx hw1 hd
  cases hb : sumB o l i with
  | false =>
    rw [hb] at C1 C2
    go_enter Tryd.func59, Tryd.ntmps59
    go_wp2_with fail
    rw [← HW.out]
    refine C1.out.mono ?_
    rintro e w2 ⟨rfl, rfl⟩
    have r0 := HB.out.cell 0
    have r1 := HB.out.cell 1
    have r2 := HB.out.cell 2
    simp only [List.getElem?_toArray, List.getElem?_cons_succ, List.getElem?_cons_zero] at r0 r1 r2
    have hl := HB.out.lt
    go_wp2_with fail
    refine C2.out.mono ?_
    rintro e w3 ⟨rfl, rfl⟩
    go_wp2_with fail
    go_ret
    exact ⟨rfl, AL.out⟩
  | true =>
    rw [hb] at C1 C2
    go_enter Tryd.func59, Tryd.ntmps59
    go_wp2_with fail
    rw [← HW.out]
    refine C1.out.mono ?_
    rintro e w2 ⟨rfl, rfl⟩
    have r0 := HB.out.cell 0
    have r1 := HB.out.cell 1
    have r2 := HB.out.cell 2
    simp only [List.getElem?_toArray, List.getElem?_cons_succ, List.getElem?_cons_zero] at r0 r1 r2
    have hl := HB.out.lt
    go_wp2_with fail
    refine C2.out.mono ?_
    rintro e w3 ⟨rfl, rfl⟩
    go_wp2_with fail
    go_ret
    exact ⟨rfl, AL.out⟩
set_option maxHeartbeats 16000000 in
theorem step_c (p u : Nat) (S V : Sb) (ot ou : Nat → Prop) (o l i : Int) (w : World) (hp : Tr w p S ot) (hu : Tr w u V ou) :
    Calls Tryd.prog 42 #[.pointer (some ⟨p, 0, none⟩), .pointer (some ⟨u, 0, none⟩), .agg #[.int .i64 o, .int .i64 l, .int .i64 i]] w fun e w' => ∃ ad cap, e = .returned (.slice ad (stepL (difB S V) (o, l, i)).length cap) ∧ GRow w' w.heap.size (.slice ad (stepL (difB S V) (o, l, i)).length cap) (stepL (difB S V) (o, l, i)) ∧ Below w.heap.size w w' := by
  have mixed : Tryd.prog.follows .mixedOrders = true := by kernel_rfl
  have al := alloc_below w (.cells #[.int .i64 o, .int .i64 l, .int .i64 i] 75)
  have HB := Lib.hid (R.Bx.new 75 w #[.int .i64 o, .int .i64 l, .int .i64 i])
  have C1 := Lib.hid (differ_c p u S V ot ou o l i _ (hp.below al) (hu.below al))
  have AL := Lib.hid al
  obtain ⟨w1, hw1⟩ : ∃ w1, w1 = w.alloc (.cells #[.int .i64 o, .int .i64 l, .int .i64 i] 75) := ⟨_, rfl⟩
  rw [← hw1] at C1 HB AL
  have HW := Lib.hid hw1
  have HP := Lib.hid hp
  have HU := Lib.hid hu
  clear hp hu al hw1
  cases hd : difB S V (o, l, i) with
  | false =>
    have hs : stepL (difB S V) (o, l, i) = [] := by unfold stepL; rw [hd]; rfl
    rw [hs]
    rw [hd] at C1
    clear hs hd
    go_enter Tryd.func42, Tryd.ntmps42
    go_wp2_with fail
    rw [← HW.out]
    refine C1.out.mono ?_
    rintro e w2 ⟨rfl, b2⟩
    go_wp2_with fail
    go_ret
    exact ⟨none, 0, rfl, GRow.nil _ _, bn AL.out b2⟩
  | true =>
    have hs : stepL (difB S V) (o, l, i) = (partsR (o, l, i)).filter (difB S V) := by unfold stepL; rw [hd]; rfl
    rw [hs]
    rw [hd] at C1
    obtain ⟨on, ln, k, rfl, rfl, rfl, _, hl5, hk⟩ := dif_in hd
    clear hs hd
    have hpl := partsR_len ((on : Int), (ln : Int), (k : Int))
    have CPW := Lib.hid (fun w2 => parts_c (on : Int) ln k w2 hl5 hk)
    generalize partsR ((on : Int), (ln : Int), (k : Int)) = ps at *
    generalize hD : difB S V = Df at *
    have HD := Lib.hid hD
    clear hD
    go_enter Tryd.func42, Tryd.ntmps42
    go_wp2_with fail
    rw [← HW.out]
    refine C1.out.mono ?_
    rintro e w2 ⟨rfl, b2⟩
    have B2 := Lib.hid (bn AL.out b2)
    have CP := Lib.hid (CPW.out w2)
    have hb := HB.out.below b2
    have r0 := hb.cell 0
    have r1 := hb.cell 1
    have r2 := hb.cell 2
    simp only [List.getElem?_toArray, List.getElem?_cons_succ, List.getElem?_cons_zero] at r0 r1 r2
    have hl := hb.lt
    clear b2 hb C1
    go_wp2_with fail
    refine CP.out.mono ?_
    rintro e w3 ⟨g, rfl, g3, b3⟩
    have B3 := Lib.hid (bn B2.out b3)
    have G3 := Lib.hid (g3.mono (Nat.zero_le _))
    clear g3 b3 r0 r1 r2 hl CP CPW
    have R0 : Hid (GRow w3 w3.heap.size (.slice none 0 0) ((ps.take 0).filter Df)) := Lib.hid (GRow.nil _ _)
    have W0 : Hid (Below w3.heap.size w3 w3) := Lib.hid (Below.refl _ _)
    go_wp2_with fail
    go_loopw [7, 18] (fun v7 v18 wr => ∃ (j : Nat), j ≤ 4 ∧ v18 = .int .i64 (j : Int) ∧ Hid (GRow wr w3.heap.size v7 ((ps.take j).filter Df)) ∧ Hid (Below w3.heap.size w3 wr)) (fun _ v18 _ => 4 - (RowKit.intOf v18).toNat)
    case atStart => exact ⟨0, by omega, rfl, R0, W0⟩
    case round =>
      obtain ⟨j, hj, rfl, RK, BK⟩ := hrel
      clear R0 W0
      by_cases hp : j < 4
      · have HJ := Lib.hid hp
        obtain ⟨A, C, rfl⟩ := RK.out.form
        have hjl : j < ps.length := by omega
        obtain ⟨g', e, x0, x1, x2⟩ := (G3.out.below BK.out).at j hjl
        obtain rfl : g = g' := by injection e with e; injection e
        have hgl := World.block_lt_of_cell? _ _ x0
        have HN : Hid ((ps.take (j + 1)).filter Df = (ps.take j).filter Df ++ if Df ps[j] = true then [ps[j]] else []) := Lib.hid (by
          rw [List.take_succ_eq_append_getElem hjl, List.filter_append]
          congr 1
          by_cases hd : Df ps[j] = true
          · rw [if_pos hd, List.filter_cons_of_pos hd]
            rfl
          · rw [if_neg hd, List.filter_cons_of_neg hd]
            rfl)
        have hlen : ((ps.take j).filter Df).length ≤ 4 := by
          have := List.length_filter_le Df (ps.take j)
          rw [List.length_take] at this
          omega
        clear e
        generalize ps[j] = x at *
        obtain ⟨xo, xl, xi⟩ := x
        simp only at x0 x1 x2
        generalize (ps.take j).filter Df = done at *
        have al := alloc_below wr (.cells #[.int .i64 xo, .int .i64 xl, .int .i64 xi] 75)
        have hbx := R.Bx.new 75 wr #[.int .i64 xo, .int .i64 xl, .int .i64 xi]
        have bw := bn (bn B3.out BK.out) al
        have C2 := Lib.hid (differ_c p u S V ot ou xo xl xi _ (HP.out.below bw) (HU.out.below bw))
        rw [HD.out] at C2
        have BX := Lib.hid hbx
        have BA := Lib.hid (bn BK.out al)
        obtain ⟨w5, hw5⟩ : ∃ w5, w5 = wr.alloc (.cells #[.int .i64 xo, .int .i64 xl, .int .i64 xi] 75) := ⟨_, rfl⟩
        have RA := Lib.hid (RK.out.below al)
        rw [← hw5] at C2 BX BA RA
        have HW5 := Lib.hid hw5
        clear al hbx bw hw5
        go_wp2_with fail
        rw [← HW5.out]
        cases hd : Df (xo, xl, xi) with
        | false =>
          rw [hd] at HN C2
          refine C2.out.mono ?_
          rintro e w6 ⟨rfl, b6⟩
          go_wp2_with fail
          go_roundw
          case rel => exact ⟨j + 1, HJ.out, by go_num, Lib.hid (by rw [HN.out, if_neg (by decide), List.append_nil]; exact RA.out.below b6), Lib.hid (bn BA.out b6)⟩
          case measure => have := HJ.out; simp [RowKit.intOf]; omega
        | true =>
          rw [hd] at HN C2
          refine C2.out.mono ?_
          rintro e w6 ⟨rfl, b6⟩
          have hb := BX.out.below b6
          have r0 := hb.cell 0
          have r1 := hb.cell 1
          have r2 := hb.cell 2
          simp only [List.getElem?_toArray, List.getElem?_cons_succ, List.getElem?_cons_zero] at r0 r1 r2
          have hl := hb.lt
          have B6 := Lib.hid (bn BA.out b6)
          obtain ⟨A', C', w7, run7, r7, b7⟩ := gapp_run done (xo, xl, xi) A C w3.heap.size w6 76 (RA.out.below b6) (by omega) B6.out.size
          simp only at run7
          have HR := Lib.hid run7
          have HR7 := Lib.hid r7
          have HB7 := Lib.hid (B6.out.trans b7)
          clear run7 r7 b7 b6 hb C2
          go_wp2_with (at_builtin; refine D.wpList_append_run rfl _ _ 76 rfl _ _ HR.out ?_; clear HR)
          go_roundw
          case rel => exact ⟨j + 1, HJ.out, by go_num, Lib.hid (by rw [HN.out, if_pos (by decide)]; exact HR7.out), HB7⟩
          case measure => have := HJ.out; simp [RowKit.intOf]; omega
      · obtain rfl : j = 4 := by omega
        obtain ⟨A, C, rfl⟩ := RK.out.form
        have ht : ps.take 4 = ps := by rw [← hpl, List.take_length]
        rw [ht] at RK ⊢
        clear ht
        go_wp2_with fail
        go_ret
        exact ⟨A, C, rfl, RK.out.mono B3.out.size, bn B3.out BK.out⟩
end Go.Proofs.YtchkadifjbmmpaaDoor
namespace Go.Proofs.YtchkadifjbmmpaaDoor
open Go.RowKit Go.Lib Go.Maps
set_option maxRecDepth 100000
set_option linter.unusedSimpArgs false

theorem krow_far {w w' : World} {B : Nat} {v : Value} {l : List P.Ky} {r : Option Nat} (h : P.KRow w B v l) (hg : w.grownBy w' r) (hne : ∀ g, r = some g → v.ownBlock ≠ some g) : P.KRow w' B v l := by
  refine World.ownsRow.kept h hg ?_
  cases hv : v.ownBlock with
  | none => exact .inl rfl
  | some g' => exact .inr fun e => hne g' e.symm hv
/-- Two rows lie apart. -/
def Apart (v u : Value) : Prop := ∀ g, v.ownBlock = some g → u.ownBlock ≠ some g
/-- What Find has found, and asked, when it has looked at the first ones of X. -/
def fndK (X : List Rg) (a : Nat) : List (Int × Int) := ((X.take a).filter (lvF 5)).map keyF
def fndN (X : List Rg) (a n : Nat) : Nat := n + 4 * ((X.take a).filter (fun r => !lvF 5 r)).length
theorem fnd_five {X : List Rg} {a : Nat} (ha : a < X.length) (n : Nat) (h : X[a].2.1 = 5) (Y : List Rg) : fndK (X ++ Y) (a + 1) = fndK X a ++ [keyF X[a]] ∧ fndN (X ++ Y) (a + 1) n = fndN X a n := by
  unfold fndK fndN
  have hl : lvF 5 X[a] = true := by simp [lvF, h]
  have hp : List.filter (lvF 5) [X[a]] = [X[a]] := by simp [List.filter, hl]
  have hn : List.filter (fun r => !lvF 5 r) [X[a]] = [] := by simp [List.filter, hl]
  rw [List.take_append_of_le_length (by omega), List.take_succ_eq_append_getElem ha, List.filter_append, List.filter_append, hp, hn]
  simp
theorem fnd_less {X : List Rg} {a : Nat} (ha : a < X.length) (n : Nat) (h : X[a].2.1 ≠ 5) (Y : List Rg) : fndK (X ++ Y) (a + 1) = fndK X a ∧ fndN (X ++ Y) (a + 1) n = fndN X a n + 4 := by
  unfold fndK fndN
  have hl : lvF 5 X[a] = false := by simp [lvF, h]
  have hp : List.filter (lvF 5) [X[a]] = [] := by simp [List.filter, hl]
  have hn : List.filter (fun r => !lvF 5 r) [X[a]] = [X[a]] := by simp [List.filter, hl]
  rw [List.take_append_of_le_length (by omega), List.take_succ_eq_append_getElem ha, List.filter_append, List.filter_append, hp, hn]
  simp
  omega
theorem fnd_end (X : List Rg) (n : Nat) : fndK X X.length = (X.filter (lvF 5)).map keyF ∧ fndN X X.length n = n + 4 * (X.filter (fun r => !lvF 5 r)).length := by
  unfold fndK fndN
  rw [List.take_length]
  exact ⟨rfl, rfl⟩
theorem fnd_len (X : List Rg) (a n : Nat) : (fndK X a).length ≤ X.length ∧ fndN X a n ≤ n + 4 * X.length := by
  unfold fndK fndN
  have h1 := List.length_filter_le (lvF 5) (X.take a)
  have h2 := List.length_filter_le (fun r => !lvF 5 r) (X.take a)
  rw [List.length_take] at h1 h2
  rw [List.length_map]
  omega
set_option maxHeartbeats 32000000 in
theorem find_all (p u : Nat) (S V : Sb) (ot ou : Nat → Prop) (n : Nat) (w : World) (hp : Tr w p S ot) (hu : Tr w u V ou) (hn : n ≤ 8) :
    Calls Tryd.prog 35 #[.pointer (some ⟨p, 0, none⟩), .pointer (some ⟨u, 0, none⟩), .int .i64 (n : Int)] w fun e w' => ∃ ad cap, e = .returned (.tuple #[.slice ad (findK (difB S V) n).length cap, .int .i64 (findN (difB S V) n : Int)]) ∧ P.KRow w' w.heap.size (.slice ad (findK (difB S V) n).length cap) (findK (difB S V) n) ∧ Below w.heap.size w w' := by
  have mixed : Tryd.prog.follows .mixedOrders = true := by kernel_rfl
  have HP := Lib.hid hp
  have HU := Lib.hid hu
  have CT := Lib.hid (tops_c n w hn)
  have htl := topsL_len n
  have hpt := pot_filter hn (difB S V)
  have HSTEP := Lib.hid (fun o l i w h1 h2 => step_c p u S V ot ou o l i w h1 h2)
  have HDIF := Lib.hid (fun o l i w h1 h2 => differ_c p u S V ot ou o l i w h1 h2)
  have hdp := dif_deep S V
  have HT : Hid (∀ r ∈ (topsL n).filter (difB S V), difB S V r = true) := Lib.hid (fun r hr => (List.mem_filter.1 hr).2)
  generalize hD : difB S V = Df at *
  have HFE := Lib.hid (fun X h1 h2 => find_end (D := Df) (n := n) (X := X) h1 h2)
  have HDP := Lib.hid hdp
  have HPT := Lib.hid hpt
  clear hp hu hD hdp hpt
  go_enter Tryd.func35, Tryd.ntmps35
  go_wp2_with fail
  refine CT.out.mono ?_
  rintro e w1 ⟨A1, C1, rfl, g1, b1⟩
  have B1 := Lib.hid b1
  have G1 := Lib.hid (g1.mono (Nat.zero_le _))
  have R0 : Hid (GRow w1 w1.heap.size (.slice none 0 0) (((topsL n).take 0).filter Df)) := Lib.hid (GRow.nil _ _)
  have W0 : Hid (Below w1.heap.size w1 w1) := Lib.hid (Below.refl _ _)
  clear b1 g1 CT
  generalize topsL n = ts at *
  go_wp2_with fail
  go_loopw [8, 9, 24] (fun v8 v9 v24 wr => ∃ (j : Nat), j ≤ n ∧ v8 = .int .i64 (j : Int) ∧ v24 = .int .i64 (j : Int) ∧ Hid (GRow wr w1.heap.size v9 ((ts.take j).filter Df)) ∧ Hid (Below w1.heap.size w1 wr)) (fun _ _ v24 _ => n - (RowKit.intOf v24).toNat)
  case atStart => exact ⟨0, by omega, rfl, rfl, R0, W0⟩
  case round =>
    obtain ⟨j, hj, rfl, rfl, RK, BK⟩ := hrel
    clear R0 W0
    by_cases hp : j < n
    · have HJ := Lib.hid hp
      obtain ⟨A, C, rfl⟩ := RK.out.form
      have hjl : j < ts.length := by omega
      obtain ⟨g, rfl, x0, x1, x2⟩ := (G1.out.below BK.out).at j hjl
      have hgl := World.block_lt_of_cell? _ _ x0
      have HN : Hid ((ts.take (j + 1)).filter Df = (ts.take j).filter Df ++ if Df ts[j] = true then [ts[j]] else []) := Lib.hid (by
        rw [List.take_succ_eq_append_getElem hjl, List.filter_append]
        congr 1
        by_cases hd : Df ts[j] = true
        · rw [if_pos hd, List.filter_cons_of_pos hd]
          rfl
        · rw [if_neg hd, List.filter_cons_of_neg hd]
          rfl)
      have hlen : ((ts.take j).filter Df).length ≤ 8 := by
        have := List.length_filter_le Df (ts.take j)
        rw [List.length_take] at this
        omega
      generalize ts[j] = x at *
      obtain ⟨xo, xl, xi⟩ := x
      simp only at x0 x1 x2
      generalize (ts.take j).filter Df = done at *
      have al := alloc_below wr (.cells #[.int .i64 xo, .int .i64 xl, .int .i64 xi] 75)
      have hbx := R.Bx.new 75 wr #[.int .i64 xo, .int .i64 xl, .int .i64 xi]
      have bw := bn (bn B1.out BK.out) al
      have C2 := Lib.hid (HDIF.out xo xl xi _ (HP.out.below bw) (HU.out.below bw))
      have BX := Lib.hid hbx
      have BA := Lib.hid (bn BK.out al)
      obtain ⟨w5, hw5⟩ : ∃ w5, w5 = wr.alloc (.cells #[.int .i64 xo, .int .i64 xl, .int .i64 xi] 75) := ⟨_, rfl⟩
      have RA := Lib.hid (RK.out.below al)
      rw [← hw5] at C2 BX BA RA
      have HW5 := Lib.hid hw5
      clear al hbx bw hw5
      go_wp2_with fail
      rw [← HW5.out]
      cases hd : Df (xo, xl, xi) with
      | false =>
        rw [hd] at HN C2
        refine C2.out.mono ?_
        rintro e w6 ⟨rfl, b6⟩
        go_wp2_with fail
        go_roundw
        case rel => exact ⟨j + 1, HJ.out, by go_num, by go_num, Lib.hid (by rw [HN.out, if_neg (by decide), List.append_nil]; exact RA.out.below b6), Lib.hid (bn BA.out b6)⟩
        case measure => have := HJ.out; simp [RowKit.intOf]; omega
      | true =>
        rw [hd] at HN C2
        refine C2.out.mono ?_
        rintro e w6 ⟨rfl, b6⟩
        have hb := BX.out.below b6
        have r0 := hb.cell 0
        have r1 := hb.cell 1
        have r2 := hb.cell 2
        simp only [List.getElem?_toArray, List.getElem?_cons_succ, List.getElem?_cons_zero] at r0 r1 r2
        have hl := hb.lt
        have B6 := Lib.hid (bn BA.out b6)
        obtain ⟨A', C', w7, run7, r7, b7⟩ := gapp_run done (xo, xl, xi) A C w1.heap.size w6 76 (RA.out.below b6) (by omega) B6.out.size
        simp only at run7
        have HR := Lib.hid run7
        have HR7 := Lib.hid r7
        have HB7 := Lib.hid (B6.out.trans b7)
        clear run7 r7 b7 b6 hb C2
        go_wp2_with (at_builtin; refine D.wpList_append_run rfl _ _ 76 rfl _ _ HR.out ?_; clear HR)
        go_roundw
        case rel => exact ⟨j + 1, HJ.out, by go_num, by go_num, Lib.hid (by rw [HN.out, if_pos (by decide)]; exact HR7.out), HB7⟩
        case measure => have := HJ.out; simp [RowKit.intOf]; omega
    · obtain rfl : j = n := by omega
      obtain ⟨A, C, rfl⟩ := RK.out.form
      obtain ⟨wq, hwq⟩ : ∃ wq, wq = wr := ⟨_, rfl⟩
      subst hwq
      have ht : ts.take j = ts := by rw [← htl, List.take_length]
      rw [ht] at RK ⊢
      have Q0 : Hid (Bfs (stepL Df) (ts.filter Df) (ts.filter Df) 0) := Lib.hid (bfs_start _ _)
      have K0 : Hid (P.KRow wq w.heap.size (.slice none 0 0) (fndK (ts.filter Df) 0)) := Lib.hid (P.KRow.nil _ _)
      have N0 : Hid (fndN (ts.filter Df) 0 j = j) := Lib.hid (by simp [fndN])
      have G0 := Lib.hid (RK.out.mono (Nat.zero_le _))
      have BQ := Lib.hid (bn B1.out BK.out)
      have BQ0 : Hid (Below w.heap.size w wq) := BQ
      have AP0 : Hid (Apart (.slice A (ts.filter Df).length C) (.slice none 0 0)) := Lib.hid (fun g _ e => by cases e)
      have G1' := Lib.hid (RK.out.mono B1.out.size)
      clear RK ht hp hj BK
      go_wp2_with fail
      go_loopw [8, 9, 12, 13] (fun v8 v9 v12 v13 wr => ∃ (X : List Rg) (a : Nat), a ≤ X.length ∧ X.length ≤ 10920 ∧ v13 = .int .i64 (a : Int) ∧ v8 = .int .i64 (fndN X a j : Int) ∧ Hid (GRow wr w.heap.size v9 X) ∧ Hid (P.KRow wr w.heap.size v12 (fndK X a)) ∧ Hid (Apart v9 v12) ∧ Hid (Bfs (stepL Df) (ts.filter Df) X a) ∧ Hid (Pot X a) ∧ Hid (∀ r ∈ X, Df r = true) ∧ Hid (Below w.heap.size w wr)) (fun _ _ _ v13 _ => 10920 - (RowKit.intOf v13).toNat)
      case atStart => exact ⟨ts.filter Df, 0, by omega, pot_len HPT.out, rfl, by rw [N0.out], G1', K0, AP0, Q0, HPT, HT, BQ⟩
      case round =>
        obtain ⟨X, a, ha, hX, rfl, rfl, GX, KX, AP, QX, PX, DX, BX⟩ := hrel
        clear Q0 K0 N0 G0 AP0 G1'
        obtain ⟨A, C, rfl⟩ := GX.out.form
        obtain ⟨K, M, rfl, _⟩ := P.own_form KX.out
        have hfl := fnd_len X a j
        by_cases hp : a < X.length
        · have HA := Lib.hid hp
          obtain ⟨g, rfl, x0, x1, x2⟩ := GX.out.at a hp
          have hgl := World.block_lt_of_cell? _ _ x0
          have hdx := DX.out _ (List.getElem_mem hp)
          have hlv := HDP.out _ hdx
          have QN := Lib.hid (bfs_next QX.out hp)
          have PN := Lib.hid (pot_next PX.out hp (step_wt HDP.out hdx))
          have F5 := Lib.hid (fun h => fnd_five hp j h [])
          have F4 := Lib.hid (fun h => fnd_less hp j h (stepL Df X[a]))
          have S5 := Lib.hid (fun (h : X[a].2.1 = 5) => step_five HDP.out h)
          have DN : Hid (∀ r ∈ X ++ stepL Df X[a], Df r = true) := Lib.hid (fun r hr => by
            rcases List.mem_append.1 hr with h | h
            · exact DX.out r h
            · exact (step_lv h).2)
          clear hdx
          generalize X[a] = x at *
          obtain ⟨xo, xl, xi⟩ := x
          simp only at x0 x1 x2 hlv
          have al := alloc_below wr (.cells #[.int .i64 xo, .int .i64 xl, .int .i64 xi] 75)
          have bw := bn BX.out al
          have GA := Lib.hid (GX.out.below al)
          have KA := Lib.hid (KX.out.below al)
          have BA := Lib.hid bw
          have HBX := Lib.hid (R.Bx.new 75 wr #[.int .i64 xo, .int .i64 xl, .int .i64 xi])
          have CSt := Lib.hid (HSTEP.out xo xl xi _ (HP.out.below bw) (HU.out.below bw))
          obtain ⟨w5, hw5⟩ : ∃ w5, w5 = wr.alloc (.cells #[.int .i64 xo, .int .i64 xl, .int .i64 xi] 75) := ⟨_, rfl⟩
          rw [← hw5] at GA KA BA HBX CSt
          have HW5 := Lib.hid hw5
          clear al bw hw5
          by_cases h5 : xl = 5
          · subst h5
            have f5 := F5.out rfl
            rw [List.append_nil] at f5
            have HF1 := Lib.hid f5.1
            have HF2 := Lib.hid f5.2
            rw [S5.out rfl, List.append_nil] at QN PN
            clear f5 F5 F4 S5 DN CSt
            have CK := Lib.hid (key_c xo 5 xi w5)
            go_wp2_with fail
            rw [← HW5.out]
            refine CK.out.mono ?_
            rintro e w6 ⟨rfl, b6⟩
            have b7 := alloc_below w6 (.cells #[.int .i64 xo, .int .i64 xi] 32)
            have g6 := (GA.out.below b6).below b7
            have k6 := (KA.out.below b6).below b7
            have bx6 := bn (bn BA.out b6) b7
            obtain ⟨A', C', w7, run7, k7, gr7, ob7⟩ := P.kapp_run (fndK X a) [(xo, xi)] _ _ _ 41 w.heap.size k6 (P.KRd.one w6 xo xi 32) (by simp only [List.length_singleton]; omega) bx6.size
            simp only [List.length_append, List.length_singleton] at run7 k7 ob7
            have HR := Lib.hid run7
            have HG7 := Lib.hid (g6.far gr7 (fun g hg e => AP.out g e hg))
            have HK7 : Hid (P.KRow w7 w.heap.size (.slice A' ((fndK X a).length + 1) C') (fndK X (a + 1))) := Lib.hid (by rw [HF1.out]; exact k7)
            have HB7 : Hid (Below w.heap.size w w7) := Lib.hid (bx6.trans (D.below_of_grown gr7 bx6.size (fun g hg => (World.ownsRow.lt k6 g hg).1)))
            have HA7 : Hid (Apart (.slice (some ⟨g, 0, none⟩) X.length C) (.slice A' ((fndK X a).length + 1) C')) := Lib.hid (fun g hg e => by
              rcases ob7 with ob7 | ob7
              · exact AP.out g hg (ob7.symm.trans e)
              · have h1 := (World.ownsRow.lt g6 g hg).2
                have h2 := Option.some.inj (ob7.symm.trans e)
                omega)
            clear run7 k7 gr7 ob7 b6 b7 g6 k6 bx6 CK
            go_wp2_with (at_builtin; refine D.wpList_append_run rfl _ _ 41 rfl _ _ HR.out ?_; clear HR)
            go_roundw
            case rel => exact ⟨X, a + 1, HA.out, hX, by go_num, by rw [HF2.out], HG7, HK7, HA7, QN, PN, DX, HB7⟩
            case measure => have := HA.out; simp [RowKit.intOf]; omega
          · have f4 := F4.out h5
            have HF1 := Lib.hid f4.1
            have HF2 := Lib.hid f4.2
            have hbe : (xl == 5) = false := by simpa using h5
            have hpl := pot_len PN.out
            rw [List.length_append] at hpl
            clear f4 F5 F4 S5 h5
            go_wp2_with fail
            rw [← HW5.out]
            refine CSt.out.mono ?_
            rintro e w6 ⟨ad, cap, rfl, s6, b6⟩
            have g6 := GA.out.below b6
            have k6 := KA.out.below b6
            have bx6 := bn BA.out b6
            obtain ⟨A', C', w7, run7, r7, gr7, ob7⟩ := gapps_run X (stepL Df (xo, xl, xi)) _ ad cap w.heap.size w6 76 g6 (fun k hk => s6.at k hk) (by omega) bx6.size
            have HR := Lib.hid run7
            have HG7 := Lib.hid r7
            have HK7 : Hid (P.KRow w7 w.heap.size (.slice K (fndK X a).length M) (fndK (X ++ stepL Df (xo, xl, xi)) (a + 1))) := Lib.hid (by rw [HF1.out]; exact krow_far k6 gr7 (fun g hg => AP.out g hg))
            have HB7 : Hid (Below w.heap.size w w7) := Lib.hid (bx6.trans (D.below_of_grown gr7 bx6.size (fun g hg => (World.ownsRow.lt g6 g hg).1)))
            have HA7 : Hid (Apart (.slice A' (X ++ stepL Df (xo, xl, xi)).length C') (.slice K (fndK X a).length M)) := Lib.hid (fun g hg e => by
              rcases ob7 with ob7 | ob7
              · exact AP.out g (ob7.symm.trans hg) e
              · have h1 := (World.ownsRow.lt k6 g e).2
                have h2 := Option.some.inj (ob7.symm.trans hg)
                omega)
            have hlen : a + 1 ≤ (X ++ stepL Df (xo, xl, xi)).length ∧ (X ++ stepL Df (xo, xl, xi)).length ≤ 10920 := by rw [List.length_append]; omega
            have HLEN := Lib.hid hlen
            clear run7 r7 gr7 ob7 b6 g6 k6 bx6 CSt s6 hlen
            generalize X ++ stepL Df (xo, xl, xi) = X' at *
            go_wp2_with (at_builtin; refine D.wpList_append_run rfl _ _ 76 rfl _ _ HR.out ?_; clear HR)
            go_roundw
            case rel => exact ⟨X', a + 1, HLEN.out.1, HLEN.out.2, by go_num, by rw [HF2.out]; go_num, HG7, HK7, HA7, QN, PN, DN, HB7⟩
            case measure => have := HA.out; simp [RowKit.intOf]; omega
        · obtain rfl : a = X.length := by omega
          have he := fnd_end X j
          have hf := HFE.out X QX.out (fun r hr => HDP.out r (DX.out r hr))
          have e1 : fndK X X.length = findK Df j := he.1.trans hf.1
          have e2 : fndN X X.length j = findN Df j := he.2.trans hf.2
          rw [e1] at KX
          rw [e1, e2]
          clear he hf e1 e2
          go_wp2_with fail
          go_ret2
          exact ⟨K, M, rfl, KX.out, BX.out⟩
end Go.Proofs.YtchkadifjbmmpaaDoor
namespace Go.Proofs.YtchkadifjbmmpaaDoor
open Go.RowKit Go.Lib Go.Maps
set_option maxRecDepth 100000
set_option linter.unusedSimpArgs false

def zeroQ : R.Rc := ⟨0, 0, 0, 0, ⟨#[]⟩⟩
/-- What Get tells. -/
def GetZ (S : Sb) (k : Ky) (r : R.Rc) (b : Bool) : Prop :=
  (b = true ∧ R.mayR r = true ∧ kyR r = k ∧ (k, R.layL r) ∈ S) ∨ (b = false ∧ k ∉ S.map Prod.fst ∧ r = zeroQ)
theorem getz_parts (p mb : Nat) (T : List Kb) (own : Nat → Prop) (k : Ky) (w : World) (h : TrIn w p mb T own) (hS : ∀ x ∈ T.map kbs, ∃ r, R.mayR r = true ∧ x = (kyR r, R.layL r)) (ho : okKy k) (hT : R.Tabs w) :
    ∃ v r n b, (∀ W, Below w.heap.size w W → (Instr.lookup 82 (.map (some mb)) (kyv k) false).run Tryd.prog W = .ok v W) ∧
      (∀ W, Below w.heap.size w W → Calls Tryd.prog 56 #[v, .int .i64 0] W fun e w' => e = .returned (.tuple #[.agg #[.int .i64 r.o, .int .i64 r.s, .int .i64 r.w, .int .i64 r.c, .string r.t], .int .i64 n, .bool b]) ∧ Below W.heap.size W w') ∧ GetZ (T.map kbs) k r b := by
  by_cases hin : k ∈ T.map Kb.k
  · obtain ⟨x, hx, rfl⟩ := List.mem_map.1 hin
    obtain ⟨r, hm, e⟩ := hS _ (List.mem_map_of_mem hx)
    simp only [kbs, Prod.mk.injEq] at e
    obtain ⟨ek, eb⟩ := e
    have hat := R.lay_at r [] [] hm
    simp only [List.nil_append, List.append_nil, List.length_nil] at hat
    refine ⟨x.v, r, (0 : Int) + 12 + (r.t.size : Int), true, fun W hW => ((h.below hW).yes hx ho).2, fun W hW => ?_, .inl ⟨rfl, hm, ek.symm, ?_⟩⟩
    · have hr := (h.below hW).tr x hx
      rw [eb] at hr
      have hl : (R.layL r).length ≤ 1000 := by rw [← eb]; exact (h.tl x hx).2
      refine (R.read_c (R.layL r) x.v 0 W (R.BRow.blc hr) (R.layL_ok r) (by omega) (by omega) (hT.below hW)).mono ?_
      intro e w' he
      unfold R.readT at he
      rw [show R.atOk (R.layL r) 0 = true from hat.1, if_pos rfl] at he
      obtain ⟨he1, he2⟩ := he
      rw [show R.rdR ((R.layL r).drop (0 : Int).toNat) = r from hat.2.1, show R.hdN ((R.layL r).drop (0 : Int).toNat) = (r.t.size : Int) from hat.2.2] at he1
      exact ⟨he1, he2⟩
    · rw [← eb]
      exact List.mem_map.2 ⟨x, hx, rfl⟩
  · refine ⟨.slice none 0 0, zeroQ, 0, false, fun W hW => ((h.below hW).no ho hin).2, fun W hW => ?_, .inr ⟨rfl, by rw [kbs_fst]; exact hin, rfl⟩⟩
    refine (R.read_c [] (.slice none 0 0) 0 W ⟨none, 0, rfl, Nat.le_refl _, fun h0 => by simp at h0⟩ (fun x hx => by cases hx) (by simp) (by omega) (hT.below hW)).mono ?_
    intro e w' he
    unfold R.readT at he
    rw [show R.atOk [] 0 = false from by decide, if_neg (by decide)] at he
    exact he
theorem resz2 {fn : Func} (h : fn.results = #[.cell 4 36, .tmp 5]) (tmps : Array Value) (g : Nat) (hp : tmps.getD 4 undef = .pointer (some ⟨g, 0, none⟩)) (a b c d e : Value) (w : World) (hx : R.Bx 36 w g #[a, b, c, d, e]) :
    (results fn tmps).run Tryd.prog w = .ok (.tuple #[.agg #[a, b, c, d, e], tmps.getD 5 undef]) w := by
  have aR := Tryd.isAgg36
  have zR := Tryd.sizeOf36
  obtain ⟨c0, c1, c2, c3, c4⟩ := hx.five
  rw [Array.getD_eq_getD_getElem?] at hp
  simp [results, h, hp, go_sem, aR, zR, c0, c1, c2, c3, c4]
set_option maxHeartbeats 32000000 in
theorem getz_c (p : Nat) (S : Sb) (own : Nat → Prop) (o s : Int) (w : World) (h : Tr w p S own) (hS : ∀ x ∈ S, ∃ r, R.mayR r = true ∧ x = (kyR r, R.layL r)) (ho : okKy (o, s)) (hT : R.Tabs w) :
    Calls Tryd.prog 31 #[.pointer (some ⟨p, 0, none⟩), .agg #[.int .i64 o, .int .i64 s]] w fun e w' => ∃ r b, e = .returned (.tuple #[.agg #[.int .i64 r.o, .int .i64 r.s, .int .i64 r.w, .int .i64 r.c, .string r.t], .bool b]) ∧ GetZ S (o, s) r b ∧ Below w.heap.size w w' := by
  have mixed : Tryd.prog.follows .mixedOrders = true := by kernel_rfl
  obtain ⟨mb, T, hx, rfl⟩ := h
  obtain ⟨v, r, n, b, h1, h2, h3⟩ := getz_parts p mb T own (o, s) w hx hS ho hT
  obtain ⟨w2, hw2⟩ : ∃ w2, w2 = (w.alloc (.cells #[.int .i64 o, .int .i64 s] 32)).alloc (.cells #[.int .i64 0, .int .i64 0, .int .i64 0, .int .i64 0, .string ⟨#[]⟩] 36) := ⟨_, rfl⟩
  have b2 : Below w.heap.size w w2 := by rw [hw2]; exact bn (alloc_below _ _) (alloc_below _ _)
  have k2 : R.Bx 32 w2 w.heap.size #[.int .i64 o, .int .i64 s] := by rw [hw2]; exact (R.Bx.new _ _ _).alloc _
  have z2 : R.Bx 36 w2 (w.heap.size + 1) #[.int .i64 0, .int .i64 0, .int .i64 0, .int .i64 0, .string ⟨#[]⟩] := by
    rw [hw2]
    have := R.Bx.new 36 (w.alloc (.cells #[.int .i64 o, .int .i64 s] 32)) #[.int .i64 0, .int .i64 0, .int .i64 0, .int .i64 0, .string ⟨#[]⟩]
    rwa [World.size_alloc] at this
  have HSC : Hid (∀ W, Below w2.heap.size w2 W → W.cell? ⟨p, 0, none⟩ = some (.map (some mb)) ∧ W.cell? ⟨w.heap.size, 0, none⟩ = some (.int .i64 o) ∧ W.cell? ⟨w.heap.size, 1, none⟩ = some (.int .i64 s) ∧ (Instr.lookup 82 (.map (some mb)) (.agg #[.int .i64 o, .int .i64 s]) false).run Tryd.prog W = .ok v W) := Lib.hid (fun W hW => ⟨(hx.bx.below (bn b2 hW)).map, (k2.below hW).cell 0, (k2.below hW).cell 1, h1 W (bn b2 hW)⟩)
  have HRD : Hid (∀ W, Below w2.heap.size w2 W → Calls Tryd.prog 56 #[v, .int .i64 0] W fun e w' => e = .returned (.tuple #[.agg #[.int .i64 r.o, .int .i64 r.s, .int .i64 r.w, .int .i64 r.c, .string r.t], .int .i64 n, .bool b]) ∧ Below W.heap.size W w') := Lib.hid (fun W hW => h2 W (bn b2 hW))
  have HG := Lib.hid h3
  have HB2 := Lib.hid b2
  have HZ2 := Lib.hid z2
  have HW2 := Lib.hid hw2
  clear hx hS ho hT h1 h2 h3 hw2 b2 k2 z2
  go_enter Tryd.func31, Tryd.ntmps31
  go_wp2_with fail
  rw [← HW2.out]
  clear HW2
  obtain ⟨p0, k0, k1, hlk⟩ := HSC.out w2 (Below.refl _ _)
  have hlk1 := (HSC.out w2.drew (Below.refl _ _).drew).2.2.2
  have hlk2 := (HSC.out _ (alloc_below w2 (.cells #[.int .i64 0, .int .i64 0, .int .i64 0, .int .i64 0, .string ⟨#[]⟩] 36))).2.2.2
  have hlk3 := (HSC.out _ (below_da w2 (.cells #[.int .i64 0, .int .i64 0, .int .i64 0, .int .i64 0, .string ⟨#[]⟩] 36))).2.2.2
  have hlk4 := (HSC.out _ (alloc_below w2 (.cells #[.int .i64 0, .int .i64 0, .int .i64 0, .int .i64 0, .string ⟨#[]⟩] 36)).drew).2.2.2
  have hlp := World.block_lt_of_cell? _ _ p0
  have hlkk := World.block_lt_of_cell? _ _ k0
  clear HSC
  go_region_with (first
    | (go_at_call 56; refine (HRD.out _ (by first | exact alloc_below _ _ | exact (alloc_below _ _).drew | exact below_da _ _)).mono ?_; rintro e wR ⟨rfl, bR0⟩; have zR : R.Bx 36 wR w2.heap.size #[.int .i64 0, .int .i64 0, .int .i64 0, .int .i64 0, .string ⟨#[]⟩] := (by first | exact R.Bx.below (R.Bx.new _ w2 _) bR0 | exact R.Bx.below (w := (w2.alloc _).drew) (R.Bx.new _ w2 _) bR0 | exact R.Bx.below (R.Bx.new _ w2.drew _) bR0); have bR : Below w2.heap.size w2 wR := (by first | exact bn (alloc_below _ _) bR0 | exact bn (alloc_below _ _).drew bR0 | exact bn (below_da _ _) bR0); obtain ⟨c0, c1, c2, c3, c4⟩ := zR.five; have f0 := zR.soft 0; have f1 := zR.soft 1; have f2 := zR.soft 2; have f3 := zR.soft 3; have f4 := zR.soft 4; have hlz := zR.lt)
    | (go_at_call 56; refine (HRD.out _ (by first | exact (Below.refl _ _).drew | exact Below.refl _ _)).mono ?_; rintro e wR ⟨rfl, bR0⟩; have bR : Below w2.heap.size w2 wR := (by first | exact bn (Below.refl _ _).drew bR0 | exact bR0)))
  all_goals first
    | (
      obtain ⟨W5, hW5⟩ : ∃ W5, W5 = ((((wR.setCell ⟨w2.heap.size, 0, none⟩ (.int .i64 r.o)).setCell ⟨w2.heap.size, 1, none⟩ (.int .i64 r.s)).setCell ⟨w2.heap.size, 2, none⟩ (.int .i64 r.w)).setCell ⟨w2.heap.size, 3, none⟩ (.int .i64 r.c)).setCell ⟨w2.heap.size, 4, none⟩ (.string r.t) := ⟨_, rfl⟩
      have x5 : R.Bx 36 W5 w2.heap.size #[.int .i64 r.o, .int .i64 r.s, .int .i64 r.w, .int .i64 r.c, .string r.t] := by rw [hW5]; exact R.zero_five zR _ _ _ _ _
      have b5 : Below w2.heap.size w2 W5 := by rw [hW5]; exact R.below_five bR (Nat.le_refl _) _ _ _ _ _
      rw [← hW5]
      obtain ⟨r0, r1, r2, r3, r4⟩ := x5.five
      have hl5 := x5.lt
      have HZ5 := Lib.hid (HZ2.out.below b5)
      have HB5 : Hid (Below w.heap.size w W5) := Lib.hid (bn HB2.out b5)
      clear hW5 x5 b5 HRD
      obtain ⟨z0, z1, z2, z3, z4⟩ := HZ5.out.five
      have g0 := HZ5.out.soft 0
      have g1 := HZ5.out.soft 1
      have g2 := HZ5.out.soft 2
      have g3 := HZ5.out.soft 3
      have g4 := HZ5.out.soft 4
      have hlz5 := HZ5.out.lt
      go_wp2_with fail
      exact bodyPost_ret (resz2 Tryd.results31 _ (w.heap.size + 1) rfl _ _ _ _ _ _ (R.zero_five HZ5.out _ _ _ _ _)) rfl ⟨r, b, rfl, HG.out, R.below_five HB5.out (Nat.le_succ _) _ _ _ _ _⟩)
    | (
      obtain ⟨W5, hW5⟩ : ∃ W5, W5 = wR.alloc (.cells #[.int .i64 r.o, .int .i64 r.s, .int .i64 r.w, .int .i64 r.c, .string r.t] 36) := ⟨_, rfl⟩
      have x5 : R.Bx 36 W5 wR.heap.size #[.int .i64 r.o, .int .i64 r.s, .int .i64 r.w, .int .i64 r.c, .string r.t] := by rw [hW5]; exact R.Bx.new _ wR _
      have b5 : Below w2.heap.size w2 W5 := by rw [hW5]; exact bn bR (alloc_below _ _)
      rw [← hW5]
      obtain ⟨r0, r1, r2, r3, r4⟩ := x5.five
      have hl5 := x5.lt
      have HZ5 := Lib.hid (HZ2.out.below b5)
      have HB5 : Hid (Below w.heap.size w W5) := Lib.hid (bn HB2.out b5)
      clear hW5 x5 b5 HRD
      obtain ⟨z0, z1, z2, z3, z4⟩ := HZ5.out.five
      have g0 := HZ5.out.soft 0
      have g1 := HZ5.out.soft 1
      have g2 := HZ5.out.soft 2
      have g3 := HZ5.out.soft 3
      have g4 := HZ5.out.soft 4
      have hlz5 := HZ5.out.lt
      go_wp2_with fail
      exact bodyPost_ret (resz2 Tryd.results31 _ (w.heap.size + 1) rfl _ _ _ _ _ _ (R.zero_five HZ5.out _ _ _ _ _)) rfl ⟨r, b, rfl, HG.out, R.below_five HB5.out (Nat.le_succ _) _ _ _ _ _⟩)
end Go.Proofs.YtchkadifjbmmpaaDoor
namespace Go.Proofs.YtchkadifjbmmpaaDoor
open Go.RowKit Go.Lib Go.Maps
set_option maxRecDepth 100000
set_option linter.unusedSimpArgs false

/-- What is kept is laid by records, each Key once. -/
structure Kept (S : Sb) : Prop where
  laid : ∀ x ∈ S, ∃ r, R.mayR r = true ∧ x = (kyR r, R.layL r)
  nd : (S.map Prod.fst).Nodup
def bytesAt (S : Sb) (k : Ky) : Option (List Int) := (S.find? (fun x => decide (x.1 = k))).map Prod.snd
/-- Whether two have the same of a Key. -/
def recB (S V : Sb) (k : Ky) : Bool := decide (bytesAt S k = bytesAt V k)
theorem bytes_in {S : Sb} (hS : (S.map Prod.fst).Nodup) {k : Ky} {bs : List Int} (h : (k, bs) ∈ S) : bytesAt S k = some bs := by
  induction S with
  | nil => cases h
  | cons a S ih =>
    rw [List.map_cons, List.nodup_cons] at hS
    unfold bytesAt
    by_cases ha : a.1 = k
    · rw [List.find?_cons_of_pos (by simpa using ha)]
      rcases List.mem_cons.1 h with h | h
      · rw [← h]
        rfl
      · exact absurd (ha ▸ List.mem_map_of_mem (f := Prod.fst) h) hS.1
    · rw [List.find?_cons_of_neg (by simpa using ha)]
      rcases List.mem_cons.1 h with h | h
      · exact absurd (by rw [← h]) ha
      · exact ih hS.2 h
theorem bytes_no {S : Sb} {k : Ky} (h : k ∉ S.map Prod.fst) : bytesAt S k = none := by
  unfold bytesAt
  have : S.find? (fun x => decide (x.1 = k)) = none := by
    rw [List.find?_eq_none]
    intro x hx hd
    rw [decide_eq_true_eq] at hd
    exact h (hd ▸ List.mem_map_of_mem hx)
  rw [this]
  rfl
theorem layed_eq {a b : R.Rc} (ha : R.mayR a = true) (hb : R.mayR b = true) (h : R.layL a = R.layL b) : a = b := by
  have h1 := (R.lay_read a [] ha).1
  have h2 := (R.lay_read b [] hb).1
  rw [h] at h1
  exact h1.symm.trans h2
theorem rec_tell {S V : Sb} (hS : Kept S) (hV : Kept V) {k : Ky} {r x : R.Rc} {b c : Bool} (h1 : GetZ S k r b) (h2 : GetZ V k x c) : ((b == c) && R.sameR r x) = recB S V k := by
  unfold recB
  rcases h1 with ⟨rfl, hm, _, hin⟩ | ⟨rfl, hn, rfl⟩
  · rcases h2 with ⟨rfl, hm2, _, hin2⟩ | ⟨rfl, hn2, rfl⟩
    · rw [bytes_in hS.nd hin, bytes_in hV.nd hin2]
      by_cases he : r = x
      · subst he
        simp [R.same_self]
      · have h3 : R.sameR r x = false := by
          cases hs : R.sameR r x with
          | false => rfl
          | true => exact absurd ((R.sameR_iff r x).1 hs) he
        rw [h3]
        have h4 : ¬ some (R.layL r) = some (R.layL x) := fun e => he (layed_eq hm hm2 (Option.some.inj e))
        simpa using h4
    · rw [bytes_in hS.nd hin, bytes_no hn2]
      simp
  · rcases h2 with ⟨rfl, hm2, _, hin2⟩ | ⟨rfl, hn2, rfl⟩
    · rw [bytes_no hn, bytes_in hV.nd hin2]
      simp
    · rw [bytes_no hn, bytes_no hn2]
      simp [R.same_self]
set_option maxHeartbeats 16000000 in
theorem samerec_c (p u : Nat) (S V : Sb) (ot ou : Nat → Prop) (o s : Int) (w : World) (hp : Tr w p S ot) (hu : Tr w u V ou) (hS : Kept S) (hV : Kept V) (ho : okKy (o, s)) (hT : R.Tabs w) :
    Calls Tryd.prog 75 #[.pointer (some ⟨p, 0, none⟩), .pointer (some ⟨u, 0, none⟩), .agg #[.int .i64 o, .int .i64 s]] w fun e w' => e = .returned (.bool (recB S V (o, s))) ∧ Below w.heap.size w w' := by
  have mixed : Tryd.prog.follows .mixedOrders = true := by kernel_rfl
  have al := alloc_below w (.cells #[.int .i64 o, .int .i64 s] 32)
  have HB := Lib.hid (R.Bx.new 32 w #[.int .i64 o, .int .i64 s])
  have C1 := Lib.hid (fun W (hb : Below w.heap.size w W) => getz_c p S ot o s W (hp.below hb) hS.laid ho (hT.below hb))
  have C2 := Lib.hid (fun W (hb : Below w.heap.size w W) => getz_c u V ou o s W (hu.below hb) hV.laid ho (hT.below hb))
  have HR := Lib.hid (fun r x b c h1 h2 => rec_tell (k := (o, s)) (r := r) (x := x) (b := b) (c := c) hS hV h1 h2)
  have AL := Lib.hid al
  obtain ⟨w1, hw1⟩ : ∃ w1, w1 = w.alloc (.cells #[.int .i64 o, .int .i64 s] 32) := ⟨_, rfl⟩
  rw [← hw1] at HB AL
  have HW := Lib.hid hw1
  clear hp hu hS hV ho hT al hw1
  go_enter Tryd.func75, Tryd.ntmps75
  go_wp2_with fail
  rw [← HW.out]
  refine (C1.out w1 AL.out).mono ?_
  rintro e w2 ⟨r, b, rfl, g1, b2⟩
  have G1 := Lib.hid g1
  have B2 := Lib.hid (bn AL.out b2)
  have al3 := alloc_below w2 (.cells #[.int .i64 r.o, .int .i64 r.s, .int .i64 r.w, .int .i64 r.c, .string r.t] 36)
  have k2 := (HB.out.below b2).below al3
  have HK := Lib.hid k2
  have kk := HB.out.below b2
  have k0 := kk.cell 0
  have k1 := kk.cell 1
  simp only [List.getElem?_toArray, List.getElem?_cons_succ, List.getElem?_cons_zero] at k0 k1
  have hl := kk.lt
  have B3 := Lib.hid (bn B2.out al3)
  have X3 := Lib.hid (R.Bx.new 36 w2 #[.int .i64 r.o, .int .i64 r.s, .int .i64 r.w, .int .i64 r.c, .string r.t])
  obtain ⟨w3, hw3⟩ : ∃ w3, w3 = w2.alloc (.cells #[.int .i64 r.o, .int .i64 r.s, .int .i64 r.w, .int .i64 r.c, .string r.t] 36) := ⟨_, rfl⟩
  rw [← hw3] at B3 X3 HK
  have HW3 := Lib.hid hw3
  clear g1 b2 al3 k2 hw3 kk
  go_wp2_with fail
  rw [← HW3.out]
  refine (C2.out w3 B3.out).mono ?_
  rintro e w4 ⟨x, c, rfl, g2, b4⟩
  have HG := Lib.hid (HR.out r x b c G1.out g2)
  have B4 := Lib.hid (bn B3.out b4)
  have x4 := X3.out.below b4
  obtain ⟨r0, r1, r2, r3, r4⟩ := x4.five
  have hl1 := x4.lt
  have X4 := Lib.hid x4
  have al5 := alloc_below w4 (.cells #[.int .i64 x.o, .int .i64 x.s, .int .i64 x.w, .int .i64 x.c, .string x.t] 36)
  have X5 := Lib.hid (R.Bx.new 36 w4 #[.int .i64 x.o, .int .i64 x.s, .int .i64 x.w, .int .i64 x.c, .string x.t])
  have Y5 := Lib.hid (X4.out.below al5)
  have B5 := Lib.hid (bn B4.out al5)
  obtain ⟨w5, hw5⟩ : ∃ w5, w5 = w4.alloc (.cells #[.int .i64 x.o, .int .i64 x.s, .int .i64 x.w, .int .i64 x.c, .string x.t] 36) := ⟨_, rfl⟩
  rw [← hw5] at B5 X5 Y5
  have HW5 := Lib.hid hw5
  clear g2 b4 al5 hw5 x4
  cases b <;> cases c
  all_goals
    simp only [Bool.true_and, Bool.false_and, beq_self_eq_true, show ((false == true) = false) from rfl, show ((true == false) = false) from rfl] at HG
    first
    | (go_wp2_with fail
       rw [← HW5.out]
       refine (R.same_c r x w5).mono ?_
       rintro e w6 ⟨rfl, b6⟩
       rw [HG.out]
       go_wp2_with fail
       go_ret
       exact ⟨rfl, bn B5.out b6⟩)
    | (go_wp2_with fail
       rw [← HW5.out]
       go_ret
       exact ⟨by rw [← HG.out]; rfl, B5.out⟩)
/-- Whether a range hides what differs. -/
def hidB (S V : Sb) (r : Rg) : Bool := !difB S V r && (if r.2.1 = 5 then !recB S V (keyF r) else (partsR r).any (difB S V))
theorem bound_c (n : Nat) (w : World) (hn : n ≤ 100000) : Calls Tryd.prog 41 #[.int .i64 (n : Int)] w fun e w' => e = .returned (.int .i64 (8 + (n : Int) * 4 * 5)) ∧ w' = w := by
  go_enter Tryd.func41, Tryd.ntmps41
  go_wp2
  go_ret
  exact ⟨rfl, rfl⟩
set_option maxHeartbeats 16000000 in
theorem hides_c (p u : Nat) (S V : Sb) (ot ou : Nat → Prop) (o l i : Nat) (w : World) (hp : Tr w p S ot) (hu : Tr w u V ou) (hS : Kept S) (hV : Kept V) (ho : o < 8) (hl : l ≤ 5) (hi : i < 1024) (hT : R.Tabs w) :
    Calls Tryd.prog 61 #[.pointer (some ⟨p, 0, none⟩), .pointer (some ⟨u, 0, none⟩), .agg #[.int .i64 (o : Int), .int .i64 (l : Int), .int .i64 (i : Int)]] w fun e w' => e = .returned (.bool (hidB S V ((o : Int), (l : Int), (i : Int)))) ∧ Below w.heap.size w w' := by
  have mixed : Tryd.prog.follows .mixedOrders = true := by kernel_rfl
  have al := alloc_below w (.cells #[.int .i64 (o : Int), .int .i64 (l : Int), .int .i64 (i : Int)] 75)
  have HB := Lib.hid (R.Bx.new 75 w #[.int .i64 (o : Int), .int .i64 (l : Int), .int .i64 (i : Int)])
  have CD := Lib.hid (fun a b c W (hb : Below w.heap.size w W) => differ_c p u S V ot ou a b c W (hp.below hb) (hu.below hb))
  have hok : okKy ((o : Int), (i : Int)) := ⟨⟨by simp only; omega, by simp only; omega⟩, ⟨by simp only; omega, by simp only; omega⟩⟩
  have CR := Lib.hid (fun W (hb : Below w.heap.size w W) => samerec_c p u S V ot ou (o : Int) (i : Int) W (hp.below hb) (hu.below hb) hS hV hok (hT.below hb))
  have CK := Lib.hid (fun W => key_c (o : Int) (l : Int) (i : Int) W)
  have CP := Lib.hid (fun W => parts_c (o : Int) l i W hl hi)
  have AL := Lib.hid al
  obtain ⟨w1, hw1⟩ : ∃ w1, w1 = w.alloc (.cells #[.int .i64 (o : Int), .int .i64 (l : Int), .int .i64 (i : Int)] 75) := ⟨_, rfl⟩
  rw [← hw1] at HB AL
  have HW := Lib.hid hw1
  have HH : Hid (hidB S V ((o : Int), (l : Int), (i : Int)) = (!difB S V ((o : Int), (l : Int), (i : Int)) && (if (l : Int) = 5 then !recB S V ((o : Int), (i : Int)) else (partsR ((o : Int), (l : Int), (i : Int))).any (difB S V)))) := Lib.hid rfl
  have hpl := partsR_len ((o : Int), (l : Int), (i : Int))
  generalize hidB S V ((o : Int), (l : Int), (i : Int)) = ans at *
  generalize partsR ((o : Int), (l : Int), (i : Int)) = ps at *
  generalize recB S V ((o : Int), (i : Int)) = rb at *
  generalize difB S V = Df at *
  clear hp hu hS hV hT al hw1 hok hi ho
  cases hd : Df ((o : Int), (l : Int), (i : Int)) with
  | true =>
    rw [hd] at HH
    have C1 := Lib.hid (CD.out (o : Int) (l : Int) (i : Int) w1 AL.out)
    rw [hd] at C1
    go_enter Tryd.func61, Tryd.ntmps61
    go_wp2_with fail
    rw [← HW.out]
    refine C1.out.mono ?_
    rintro e w2 ⟨rfl, b2⟩
    go_wp2_with fail
    go_ret
    exact ⟨by rw [HH.out]; rfl, bn AL.out b2⟩
  | false =>
    rw [hd] at HH
    have C1 := Lib.hid (CD.out (o : Int) (l : Int) (i : Int) w1 AL.out)
    rw [hd] at C1
    clear hd
    by_cases h5 : (l : Int) = 5
    · rw [if_pos h5] at HH
      have hbe : ((l : Int) == 5) = true := by simpa using h5
      clear h5 hl
      go_enter Tryd.func61, Tryd.ntmps61
      go_wp2_with fail
      rw [← HW.out]
      refine C1.out.mono ?_
      rintro e w2 ⟨rfl, b2⟩
      have hb := HB.out.below b2
      have r0 := hb.cell 0
      have r1 := hb.cell 1
      have r2 := hb.cell 2
      simp only [List.getElem?_toArray, List.getElem?_cons_succ, List.getElem?_cons_zero] at r0 r1 r2
      have hlt := hb.lt
      have B2 := Lib.hid (bn AL.out b2)
      clear b2 hb
      go_wp2_with fail
      refine (CK.out w2).mono ?_
      rintro e w3 ⟨rfl, b3⟩
      have B3 := Lib.hid (bn B2.out b3)
      clear b3
      go_wp2_with fail
      refine (CR.out w3 B3.out).mono ?_
      rintro e w4 ⟨rfl, b4⟩
      go_wp2_with fail
      go_ret
      exact ⟨by rw [HH.out]; rfl, bn B3.out b4⟩
    · rw [if_neg h5] at HH
      have hbe : ((l : Int) == 5) = false := by simpa using h5
      clear h5
      go_enter Tryd.func61, Tryd.ntmps61
      go_wp2_with fail
      rw [← HW.out]
      refine C1.out.mono ?_
      rintro e w2 ⟨rfl, b2⟩
      have hb := HB.out.below b2
      have r0 := hb.cell 0
      have r1 := hb.cell 1
      have r2 := hb.cell 2
      simp only [List.getElem?_toArray, List.getElem?_cons_succ, List.getElem?_cons_zero] at r0 r1 r2
      have hlt := hb.lt
      have B2 := Lib.hid (bn AL.out b2)
      clear b2 hb
      go_wp2_with fail
      refine (CP.out w2).mono ?_
      rintro e w3 ⟨g, rfl, g3, b3⟩
      have B3 := Lib.hid (bn B2.out b3)
      have G3 := Lib.hid (g3.mono (Nat.zero_le _))
      have W3 : Hid (Below w3.heap.size w3 w3) := Lib.hid (Below.refl _ _)
      have N3 : Hid ((ps.drop 0).any Df = ans) := Lib.hid (by rw [HH.out]; rfl)
      clear b3 g3 r0 r1 r2 hlt HH
      go_wp2_with fail
      go_loopw [25] (fun v25 wr => ∃ j : Nat, j ≤ 4 ∧ v25 = .int .i64 (j : Int) ∧ Hid ((ps.drop j).any Df = ans) ∧ Hid (Below w3.heap.size w3 wr)) (fun v25 _ => 4 - (RowKit.intOf v25).toNat)
      case atStart => exact ⟨0, by omega, rfl, N3, W3⟩
      case round =>
        obtain ⟨j, hj, rfl, NJ, BJ⟩ := hrel
        clear N3 W3
        by_cases hp : j < 4
        · have HJ := Lib.hid hp
          have hjl : j < ps.length := by omega
          obtain ⟨g', e, x0, x1, x2⟩ := (G3.out.below BJ.out).at j hjl
          obtain rfl : g = g' := by injection e with e; injection e
          have hgl := World.block_lt_of_cell? _ _ x0
          have hnj := NJ.out
          rw [List.drop_eq_getElem_cons hjl, List.any_cons] at hnj
          have HNJ := Lib.hid hnj
          clear e hnj
          generalize ps[j] = x at *
          obtain ⟨xo, xl, xi⟩ := x
          simp only at x0 x1 x2
          have al := alloc_below wr (.cells #[.int .i64 xo, .int .i64 xl, .int .i64 xi] 75)
          have bw := bn (bn B3.out BJ.out) al
          have C2 := Lib.hid (CD.out xo xl xi _ bw)
          have BW := Lib.hid bw
          have BA := Lib.hid (bn BJ.out al)
          obtain ⟨w5, hw5⟩ : ∃ w5, w5 = wr.alloc (.cells #[.int .i64 xo, .int .i64 xl, .int .i64 xi] 75) := ⟨_, rfl⟩
          rw [← hw5] at C2 BW BA
          have HW5 := Lib.hid hw5
          clear al bw hw5
          go_wp2_with fail
          rw [← HW5.out]
          cases hd : Df (xo, xl, xi) with
          | false =>
            rw [hd] at HNJ C2
            refine C2.out.mono ?_
            rintro e w6 ⟨rfl, b6⟩
            go_wp2_with fail
            go_roundw
            case rel => exact ⟨j + 1, HJ.out, by go_num, Lib.hid (by rw [← HNJ.out]; rfl), Lib.hid (bn BA.out b6)⟩
            case measure => have := HJ.out; simp [RowKit.intOf]; omega
          | true =>
            rw [hd] at HNJ C2
            refine C2.out.mono ?_
            rintro e w6 ⟨rfl, b6⟩
            go_wp2_with fail
            go_ret
            exact ⟨by rw [← HNJ.out]; rfl, bn BW.out b6⟩
        · obtain rfl : j = 4 := by omega
          have HE : Hid (ans = false) := Lib.hid (by rw [← NJ.out, ← hpl, List.drop_length]; rfl)
          go_wp2_with fail
          go_ret
          exact ⟨by rw [HE.out]; rfl, bn B3.out BJ.out⟩
end Go.Proofs.YtchkadifjbmmpaaDoor
namespace Go.Proofs.YtchkadifjbmmpaaDoor
open Go.RowKit Go.Lib Go.Maps
set_option maxRecDepth 100000
set_option linter.unusedSimpArgs false

/-- Whether some range hides what differs. -/
def clashB (S V : Sb) (n : Nat) : Bool := (List.range 6).any fun k => (allR n k).any (hidB S V)
theorem clash_yes {S V : Sb} {n k : Nat} {r : Rg} (hk : k ≤ 5) (hr : r ∈ allR n k) (h : hidB S V r = true) : clashB S V n = true := by
  unfold clashB
  rw [List.any_eq_true]
  refine ⟨k, by rw [List.mem_range]; omega, ?_⟩
  rw [List.any_eq_true]
  exact ⟨r, hr, h⟩
theorem clash_no {S V : Sb} {n : Nat} : clashB S V n = false ↔ ∀ k, k ≤ 5 → ∀ r ∈ allR n k, hidB S V r = false := by
  unfold clashB
  rw [List.any_eq_false]
  constructor
  · intro h k hk r hr
    have h1 := h k (by rw [List.mem_range]; omega)
    have h2 : (allR n k).any (hidB S V) = false := by simpa using h1
    rw [List.any_eq_false] at h2
    simpa using h2 r hr
  · intro h k hk
    rw [List.mem_range] at hk
    have : (allR n k).any (hidB S V) = false := by
      rw [List.any_eq_false]
      intro r hr
      rw [h k (by omega) r hr]
      decide
    rw [this]
    decide
def partsC (r : Rg) : List Rg := if r.2.1 < 5 then partsR r else []
def InR (n : Nat) (r : Rg) : Prop := ∃ k, k ≤ 5 ∧ r ∈ allR n k
theorem inr_form {n : Nat} {r : Rg} (hn : n ≤ 8) (h : InR n r) : ∃ o l i : Nat, r = ((o : Int), (l : Int), (i : Int)) ∧ o < 8 ∧ l ≤ 5 ∧ i < 1024 := by
  obtain ⟨k, hk, hr⟩ := h
  obtain ⟨o, i, ho, hi, rfl⟩ := mem_all.1 hr
  have : ∀ k, k < 6 → wdR k ≤ 1024 := by decide
  have := this k (by omega)
  exact ⟨o, k, i, rfl, by omega, hk, by omega⟩
theorem inr_parts {n : Nat} {r x : Rg} (h : InR n r) (hx : x ∈ partsC r) : InR n x := by
  obtain ⟨k, hk, hr⟩ := h
  unfold partsC at hx
  split at hx
  · rename_i h5
    obtain ⟨o, i, _, _, e⟩ := mem_all.1 hr
    rw [e] at h5
    simp only at h5
    exact ⟨k + 1, by omega, List.mem_flatMap.2 ⟨r, hr, hx⟩⟩
  · cases hx
theorem wt_parts {n : Nat} {r : Rg} (h : InR n r) : wtL (partsC r) + 1 ≤ wt r.2.1 := by
  obtain ⟨k, hk, hr⟩ := h
  obtain ⟨o, i, _, _, rfl⟩ := mem_all.1 hr
  unfold partsC
  split
  · rename_i h5
    simp only at h5
    have := wtL_parts (r := ((o : Int), (k : Int), (i : Int))) (by simp only; omega) (by simp only; omega)
    omega
  · have := wt_pos (k : Int)
    show 0 + 1 ≤ wt (k : Int)
    omega
theorem clash_all {n : Nat} {X : List Rg} (hX : X = topsL n ++ X.flatMap partsC) : ∀ k, k ≤ 5 → ∀ r ∈ allR n k, r ∈ X
  | 0, _, r, hr => by rw [hX]; exact List.mem_append_left _ hr
  | k + 1, hk, r, hr => by
    obtain ⟨a, ha, hr⟩ := List.mem_flatMap.1 hr
    have h1 := clash_all hX k (by omega) a ha
    rw [hX]
    refine List.mem_append_right _ (List.mem_flatMap.2 ⟨a, h1, ?_⟩)
    obtain ⟨o, i, _, _, rfl⟩ := mem_all.1 ha
    unfold partsC
    rw [if_pos (by simp only; omega)]
    exact hr
set_option maxHeartbeats 32000000 in
theorem clash_c (p u : Nat) (S V : Sb) (ot ou : Nat → Prop) (n : Nat) (w : World) (hp : Tr w p S ot) (hu : Tr w u V ou) (hS : Kept S) (hV : Kept V) (hn : n ≤ 8) (hT : R.Tabs w) :
    Calls Tryd.prog 36 #[.pointer (some ⟨p, 0, none⟩), .pointer (some ⟨u, 0, none⟩), .int .i64 (n : Int)] w fun e w' => e = .returned (.bool (clashB S V n)) ∧ Below w.heap.size w w' := by
  have mixed : Tryd.prog.follows .mixedOrders = true := by kernel_rfl
  have CT := Lib.hid (tops_c n w hn)
  have hpt := pot_tops hn
  have HH := Lib.hid (fun o l i W (hb : Below w.heap.size w W) h1 h2 h3 => hides_c p u S V ot ou o l i W (hp.below hb) (hu.below hb) hS hV h1 h2 h3 (hT.below hb))
  have HY := Lib.hid (fun k r h1 h2 h3 => clash_yes (S := S) (V := V) (n := n) (k := k) (r := r) h1 h2 h3)
  have HNO := Lib.hid (fun h => (clash_no (S := S) (V := V) (n := n)).2 h)
  have HIN : Hid (∀ r ∈ topsL n, InR n r) := Lib.hid (fun r hr => ⟨0, by omega, hr⟩)
  have HALL := Lib.hid (fun X h => clash_all (n := n) (X := X) h)
  have htl := topsL_len n
  generalize clashB S V n = ans at *
  generalize hidB S V = hf at *
  clear hp hu hS hV hT
  have Q0 : Hid (Bfs partsC (topsL n) (topsL n) 0) := Lib.hid (bfs_start _ _)
  have HPT := Lib.hid hpt
  have N0 : Hid (∀ r ∈ (topsL n).take 0, hf r = false) := Lib.hid (fun r hr => by simp at hr)
  clear hpt
  go_enter Tryd.func36, Tryd.ntmps36
  go_wp2_with fail
  refine CT.out.mono ?_
  rintro e w1 ⟨A1, C1, rfl, g1, b1⟩
  have B1 := Lib.hid b1
  have G1 : Hid (GRow w1 w.heap.size (.slice A1 (topsL n).length C1) (topsL n)) := Lib.hid (by rw [htl]; exact g1)
  rw [← htl]
  clear b1 g1 CT htl
  go_wp2_with fail
  go_loopw [7, 8] (fun v7 v8 wr => ∃ (X : List Rg) (a : Nat), a ≤ X.length ∧ v8 = .int .i64 (a : Int) ∧ Hid (GRow wr w.heap.size v7 X) ∧ Hid (Bfs partsC (topsL n) X a) ∧ Hid (Pot X a) ∧ Hid (∀ r ∈ X, InR n r) ∧ Hid (∀ r ∈ X.take a, hf r = false) ∧ Hid (Below w.heap.size w wr)) (fun _ v8 _ => 10920 - (RowKit.intOf v8).toNat)
  case atStart => exact ⟨topsL n, 0, by omega, rfl, G1, Q0, HPT, HIN, N0, B1⟩
  case round =>
    obtain ⟨X, a, ha, rfl, GX, QX, PX, IX, NX, BX⟩ := hrel
    clear Q0 N0 G1
    obtain ⟨A, C, rfl⟩ := GX.out.form
    have hX := pot_len PX.out
    by_cases hp : a < X.length
    · have HA := Lib.hid hp
      obtain ⟨g, rfl, x0, x1, x2⟩ := GX.out.at a hp
      have hgl := World.block_lt_of_cell? _ _ x0
      have hin := IX.out _ (List.getElem_mem hp)
      have QN := Lib.hid (bfs_next QX.out hp)
      have PN := Lib.hid (pot_next PX.out hp (wt_parts hin))
      have DN : Hid (∀ r ∈ X ++ partsC X[a], InR n r) := Lib.hid (fun r hr => by
        rcases List.mem_append.1 hr with h | h
        · exact IX.out r h
        · exact inr_parts hin h)
      have NN : Hid (hf X[a] = false → ∀ r ∈ (X ++ partsC X[a]).take (a + 1), hf r = false) := Lib.hid (fun h r hr => by
        rw [List.take_append_of_le_length (by omega), List.take_succ_eq_append_getElem hp] at hr
        rcases List.mem_append.1 hr with h1 | h1
        · exact NX.out r h1
        · rw [List.mem_singleton.1 h1]
          exact h)
      have HIX := Lib.hid hin
      have hfm := inr_form hn hin
      clear hin
      generalize X[a] = x at *
      obtain ⟨o, l, i, rfl, ho, hl, hi⟩ := hfm
      simp only at x0 x1 x2
      have al := alloc_below wr (.cells #[.int .i64 (o : Int), .int .i64 (l : Int), .int .i64 (i : Int)] 75)
      have bw := bn BX.out al
      have CH := Lib.hid (HH.out o l i _ bw ho hl hi)
      have GA := Lib.hid (GX.out.below al)
      have BA := Lib.hid bw
      have HBX := Lib.hid (R.Bx.new 75 wr #[.int .i64 (o : Int), .int .i64 (l : Int), .int .i64 (i : Int)])
      obtain ⟨w5, hw5⟩ : ∃ w5, w5 = wr.alloc (.cells #[.int .i64 (o : Int), .int .i64 (l : Int), .int .i64 (i : Int)] 75) := ⟨_, rfl⟩
      rw [← hw5] at GA BA HBX CH
      have HW5 := Lib.hid hw5
      clear al bw hw5
      go_wp2_with fail
      rw [← HW5.out]
      cases hh : hf ((o : Int), (l : Int), (i : Int)) with
      | true =>
        rw [hh] at CH
        have HE : Hid (ans = true) := Lib.hid (by
          obtain ⟨k, hk, hr⟩ := HIX.out
          exact HY.out k _ hk hr hh)
        refine CH.out.mono ?_
        rintro e w6 ⟨rfl, b6⟩
        go_wp2_with fail
        go_ret
        exact ⟨by rw [HE.out]; rfl, bn BA.out b6⟩
      | false =>
        rw [hh] at CH
        have NN' := Lib.hid (NN.out hh)
        refine CH.out.mono ?_
        rintro e w6 ⟨rfl, b6⟩
        have hb := HBX.out.below b6
        have r0 := hb.cell 0
        have r1 := hb.cell 1
        have r2 := hb.cell 2
        simp only [List.getElem?_toArray, List.getElem?_cons_succ, List.getElem?_cons_zero] at r0 r1 r2
        have hlt := hb.lt
        have B6 := Lib.hid (bn BA.out b6)
        have G6 := Lib.hid (GA.out.below b6)
        clear b6 hb NN CH hh
        by_cases h5 : l = 5
        · have hpc : partsC ((o : Int), (l : Int), (i : Int)) = [] := by unfold partsC; rw [if_neg (by simp only; omega)]
          rw [hpc, List.append_nil] at QN PN NN'
          have hb5 : ¬ (l : Int) < 5 := by omega
          clear hpc h5
          go_wp2_with fail
          go_roundw
          case rel => exact ⟨X, a + 1, HA.out, by go_num, G6, QN, PN, IX, NN', B6⟩
          case measure => have := HA.out; simp [RowKit.intOf]; omega
        · have hpc : partsC ((o : Int), (l : Int), (i : Int)) = partsR ((o : Int), (l : Int), (i : Int)) := by unfold partsC; rw [if_pos (by simp only; omega)]
          rw [hpc] at QN PN NN' DN
          have hb5 : (l : Int) < 5 := by omega
          have hpl := pot_len PN.out
          rw [List.length_append] at hpl
          have CP := Lib.hid (parts_c (o : Int) l i w6 hl hi)
          have hp4 := partsR_len ((o : Int), (l : Int), (i : Int))
          generalize partsR ((o : Int), (l : Int), (i : Int)) = ps at *
          clear hpc h5
          go_wp2_with fail
          refine CP.out.mono ?_
          rintro e w7 ⟨g7, rfl, s7, b7⟩
          have g6 := G6.out.below b7
          have bx7 := bn B6.out b7
          have run0 := gapps_run X ps _ (some ⟨g7, 0, none⟩) 4 w.heap.size w7 76 g6 (fun k hk => by
            obtain ⟨g', e, hc⟩ := s7.at k hk
            exact ⟨g', e, hc⟩) (by omega) bx7.size
          rw [hp4] at run0
          obtain ⟨A', C', w8, run7, r7, gr7, _⟩ := run0
          have HR := Lib.hid run7
          have HG7 := Lib.hid r7
          have HB7 : Hid (Below w.heap.size w w8) := Lib.hid (bx7.trans (D.below_of_grown gr7 bx7.size (fun g hg => (World.ownsRow.lt g6 g hg).1)))
          have hlen : a + 1 ≤ (X ++ ps).length ∧ (X ++ ps).length ≤ 10920 := by rw [List.length_append]; omega
          have HLEN := Lib.hid hlen
          clear run7 r7 gr7 b7 g6 bx7 s7 hlen CP r0 r1 r2 hlt
          generalize X ++ ps = X' at *
          go_wp2_with (at_builtin; refine D.wpList_append_run rfl _ _ 76 rfl _ _ HR.out ?_; clear HR)
          go_roundw
          case rel => exact ⟨X', a + 1, HLEN.out.1, by go_num, HG7, QN, PN, DN, NN', HB7⟩
          case measure => have := HA.out; simp [RowKit.intOf]; omega
    · obtain rfl : a = X.length := by omega
      have HE : Hid (ans = false) := Lib.hid (by
        refine HNO.out (fun k hk r hr => ?_)
        have h1 := HALL.out X (bfs_end QX.out) k hk r hr
        exact NX.out r (by rw [List.take_length]; exact h1))
      go_wp2_with fail
      go_ret
      exact ⟨by rw [HE.out]; rfl, BX.out⟩
end Go.Proofs.YtchkadifjbmmpaaDoor
namespace Go.Proofs.YtchkadifjbmmpaaDoor
open Go.RowKit Go.Lib Go.Maps
set_option maxRecDepth 100000
set_option linter.unusedSimpArgs false

/-- What Get tells. -/
def GetS (S : Sb) (k : Ky) (r : R.Rc) (b : Bool) : Prop :=
  (b = true ∧ R.mayR r = true ∧ kyR r = k ∧ (k, R.layL r) ∈ S) ∨ (b = false ∧ k ∉ S.map Prod.fst)
def zeroR : R.Rc := ⟨0, 0, 0, 0, ⟨#[]⟩⟩
theorem get_parts (p mb : Nat) (T : List Kb) (own : Nat → Prop) (k : Ky) (w : World) (h : TrIn w p mb T own) (hS : ∀ x ∈ T.map kbs, ∃ r, R.mayR r = true ∧ x = (kyR r, R.layL r)) (ho : okKy k) (hT : R.Tabs w) :
    ∃ v r n b, (∀ W, Below w.heap.size w W → (Instr.lookup 82 (.map (some mb)) (kyv k) false).run Tryd.prog W = .ok v W) ∧
      (∀ W, Below w.heap.size w W → Calls Tryd.prog 56 #[v, .int .i64 0] W fun e w' => e = .returned (.tuple #[.agg #[.int .i64 r.o, .int .i64 r.s, .int .i64 r.w, .int .i64 r.c, .string r.t], .int .i64 n, .bool b]) ∧ Below W.heap.size W w') ∧ GetS (T.map kbs) k r b := by
  by_cases hin : k ∈ T.map Kb.k
  · obtain ⟨x, hx, rfl⟩ := List.mem_map.1 hin
    obtain ⟨r, hm, e⟩ := hS _ (List.mem_map_of_mem hx)
    simp only [kbs, Prod.mk.injEq] at e
    obtain ⟨ek, eb⟩ := e
    have hat := R.lay_at r [] [] hm
    simp only [List.nil_append, List.append_nil, List.length_nil] at hat
    refine ⟨x.v, r, (0 : Int) + 12 + (r.t.size : Int), true, fun W hW => ((h.below hW).yes hx ho).2, fun W hW => ?_, .inl ⟨rfl, hm, ek.symm, ?_⟩⟩
    · have hr := (h.below hW).tr x hx
      rw [eb] at hr
      have hl : (R.layL r).length ≤ 1000 := by rw [← eb]; exact (h.tl x hx).2
      refine (R.read_c (R.layL r) x.v 0 W (R.BRow.blc hr) (R.layL_ok r) (by omega) (by omega) (hT.below hW)).mono ?_
      intro e w' he
      unfold R.readT at he
      rw [show R.atOk (R.layL r) 0 = true from hat.1, if_pos rfl] at he
      obtain ⟨he1, he2⟩ := he
      rw [show R.rdR ((R.layL r).drop (0 : Int).toNat) = r from hat.2.1, show R.hdN ((R.layL r).drop (0 : Int).toNat) = (r.t.size : Int) from hat.2.2] at he1
      exact ⟨he1, he2⟩
    · rw [← eb]
      exact List.mem_map.2 ⟨x, hx, rfl⟩
  · refine ⟨.slice none 0 0, zeroR, 0, false, fun W hW => ((h.below hW).no ho hin).2, fun W hW => ?_, .inr ⟨rfl, by rw [kbs_fst]; exact hin⟩⟩
    refine (R.read_c [] (.slice none 0 0) 0 W ⟨none, 0, rfl, Nat.le_refl _, fun h0 => by simp at h0⟩ (fun x hx => by cases hx) (by simp) (by omega) (hT.below hW)).mono ?_
    intro e w' he
    unfold R.readT at he
    rw [show R.atOk [] 0 = false from by decide, if_neg (by decide)] at he
    exact he
theorem res2 {fn : Func} (h : fn.results = #[.cell 4 36, .tmp 5]) (tmps : Array Value) (g : Nat) (hp : tmps.getD 4 undef = .pointer (some ⟨g, 0, none⟩)) (a b c d e : Value) (w : World) (hx : R.Bx 36 w g #[a, b, c, d, e]) :
    (results fn tmps).run Tryd.prog w = .ok (.tuple #[.agg #[a, b, c, d, e], tmps.getD 5 undef]) w := by
  have aR := Tryd.isAgg36
  have zR := Tryd.sizeOf36
  obtain ⟨c0, c1, c2, c3, c4⟩ := hx.five
  rw [Array.getD_eq_getD_getElem?] at hp
  simp [results, h, hp, go_sem, aR, zR, c0, c1, c2, c3, c4]
set_option maxHeartbeats 32000000 in
theorem get_c (p : Nat) (S : Sb) (own : Nat → Prop) (o s : Int) (w : World) (h : Tr w p S own) (hS : ∀ x ∈ S, ∃ r, R.mayR r = true ∧ x = (kyR r, R.layL r)) (ho : okKy (o, s)) (hT : R.Tabs w) :
    Calls Tryd.prog 31 #[.pointer (some ⟨p, 0, none⟩), .agg #[.int .i64 o, .int .i64 s]] w fun e w' => ∃ r b, e = .returned (.tuple #[.agg #[.int .i64 r.o, .int .i64 r.s, .int .i64 r.w, .int .i64 r.c, .string r.t], .bool b]) ∧ GetS S (o, s) r b ∧ Below w.heap.size w w' := by
  have mixed : Tryd.prog.follows .mixedOrders = true := by kernel_rfl
  obtain ⟨mb, T, hx, rfl⟩ := h
  obtain ⟨v, r, n, b, h1, h2, h3⟩ := get_parts p mb T own (o, s) w hx hS ho hT
  obtain ⟨w2, hw2⟩ : ∃ w2, w2 = (w.alloc (.cells #[.int .i64 o, .int .i64 s] 32)).alloc (.cells #[.int .i64 0, .int .i64 0, .int .i64 0, .int .i64 0, .string ⟨#[]⟩] 36) := ⟨_, rfl⟩
  have b2 : Below w.heap.size w w2 := by rw [hw2]; exact bn (alloc_below _ _) (alloc_below _ _)
  have k2 : R.Bx 32 w2 w.heap.size #[.int .i64 o, .int .i64 s] := by rw [hw2]; exact (R.Bx.new _ _ _).alloc _
  have z2 : R.Bx 36 w2 (w.heap.size + 1) #[.int .i64 0, .int .i64 0, .int .i64 0, .int .i64 0, .string ⟨#[]⟩] := by
    rw [hw2]
    have := R.Bx.new 36 (w.alloc (.cells #[.int .i64 o, .int .i64 s] 32)) #[.int .i64 0, .int .i64 0, .int .i64 0, .int .i64 0, .string ⟨#[]⟩]
    rwa [World.size_alloc] at this
  have HSC : Hid (∀ W, Below w2.heap.size w2 W → W.cell? ⟨p, 0, none⟩ = some (.map (some mb)) ∧ W.cell? ⟨w.heap.size, 0, none⟩ = some (.int .i64 o) ∧ W.cell? ⟨w.heap.size, 1, none⟩ = some (.int .i64 s) ∧ (Instr.lookup 82 (.map (some mb)) (.agg #[.int .i64 o, .int .i64 s]) false).run Tryd.prog W = .ok v W) := Lib.hid (fun W hW => ⟨(hx.bx.below (bn b2 hW)).map, (k2.below hW).cell 0, (k2.below hW).cell 1, h1 W (bn b2 hW)⟩)
  have HRD : Hid (∀ W, Below w2.heap.size w2 W → Calls Tryd.prog 56 #[v, .int .i64 0] W fun e w' => e = .returned (.tuple #[.agg #[.int .i64 r.o, .int .i64 r.s, .int .i64 r.w, .int .i64 r.c, .string r.t], .int .i64 n, .bool b]) ∧ Below W.heap.size W w') := Lib.hid (fun W hW => h2 W (bn b2 hW))
  have HG := Lib.hid h3
  have HB2 := Lib.hid b2
  have HZ2 := Lib.hid z2
  have HW2 := Lib.hid hw2
  clear hx hS ho hT h1 h2 h3 hw2 b2 k2 z2
  go_enter Tryd.func31, Tryd.ntmps31
  go_wp2_with fail
  rw [← HW2.out]
  clear HW2
  obtain ⟨p0, k0, k1, hlk⟩ := HSC.out w2 (Below.refl _ _)
  have hlk1 := (HSC.out w2.drew (Below.refl _ _).drew).2.2.2
  have hlk2 := (HSC.out _ (alloc_below w2 (.cells #[.int .i64 0, .int .i64 0, .int .i64 0, .int .i64 0, .string ⟨#[]⟩] 36))).2.2.2
  have hlk3 := (HSC.out _ (below_da w2 (.cells #[.int .i64 0, .int .i64 0, .int .i64 0, .int .i64 0, .string ⟨#[]⟩] 36))).2.2.2
  have hlk4 := (HSC.out _ (alloc_below w2 (.cells #[.int .i64 0, .int .i64 0, .int .i64 0, .int .i64 0, .string ⟨#[]⟩] 36)).drew).2.2.2
  have hlp := World.block_lt_of_cell? _ _ p0
  have hlkk := World.block_lt_of_cell? _ _ k0
  clear HSC
  go_region_with (first
    | (go_at_call 56; refine (HRD.out _ (by first | exact alloc_below _ _ | exact (alloc_below _ _).drew | exact below_da _ _)).mono ?_; rintro e wR ⟨rfl, bR0⟩; have zR : R.Bx 36 wR w2.heap.size #[.int .i64 0, .int .i64 0, .int .i64 0, .int .i64 0, .string ⟨#[]⟩] := (by first | exact R.Bx.below (R.Bx.new _ w2 _) bR0 | exact R.Bx.below (w := (w2.alloc _).drew) (R.Bx.new _ w2 _) bR0 | exact R.Bx.below (R.Bx.new _ w2.drew _) bR0); have bR : Below w2.heap.size w2 wR := (by first | exact bn (alloc_below _ _) bR0 | exact bn (alloc_below _ _).drew bR0 | exact bn (below_da _ _) bR0); obtain ⟨c0, c1, c2, c3, c4⟩ := zR.five; have f0 := zR.soft 0; have f1 := zR.soft 1; have f2 := zR.soft 2; have f3 := zR.soft 3; have f4 := zR.soft 4; have hlz := zR.lt)
    | (go_at_call 56; refine (HRD.out _ (by first | exact (Below.refl _ _).drew | exact Below.refl _ _)).mono ?_; rintro e wR ⟨rfl, bR0⟩; have bR : Below w2.heap.size w2 wR := (by first | exact bn (Below.refl _ _).drew bR0 | exact bR0)))
  all_goals first
    | (
      obtain ⟨W5, hW5⟩ : ∃ W5, W5 = ((((wR.setCell ⟨w2.heap.size, 0, none⟩ (.int .i64 r.o)).setCell ⟨w2.heap.size, 1, none⟩ (.int .i64 r.s)).setCell ⟨w2.heap.size, 2, none⟩ (.int .i64 r.w)).setCell ⟨w2.heap.size, 3, none⟩ (.int .i64 r.c)).setCell ⟨w2.heap.size, 4, none⟩ (.string r.t) := ⟨_, rfl⟩
      have x5 : R.Bx 36 W5 w2.heap.size #[.int .i64 r.o, .int .i64 r.s, .int .i64 r.w, .int .i64 r.c, .string r.t] := by rw [hW5]; exact R.zero_five zR _ _ _ _ _
      have b5 : Below w2.heap.size w2 W5 := by rw [hW5]; exact R.below_five bR (Nat.le_refl _) _ _ _ _ _
      rw [← hW5]
      obtain ⟨r0, r1, r2, r3, r4⟩ := x5.five
      have hl5 := x5.lt
      have HZ5 := Lib.hid (HZ2.out.below b5)
      have HB5 : Hid (Below w.heap.size w W5) := Lib.hid (bn HB2.out b5)
      clear hW5 x5 b5 HRD
      obtain ⟨z0, z1, z2, z3, z4⟩ := HZ5.out.five
      have g0 := HZ5.out.soft 0
      have g1 := HZ5.out.soft 1
      have g2 := HZ5.out.soft 2
      have g3 := HZ5.out.soft 3
      have g4 := HZ5.out.soft 4
      have hlz5 := HZ5.out.lt
      go_wp2_with fail
      exact bodyPost_ret (res2 Tryd.results31 _ (w.heap.size + 1) rfl _ _ _ _ _ _ (R.zero_five HZ5.out _ _ _ _ _)) rfl ⟨r, b, rfl, HG.out, R.below_five HB5.out (Nat.le_succ _) _ _ _ _ _⟩)
    | (
      obtain ⟨W5, hW5⟩ : ∃ W5, W5 = wR.alloc (.cells #[.int .i64 r.o, .int .i64 r.s, .int .i64 r.w, .int .i64 r.c, .string r.t] 36) := ⟨_, rfl⟩
      have x5 : R.Bx 36 W5 wR.heap.size #[.int .i64 r.o, .int .i64 r.s, .int .i64 r.w, .int .i64 r.c, .string r.t] := by rw [hW5]; exact R.Bx.new _ wR _
      have b5 : Below w2.heap.size w2 W5 := by rw [hW5]; exact bn bR (alloc_below _ _)
      rw [← hW5]
      obtain ⟨r0, r1, r2, r3, r4⟩ := x5.five
      have hl5 := x5.lt
      have HZ5 := Lib.hid (HZ2.out.below b5)
      have HB5 : Hid (Below w.heap.size w W5) := Lib.hid (bn HB2.out b5)
      clear hW5 x5 b5 HRD
      obtain ⟨z0, z1, z2, z3, z4⟩ := HZ5.out.five
      have g0 := HZ5.out.soft 0
      have g1 := HZ5.out.soft 1
      have g2 := HZ5.out.soft 2
      have g3 := HZ5.out.soft 3
      have g4 := HZ5.out.soft 4
      have hlz5 := HZ5.out.lt
      go_wp2_with fail
      exact bodyPost_ret (res2 Tryd.results31 _ (w.heap.size + 1) rfl _ _ _ _ _ _ (R.zero_five HZ5.out _ _ _ _ _)) rfl ⟨r, b, rfl, HG.out, R.below_five HB5.out (Nat.le_succ _) _ _ _ _ _⟩)
end Go.Proofs.YtchkadifjbmmpaaDoor
namespace Go.Proofs.YtchkadifjbmmpaaDoor
open Go.RowKit Go.Lib Go.Maps
set_option maxRecDepth 100000
set_option linter.unusedSimpArgs false

def onceN (k : Ky) (l : List R.Rc) : Nat := (l.filter fun r => decide (kyR r = k)).length
theorem onceN_next (k : Ky) (l : List R.Rc) (i : Nat) (h : i < l.length) : onceN k (l.take (i + 1)) = onceN k (l.take i) + if kyR l[i] = k then 1 else 0 := by
  unfold onceN
  rw [List.take_succ_eq_append_getElem h, List.filter_append, List.length_append]
  by_cases hk : kyR l[i] = k
  · simp [hk]
  · simp [hk]
theorem onceN_le (k : Ky) (l : List R.Rc) : onceN k l ≤ l.length := List.length_filter_le _ _
set_option maxHeartbeats 8000000 in
theorem single_c (l : List R.Rc) (ad : Option Addr) (cap j : Nat) (hj : j < l.length) (w : World) (h : R.Rl w (.slice ad l.length cap) l) (hl : l.length ≤ maxLen) :
    Calls Tryd.prog 28 #[.slice ad l.length cap, .int .i64 (j : Int)] w fun e w' => e = .returned (.bool (decide (onceN (kyR l[j]) l = 1))) ∧ Below w.heap.size w w' := by
  have mixed : Tryd.prog.follows .mixedOrders = true := by kernel_rfl
  have hl2 := hl
  unfold maxLen at hl2
  obtain ⟨ad2, cap2, e, _, hc⟩ := id h.form
  simp only [Value.slice.injEq, true_and] at e
  obtain ⟨rfl, rfl⟩ := e
  obtain ⟨g, o, rfl, hrc⟩ := hc (by omega)
  obtain ⟨q0, q1, _, _, _⟩ := hrc j hj
  have HRL := Lib.hid h
  obtain ⟨kj, hkj⟩ : ∃ kj, kj = kyR l[j] := ⟨_, rfl⟩
  have HK : Hid (kj.1 = l[j].o ∧ kj.2 = l[j].s) := Lib.hid (by rw [hkj]; exact ⟨rfl, rfl⟩)
  have S0 : Hid (Below w.heap.size w w) := Lib.hid (Below.refl _ _)
  rw [← hkj]
  clear h hc hrc q0 q1 hkj hl
  go_enter Tryd.func28, Tryd.ntmps28
  go_wp2_with fail
  go_loopw [5, 6] (fun v5 v6 wr => ∃ k : Nat, k ≤ l.length ∧ v5 = .int .i64 ((onceN kj (l.take k) : Nat) : Int) ∧ v6 = .int .i64 (k : Int) ∧ Hid (Below w.heap.size w wr)) (fun _ v6 _ => l.length - (RowKit.intOf v6).toNat)
  case atStart => exact ⟨0, by omega, rfl, rfl, S0⟩
  case round =>
    obtain ⟨k, hk, rfl, rfl, HN⟩ := hrel
    have hle := onceN_le kj (l.take k)
    rw [List.length_take] at hle
    by_cases hp : k < l.length
    · have HP := Lib.hid hp
      obtain ⟨ad2, cap2, e, _, hc⟩ := (HRL.out.below HN.out).form
      simp only [Value.slice.injEq, true_and] at e
      obtain ⟨e, rfl⟩ := e
      obtain ⟨g', o', e', hrc⟩ := hc (by omega)
      rw [e'] at e
      simp only [Option.some.injEq, Addr.mk.injEq, and_true] at e
      obtain ⟨rfl, rfl⟩ := e
      obtain ⟨x0, x1, _, _, _⟩ := hrc k hp
      obtain ⟨q0, q1, _, _, _⟩ := hrc j hj
      have hgl' := World.block_lt_of_cell? _ _ x0
      clear hc hrc e'
      have HNX := Lib.hid (onceN_next kj l k hp)
      have hj1 : (j : Int) < (l.length : Int) := by omega
      generalize onceN kj (l.take k) = c at *
      have hkk : (kyR l[k] = kj) ↔ (l[k].o = l[j].o ∧ l[k].s = l[j].s) := by
        rw [← HK.out.1, ← HK.out.2]
        constructor
        · intro e
          rw [← e]
          exact ⟨rfl, rfl⟩
        · intro e
          exact Prod.ext e.1 e.2
      generalize l[k].o = xo at *
      generalize l[k].s = xs at *
      generalize l[j].o = yo at *
      generalize l[j].s = ys at *
      by_cases he : xo = yo ∧ xs = ys
      · obtain ⟨rfl, rfl⟩ := he
        have HE : Hid (onceN kj (l.take (k + 1)) = c + 1) := Lib.hid (by rw [HNX.out]; split <;> first | rfl | (rename_i hh; exact absurd (hkk.2 ⟨rfl, rfl⟩) hh))
        clear hkk
        go_wp2_with fail
        go_quiet (fail)
        go_wp2_with fail
        go_roundw
        case rel => exact ⟨k + 1, HP.out, by rw [HE.out]; go_num, by go_num, Lib.hid (below_drewN HN.out _)⟩
        case measure => have := HP.out; simp [RowKit.intOf]; omega
      · have HE : Hid (onceN kj (l.take (k + 1)) = c) := Lib.hid (by rw [HNX.out]; split <;> first | rfl | (rename_i hh; exact absurd (hkk.1 hh) he))
        clear hkk
        by_cases h1 : xo = yo
        · subst h1
          have hb : (xs == ys) = false := by simpa using fun e => he ⟨rfl, e⟩
          clear he
          go_wp2_with fail
          go_quiet (fail)
          go_wp2_with fail
          go_roundw
          case rel => exact ⟨k + 1, HP.out, by rw [HE.out], by go_num, Lib.hid (below_drewN HN.out _)⟩
          case measure => have := HP.out; simp [RowKit.intOf]; omega
        · have hb : (xo == yo) = false := by simpa using h1
          clear he h1
          go_wp2_with fail
          go_quiet (fail)
          go_wp2_with fail
          go_roundw
          case rel => exact ⟨k + 1, HP.out, by rw [HE.out], by go_num, Lib.hid (below_drewN HN.out _)⟩
          case measure => have := HP.out; simp [RowKit.intOf]; omega
    · have hkl : k = l.length := by omega
      subst hkl
      rw [List.take_length] at hle ⊢
      have hB := HN
      obtain ⟨c, hc⟩ : ∃ c, c = onceN kj l := ⟨_, rfl⟩
      rw [← hc] at hle ⊢
      by_cases h1 : c = 1
      · have hd : decide (onceN kj l = 1) = true := by rw [← hc]; simpa using h1
        have HD := Lib.hid hd
        clear hd hc
        subst h1
        go_wp2_with fail
        go_ret
        exact ⟨by rw [HD.out]; first | rfl | simp, hB.out⟩
      · have h2 : ¬ (c : Int) = 1 := by omega
        have hd : decide (onceN kj l = 1) = false := by rw [← hc]; simpa using h1
        have HD := Lib.hid hd
        clear hd hc
        go_wp2_with fail
        go_ret
        exact ⟨by rw [HD.out]; simp [h2], hB.out⟩
end Go.Proofs.YtchkadifjbmmpaaDoor
namespace Go.Proofs.YtchkadifjbmmpaaDoor
open Go.RowKit Go.Lib Go.Maps
set_option maxRecDepth 100000
set_option linter.unusedSimpArgs false

/-- Dropped are those of one origin. -/
def dropW (wh : Int) (S : Sb) (l : List R.Rc) : Sb := l.foldl (fun S r => if r.o = wh then dropS S (kyR r) else S) S
theorem dropW_next (wh : Int) (S : Sb) (l : List R.Rc) (i : Nat) (h : i < l.length) : dropW wh S (l.take (i + 1)) = if l[i].o = wh then dropS (dropW wh S (l.take i)) (kyR l[i]) else dropW wh S (l.take i) := by
  unfold dropW
  rw [List.take_succ_eq_append_getElem h, List.foldl_append]
  rfl
theorem dropW_len (wh : Int) : ∀ (l : List R.Rc) (S : Sb), (dropW wh S l).length ≤ S.length
  | [], _ => Nat.le_refl _
  | r :: l, S => by
    have h1 := dropW_len wh l (if r.o = wh then dropS S (kyR r) else S)
    have h2 : (if r.o = wh then dropS S (kyR r) else S).length ≤ S.length := by
      split
      · exact dropS_len S _
      · exact Nat.le_refl _
    exact Nat.le_trans h1 h2
theorem dropW_leaf (wh : Int) (o m : Nat) (ho : (o : Int) ≠ wh) : ∀ (l : List R.Rc) (S : Sb), leafS (dropW wh S l) o m = leafS S o m
  | [], _ => rfl
  | r :: l, S => by
    have h1 := dropW_leaf wh o m ho l (if r.o = wh then dropS S (kyR r) else S)
    refine h1.trans ?_
    split
    · rename_i h
      rw [leaf_drop, if_neg (fun e => ho (by have := congrArg Prod.fst e; simp only [kyR] at this; omega))]
    · rfl
theorem dropW_mem (wh : Int) : ∀ (l : List R.Rc) (S : Sb) (x : Ky × List Int), x ∈ dropW wh S l → x ∈ S ∧ ∀ r ∈ l, r.o = wh → x.1 ≠ kyR r
  | [], _, x, h => ⟨h, fun r hr => by cases hr⟩
  | r :: l, S, x, h => by
    obtain ⟨h1, h2⟩ := dropW_mem wh l (if r.o = wh then dropS S (kyR r) else S) x h
    by_cases hr : r.o = wh
    · rw [if_pos hr] at h1
      obtain ⟨h3, h4⟩ := List.mem_filter.1 h1
      rw [decide_eq_true_eq] at h4
      refine ⟨h3, fun r' hr' hw => ?_⟩
      rcases List.mem_cons.1 hr' with rfl | hr'
      · exact h4
      · exact h2 r' hr' hw
    · rw [if_neg hr] at h1
      refine ⟨h1, fun r' hr' hw => ?_⟩
      rcases List.mem_cons.1 hr' with rfl | hr'
      · exact absurd hw hr
      · exact h2 r' hr' hw
theorem putSs_from : ∀ (l : List R.Rc) (S : Sb) (x : Ky × List Int), x ∈ putSs S l → x ∈ S ∨ ∃ r ∈ l, x.1 = kyR r
  | [], _, x, h => .inl h
  | r :: l, S, x, h => by
    rcases putSs_from l (putS S r) x h with h1 | ⟨r', hr', e⟩
    · unfold putS at h1
      split at h1
      · rcases List.mem_append.1 h1 with h1 | h1
        · exact .inl h1
        · rw [List.mem_singleton.1 h1]
          exact .inr ⟨r, by simp, rfl⟩
      · exact .inl h1
    · exact .inr ⟨r', by simp [hr'], e⟩
theorem treeF_zero {S : Sb} {o : Nat} (h : ∀ m, m < 1024 → leafS S o m = 0) (a : Nat) (ha : a < 1365) : treeF S o a = 0 :=
  (treeF_uniq (G := fun _ => 0) (fun a _ => by unfold Cons; rfl) (fun m hm => (h m hm).symm) 1365 a (by omega) ha).symm
theorem gone_leaf (l : List R.Rc) (wh m : Nat) : leafS (dropW (wh : Int) (putSs [] l) l) wh m = 0 := by
  have : (dropW (wh : Int) (putSs [] l) l).find? (fun x => decide (x.1 = ((wh : Int), (m : Int)))) = none := by
    rw [List.find?_eq_none]
    intro x hx hd
    rw [decide_eq_true_eq] at hd
    obtain ⟨h1, h2⟩ := dropW_mem _ _ _ _ hx
    rcases putSs_from l [] x h1 with h | ⟨r, hr, e⟩
    · cases h
    · refine h2 r hr ?_ e
      have := congrArg Prod.fst (hd.symm.trans e)
      simp only [kyR] at this
      exact this.symm
  unfold leafS
  rw [this]
theorem sumV_congr {F G : Nat → Nat → Int} {o : Nat} (h : ∀ a, a < 1365 → F o a = G o a) (L i : Int) : sumV F (o : Int) L i = sumV G (o : Int) L i := by
  unfold sumV
  split
  · rename_i hB
    unfold sumB at hB
    rw [decide_eq_true_eq] at hB
    obtain ⟨h1, h2, h3, h4, h5, h6⟩ := hB
    rw [Int.toNat_natCast]
    refine h _ ?_
    have hp := pl_step L.toNat (by omega)
    unfold cnt at h6
    omega
  · rfl
theorem sumV_far (wh : Int) (l : List R.Rc) (S : Sb) (o : Nat) (ho : (o : Int) ≠ wh) (L i : Int) : sumV (treeF (dropW wh S l)) (o : Int) L i = sumV (treeF S) (o : Int) L i :=
  sumV_congr (fun a ha => treeF_same (fun m _ => dropW_leaf wh o m ho l S) a ha) L i
theorem sumV_gone (wh : Nat) (l : List R.Rc) (L i : Int) : sumV (treeF (dropW (wh : Int) (putSs [] l) l)) (wh : Int) L i = 0 := by
  rw [sumV_congr (G := fun _ _ => 0) (fun a ha => treeF_zero (fun m _ => gone_leaf l wh m) a ha) L i]
  unfold sumV
  split <;> rfl
theorem sumB_top (wh : Nat) (h : wh < 8) : sumB (wh : Int) 0 0 = true := by
  unfold sumB
  rw [decide_eq_true_eq]
  exact ⟨by omega, by omega, by decide, by decide, by decide, by decide⟩
/-- A row of digests of one's own. -/
def digs (l : List Int) : List Value := l.map (Value.int .u64)
def DRow (w : World) (B : Nat) (v : Value) (l : List Int) : Prop := w.ownsRow B 44 1 v l.length (digs l)
theorem digInfo : (Tryd.prog.info? 44).map (fun i => (i.zero, i.size, i.bytes)) = some (some (.int .u64 0), 1, 8) := by kernel_rfl
theorem dapp_run (l : List Int) (x : Int) (v : Value) (g : Nat) (w : World) (ty : TypeId) (B : Nat) (h : DRow w B v l) (hg : w.cell? ⟨g, 0, none⟩ = some (.int .u64 x)) (hn : l.length ≤ 10000000) (hB : B ≤ w.heap.size) :
    ∃ A C w1, (Builtin.append_ #[53, 53] ty #[v, .slice (some ⟨g, 0, none⟩) 1 1]).run Tryd.prog w = .ok (.slice A (l.length + 1) C) w1 ∧ DRow w1 B (.slice A (l.length + 1) C) (l ++ [x]) ∧ w.grownBy w1 v.ownBlock := by
  obtain ⟨i0, hi, hz0, hz1, hz2⟩ := info_parts digInfo
  obtain ⟨v', w', h1, h2, h4, _, h5⟩ := run_append_own_at (P := Tryd.prog) w B 53 ty 44 i0 _ 1 8 Tryd.underlying53 hi hz0 hz1 hz2 rfl (by decide) v l.length (digs l) h ⟨g, 0, none⟩ 1 1 [.int .u64 x] rfl
    (fun j u hj => by
      have hj0 : j = 0 := by
        have := (List.getElem?_eq_some_iff.1 hj).1
        simpa using this
      subst hj0
      rw [Go.WideShapes.add_plain, Nat.zero_add, hg]
      simpa using hj) (fun u hu => by simp at hu; subst hu; rfl) (by unfold maxLen; omega) (by omega) hB
  have hr : DRow w' B v' (l ++ [x]) := by
    unfold DRow
    rw [List.length_append, List.length_singleton, show digs (l ++ [x]) = digs l ++ [.int .u64 x] from by simp [digs]]
    exact h2
  rcases hr.2 with ⟨_, h0⟩ | ⟨g2, cap, cur, rfl, _⟩
  · simp at h0
  · rw [List.length_append, List.length_singleton] at h1 hr
    exact ⟨_, _, w', h1, hr, h4⟩
theorem DRow.at {w : World} {B g cap : Nat} {l : List Int} (h : DRow w B (.slice (some ⟨g, 0, none⟩) l.length cap) l) (k : Nat) (hk : k < l.length) : w.cell? ⟨g, k, none⟩ = some (.int .u64 l[k]) := by
  have hl : (digs l).length = l.length := List.length_map ..
  rw [World.ownsRow.cellAt h k (by omega)]
  simp [digs, hk]
theorem DRow.below {w w' : World} {B : Nat} {v : Value} {l : List Int} (h : DRow w B v l) (hb : Below w.heap.size w w') : DRow w' B v l := D.own_below h hb
end Go.Proofs.YtchkadifjbmmpaaDoor
namespace Go.Proofs.YtchkadifjbmmpaaDoor
open Go.RowKit Go.Lib Go.Maps
set_option maxRecDepth 100000
set_option linter.unusedSimpArgs false

theorem putSs_laid : ∀ (l : List R.Rc) (S : Sb) (x : Ky × List Int), x ∈ putSs S l → x ∈ S ∨ ∃ r ∈ l, R.mayR r = true ∧ x = (kyR r, R.layL r)
  | [], _, x, h => .inl h
  | a :: l, S, x, h => by
    rcases putSs_laid l (putS S a) x h with h1 | ⟨r', hr', e⟩
    · unfold putS at h1
      split at h1
      · rename_i hc
        rcases List.mem_append.1 h1 with h1 | h1
        · exact .inl h1
        · exact .inr ⟨a, by simp, hc.1, List.mem_singleton.1 h1⟩
      · exact .inl h1
    · exact .inr ⟨r', by simp [hr'], e⟩
theorem putSs_keep : ∀ (l : List R.Rc) (S : Sb) (k : Ky), k ∈ S.map Prod.fst → k ∈ (putSs S l).map Prod.fst
  | [], _, _, h => h
  | a :: l, S, k, h => putSs_keep l (putS S a) k (by
    unfold putS
    split
    · rw [List.map_append]
      exact List.mem_append_left _ h
    · exact h)
theorem putSs_has : ∀ (l : List R.Rc) (S : Sb) (r : R.Rc), r ∈ l → R.mayR r = true → kyR r ∈ (putSs S l).map Prod.fst
  | a :: l, S, r, h, hm => by
    rcases List.mem_cons.1 h with rfl | h
    · refine putSs_keep l _ _ ?_
      unfold putS
      split
      · rw [List.map_append]
        exact List.mem_append_right _ (by simp)
      · rename_i hc
        exact Decidable.byContradiction fun hn => hc ⟨hm, hn⟩
    · exact putSs_has l _ r h hm
theorem once_eq {k : Ky} {l : List R.Rc} (h : onceN k l = 1) {a b : R.Rc} (ha : a ∈ l) (hka : kyR a = k) (hb : b ∈ l) (hkb : kyR b = k) : a = b := by
  unfold onceN at h
  obtain ⟨x, hx⟩ := List.length_eq_one_iff.1 h
  have h1 : a ∈ l.filter fun r => decide (kyR r = k) := List.mem_filter.2 ⟨ha, by simpa using hka⟩
  have h2 : b ∈ l.filter fun r => decide (kyR r = k) := List.mem_filter.2 ⟨hb, by simpa using hkb⟩
  rw [hx] at h1 h2
  rw [List.mem_singleton.1 h1, List.mem_singleton.1 h2]
theorem laid_eq {a b : R.Rc} (ha : R.mayR a = true) (hb : R.mayR b = true) (h : R.layL a = R.layL b) : a = b := by
  have h1 := (R.lay_read a [] ha).1
  have h2 := (R.lay_read b [] hb).1
  rw [h] at h1
  exact h1.symm.trans h2
/-- What Get tells of a Key that is there once. -/
theorem get_once {l : List R.Rc} {r a : R.Rc} {b : Bool} (hr : r ∈ l) (h1 : onceN (kyR r) l = 1) (hg : GetS (putSs [] l) (kyR r) a b) : b = R.mayR r ∧ (b = true → a = r) := by
  rcases hg with ⟨rfl, hm, hk, hin⟩ | ⟨rfl, hn⟩
  · rcases putSs_laid l [] _ hin with h | ⟨r', hr', hm', e⟩
    · cases h
    · simp only [Prod.mk.injEq] at e
      have e1 : r' = r := once_eq h1 hr' e.1.symm hr rfl
      subst e1
      have e2 : a = r' := laid_eq hm hm' e.2
      exact ⟨hm'.symm, fun _ => e2⟩
  · refine ⟨?_, fun h => by cases h⟩
    cases hm : R.mayR r with
    | false => rfl
    | true => exact absurd (putSs_has l [] r hr hm) hn
/-- A number's digest, where the Key is there once. -/
theorem leaf_once {l : List R.Rc} {r : R.Rc} {o n : Nat} (hr : r ∈ l) (h1 : onceN (kyR r) l = 1) (hk : kyR r = ((o : Int), (n : Int))) : leafS (putSs [] l) o n = if R.mayR r = true then D.fnv 14695981039346656037 (R.layL r) else 0 := by
  unfold leafS
  cases hf : (putSs [] l).find? (fun x => decide (x.1 = ((o : Int), (n : Int)))) with
  | some x =>
    have hx := List.mem_of_find?_eq_some hf
    have hd := List.find?_some hf
    rw [decide_eq_true_eq] at hd
    rcases putSs_laid l [] _ hx with h | ⟨r', hr', hm', e⟩
    · cases h
    · have e1 : r' = r := once_eq h1 hr' (by rw [hk, ← hd, e]) hr rfl
      subst e1
      rw [if_pos hm', e]
  | none =>
    have hn : ¬ R.mayR r = true := fun hm => by
      obtain ⟨x, hx, e⟩ := List.mem_map.1 (putSs_has l [] r hr hm)
      have := List.find?_eq_none.1 hf x hx
      rw [decide_eq_true_eq] at this
      exact this (e.trans hk)
    rw [if_neg hn]
/-- How wide a level is. -/
def wd : Nat → Nat
  | 0 => 1
  | k + 1 => 4 * wd k
theorem wd_pl : ∀ k : Nat, k < 6 → cnt (k : Int) = (wd k : Int) ∧ pl k + wd k = pl (k + 1) ∧ wd k ≤ 1024 ∧ 0 < wd k := by decide
theorem sumB_in {o L i : Nat} (ho : o < 8) (hL : L ≤ 5) (hi : i < wd L) : sumB (o : Int) (L : Int) (i : Int) = true := by
  unfold sumB
  rw [decide_eq_true_eq, (wd_pl L (by omega)).1]
  omega
theorem sumV_in {F : Nat → Nat → Int} {o L i : Nat} (ho : o < 8) (hL : L ≤ 5) (hi : i < wd L) : sumV F (o : Int) (L : Int) (i : Int) = F o (pl L + i) := by
  unfold sumV
  rw [if_pos (sumB_in ho hL hi)]
  simp
/-- The digests of a range's parts. -/
def rowP (S : Sb) (o L i : Nat) (k : Nat) : List Int := (List.range k).map fun j => sumV (treeF S) (o : Int) ((L + 1 : Nat) : Int) ((4 * i + j : Nat) : Int)
theorem rowP_len (S : Sb) (o L i k : Nat) : (rowP S o L i k).length = k := by simp [rowP]
theorem rowP_next (S : Sb) (o L i k : Nat) : rowP S o L i (k + 1) = rowP S o L i k ++ [sumV (treeF S) (o : Int) ((L + 1 : Nat) : Int) ((4 * i + k : Nat) : Int)] := by simp [rowP, List.range_succ]
theorem rowP_all {S : Sb} {o L i : Nat} (ho : o < 8) (hL : L ≤ 4) (hi : i < wd L) : sumV (treeF S) (o : Int) (L : Int) (i : Int) = D.allD (rowP S o L i 4) := by
  have hw : wd (L + 1) = 4 * wd L := rfl
  have hp : pl (L + 1) = 4 * pl L + 1 := rfl
  have h2 := wd_pl L (by omega)
  have h3 := pl_le (L + 1) (by omega)
  have ha : pl L + i < 341 := by
    have : ∀ L, L ≤ 4 → pl (L + 1) ≤ 341 := by
      intro L hL
      have : ∀ k, k < 5 → pl (k + 1) ≤ 341 := by decide
      exact this L (by omega)
    have := this L hL
    omega
  rw [sumV_in ho (by omega) hi]
  have hc := treeF_cons S o (pl L + i) ha
  unfold Cons at hc
  rw [hc]
  have hr : rowP S o L i 4 = [sumV (treeF S) (o : Int) ((L + 1 : Nat) : Int) ((4 * i + 0 : Nat) : Int), sumV (treeF S) (o : Int) ((L + 1 : Nat) : Int) ((4 * i + 1 : Nat) : Int), sumV (treeF S) (o : Int) ((L + 1 : Nat) : Int) ((4 * i + 2 : Nat) : Int), sumV (treeF S) (o : Int) ((L + 1 : Nat) : Int) ((4 * i + 3 : Nat) : Int)] := rfl
  rw [hr, sumV_in ho (by omega) (by omega), sumV_in ho (by omega) (by omega), sumV_in ho (by omega) (by omega), sumV_in ho (by omega) (by omega)]
  rw [show pl (L + 1) + (4 * i + 0) = 4 * (pl L + i) + 1 by omega, show pl (L + 1) + (4 * i + 1) = 4 * (pl L + i) + 2 by omega, show pl (L + 1) + (4 * i + 2) = 4 * (pl L + i) + 3 by omega, show pl (L + 1) + (4 * i + 3) = 4 * (pl L + i) + 4 by omega]
/-- The sum at a record's number. -/
theorem sum_once {l : List R.Rc} {r : R.Rc} (hr : r ∈ l) (hk : R.keyB r.o r.s = true) (h1 : onceN (kyR r) l = 1) : sumV (treeF (putSs [] l)) r.o 5 r.s = if R.mayR r = true then D.fnv 14695981039346656037 (R.layL r) else 0 := by
  simp only [R.keyB, Bool.and_eq_true, decide_eq_true_eq] at hk
  obtain ⟨o, ho⟩ := Int.eq_ofNat_of_zero_le hk.1
  obtain ⟨n, hn⟩ := Int.eq_ofNat_of_zero_le (show (0 : Int) ≤ r.s by omega)
  have hky : kyR r = ((o : Int), (n : Int)) := by unfold kyR; rw [ho, hn]
  rw [ho, hn, show (5 : Int) = ((5 : Nat) : Int) from rfl, sumV_in (by omega) (by omega) (show n < wd 5 by have : wd 5 = 1024 := rfl; omega)]
  rw [show pl 5 + n = 341 + n from rfl, treeF_leaf, leaf_once hr h1 hky]
theorem row_dl {w : World} {B g cap : Nat} {l : List Int} (h : DRow w B (.slice (some ⟨g, 0, none⟩) l.length cap) l) : D.Dl w (.slice (some ⟨g, 0, none⟩) l.length cap) l :=
  ⟨_, cap, rfl, fun _ => ⟨g, 0, rfl, fun k hk => by rw [Nat.zero_add]; exact h.at k hk⟩⟩
end Go.Proofs.YtchkadifjbmmpaaDoor
namespace Go.Proofs.YtchkadifjbmmpaaDoor
open Go.RowKit Go.Lib Go.Maps
set_option maxRecDepth 100000
set_option linter.unusedSimpArgs false

/-- The way to the one number. -/
def pathB (r : Rg) : Bool := decide (r ∈ [((0 : Int), (0 : Int), (0 : Int)), (0, 1, 0), (0, 2, 0), (0, 3, 0), (0, 4, 1), (0, 5, 5)])
theorem rs_ne : r4 ≠ 0 ∧ r3 ≠ 0 ∧ r2 ≠ 0 ∧ r1 ≠ 0 ∧ r0 ≠ 0 := by decide +kernel
theorem sumV_nil (o l i : Int) : sumV (treeF []) o l i = 0 := by
  unfold sumV
  split
  · rename_i h
    unfold sumB at h
    rw [decide_eq_true_eq] at h
    obtain ⟨h1, h2, h3, h4, h5, h6⟩ := h
    have hc : ∀ k : Nat, k < 6 → pl k + (cnt (k : Int)).toNat ≤ 1365 := by decide
    have hc2 := hc l.toNat (by omega)
    rw [show ((l.toNat : Nat) : Int) = l from by omega] at hc2
    exact (treeF_nil o.toNat (pl l.toNat + i.toNat) (by omega) (by omega)).symm
  · rfl
theorem dif_same (S : Sb) (r : Rg) : difB S S r = false := by
  unfold difB
  simp
theorem dif_comm (S V : Sb) : difB S V = difB V S := by
  funext r
  unfold difB
  congr 1
  rw [bne_comm]
theorem dif_one : difB oneS [] = pathB := by
  funext r
  obtain ⟨o, l, i⟩ := r
  unfold difB
  simp only
  rw [sumV_nil]
  cases hb : sumB o l i with
  | false =>
    rw [Bool.false_and]
    symm
    unfold pathB
    rw [decide_eq_false_iff_not]
    intro h
    have : ∀ r ∈ [((0 : Int), (0 : Int), (0 : Int)), (0, 1, 0), (0, 2, 0), (0, 3, 0), (0, 4, 1), (0, 5, 5)], sumB r.1 r.2.1 r.2.2 = true := by decide
    have := this _ h
    rw [hb] at this
    cases this
  | true =>
    rw [Bool.true_and]
    have hv : sumV (treeF oneS) o l i = treeF oneS o.toNat (pl l.toNat + i.toNat) := by unfold sumV; rw [if_pos hb]
    rw [hv]
    unfold sumB at hb
    rw [decide_eq_true_eq] at hb
    obtain ⟨h1, h2, h3, h4, h5, h6⟩ := hb
    obtain ⟨on, rfl⟩ := Int.eq_ofNat_of_zero_le h1
    obtain ⟨ln, rfl⟩ := Int.eq_ofNat_of_zero_le h3
    obtain ⟨k, rfl⟩ := Int.eq_ofNat_of_zero_le h5
    have hc : ∀ k : Nat, k < 6 → pl k + (cnt (k : Int)).toNat ≤ 1365 := by decide
    have hc2 := hc ln (by omega)
    simp only [Int.toNat_natCast]
    by_cases ho : on = 0
    · subst ho
      rw [one_tree _ (by omega)]
      obtain ⟨n4, n3, n2, n1, n0⟩ := rs_ne
      have nd := d0_ne
      have hl : ln = 0 ∨ ln = 1 ∨ ln = 2 ∨ ln = 3 ∨ ln = 4 ∨ ln = 5 := by omega
      have c0 : cnt ((0 : Nat) : Int) = 1 := by decide
      have c1 : cnt ((1 : Nat) : Int) = 4 := by decide
      have c2 : cnt ((2 : Nat) : Int) = 16 := by decide
      have c3 : cnt ((3 : Nat) : Int) = 64 := by decide
      have c4 : cnt ((4 : Nat) : Int) = 256 := by decide
      have c5 : cnt ((5 : Nat) : Int) = 1024 := by decide
      unfold G1 pathB
      rcases hl with rfl | rfl | rfl | rfl | rfl | rfl
      · rw [c0] at h6
        obtain rfl : k = 0 := by omega
        rw [show pl 0 + 0 = 0 from rfl]
        simp [n0]
      · rw [c1] at h6
        by_cases hk : k = 0
        · subst hk
          rw [show pl 1 + 0 = 1 from rfl]
          simp [n1]
        · rw [if_neg (by have : pl 1 = 1 := rfl; omega), if_neg (by have : pl 1 = 1 := rfl; omega), if_neg (by have : pl 1 = 1 := rfl; omega), if_neg (by have : pl 1 = 1 := rfl; omega), if_neg (by have : pl 1 = 1 := rfl; omega), if_neg (by have : pl 1 = 1 := rfl; omega)]
          simp
          omega
      · rw [c2] at h6
        by_cases hk : k = 0
        · subst hk
          rw [show pl 2 + 0 = 5 from rfl]
          simp [n2]
        · rw [if_neg (by have : pl 2 = 5 := rfl; omega), if_neg (by have : pl 2 = 5 := rfl; omega), if_neg (by have : pl 2 = 5 := rfl; omega), if_neg (by have : pl 2 = 5 := rfl; omega), if_neg (by have : pl 2 = 5 := rfl; omega), if_neg (by have : pl 2 = 5 := rfl; omega)]
          simp
          omega
      · rw [c3] at h6
        by_cases hk : k = 0
        · subst hk
          rw [show pl 3 + 0 = 21 from rfl]
          simp [n3]
        · rw [if_neg (by have : pl 3 = 21 := rfl; omega), if_neg (by have : pl 3 = 21 := rfl; omega), if_neg (by have : pl 3 = 21 := rfl; omega), if_neg (by have : pl 3 = 21 := rfl; omega), if_neg (by have : pl 3 = 21 := rfl; omega), if_neg (by have : pl 3 = 21 := rfl; omega)]
          simp
          omega
      · rw [c4] at h6
        by_cases hk : k = 1
        · subst hk
          rw [show pl 4 + 1 = 86 from rfl]
          simp [n4]
        · rw [if_neg (by have : pl 4 = 85 := rfl; omega), if_neg (by have : pl 4 = 85 := rfl; omega), if_neg (by have : pl 4 = 85 := rfl; omega), if_neg (by have : pl 4 = 85 := rfl; omega), if_neg (by have : pl 4 = 85 := rfl; omega), if_neg (by have : pl 4 = 85 := rfl; omega)]
          simp
          omega
      · rw [c5] at h6
        by_cases hk : k = 5
        · subst hk
          rw [show pl 5 + 5 = 346 from rfl]
          simp [nd]
        · rw [if_neg (by have : pl 5 = 341 := rfl; omega), if_neg (by have : pl 5 = 341 := rfl; omega), if_neg (by have : pl 5 = 341 := rfl; omega), if_neg (by have : pl 5 = 341 := rfl; omega), if_neg (by have : pl 5 = 341 := rfl; omega), if_neg (by have : pl 5 = 341 := rfl; omega)]
          simp
          omega
    · rw [one_far on _ ho (by omega)]
      unfold pathB
      simp
      omega
theorem one_find : findK pathB 3 = [((0 : Int), (5 : Int))] ∧ findN pathB 3 = 23 ∧ stepL pathB ((0 : Int), (0 : Int), (0 : Int)) = [((0 : Int), (1 : Int), (0 : Int))] := by decide +kernel
def hidP (r : Rg) : Bool := !pathB r && (if r.2.1 = 5 then decide (keyF r = ((0 : Int), (5 : Int))) else (partsR r).any pathB)
theorem hidP_none : ((List.range 6).any fun k => (allR 3 k).any hidP) = false := by decide +kernel
theorem one_bytes (k : Ky) : recB oneS [] k = !decide (k = ((0 : Int), (5 : Int))) := by
  unfold recB bytesAt oneS
  by_cases h : k = ((0 : Int), (5 : Int))
  · subst h
    rw [List.find?_cons_of_pos (by decide)]
    simp
  · rw [List.find?_cons_of_neg (by simpa using fun e => h (Eq.symm e))]
    simp [h]
theorem one_clash : clashB oneS [] 3 = false := by
  have : hidB oneS [] = hidP := by
    funext r
    unfold hidB hidP
    rw [dif_one, one_bytes, Bool.not_not]
  unfold clashB
  rw [this]
  exact hidP_none
theorem kept_one : Kept oneS := ⟨fun x hx => ⟨oneR, one_may, by rw [List.mem_singleton.1 hx]; rfl⟩, by unfold oneS; simp⟩
theorem kept_nil : Kept [] := ⟨fun x hx => (by cases hx), by simp⟩
end Go.Proofs.YtchkadifjbmmpaaDoor
namespace Go.Proofs.YtchkadifjbmmpaaDoor.R
open Go.RowKit Go.Lib
open Go.Proofs.YtchkadifjbmmpaaDoor.D (own_below own_mono)
set_option maxRecDepth 100000

def cs5 : List Rc → List Value
  | [] => []
  | r :: t => .int .i64 r.o :: .int .i64 r.s :: .int .i64 r.w :: .int .i64 r.c :: .string r.t :: cs5 t
theorem cs5_len : ∀ l : List Rc, (cs5 l).length = l.length * 5
  | [] => rfl
  | r :: t => by simp [cs5, cs5_len t]; omega
theorem cs5_one : ∀ (l : List Rc), ∀ u ∈ cs5 l, u.oneCell' = true
  | [], u, h => by simp [cs5] at h
  | r :: t, u, h => by
    simp only [cs5, List.mem_cons] at h
    rcases h with rfl | rfl | rfl | rfl | rfl | h
    · rfl
    · rfl
    · rfl
    · rfl
    · rfl
    · exact cs5_one t u h
theorem cs5_at : ∀ (l : List Rc) (k : Nat) (hk : k < l.length), (cs5 l)[k * 5]? = some (.int .i64 l[k].o) ∧ (cs5 l)[k * 5 + 1]? = some (.int .i64 l[k].s) ∧ (cs5 l)[k * 5 + 2]? = some (.int .i64 l[k].w) ∧ (cs5 l)[k * 5 + 3]? = some (.int .i64 l[k].c) ∧ (cs5 l)[k * 5 + 4]? = some (.string l[k].t)
  | [], k, hk => by simp at hk
  | r :: t, 0, _ => by simp [cs5]
  | r :: t, k + 1, hk => by
    have h := cs5_at t k (by simpa using hk)
    rw [show (k + 1) * 5 = k * 5 + 1 + 1 + 1 + 1 + 1 from by omega]
    simp only [cs5, List.getElem_cons_succ]
    refine ⟨?_, ?_, ?_, ?_, ?_⟩
    · simp only [List.getElem?_cons_succ]; exact h.1
    · rw [show k * 5 + 1 + 1 + 1 + 1 + 1 + 1 = (k * 5 + 1) + 1 + 1 + 1 + 1 + 1 from by omega]; simp only [List.getElem?_cons_succ]; exact h.2.1
    · rw [show k * 5 + 1 + 1 + 1 + 1 + 1 + 2 = (k * 5 + 2) + 1 + 1 + 1 + 1 + 1 from by omega]; simp only [List.getElem?_cons_succ]; exact h.2.2.1
    · rw [show k * 5 + 1 + 1 + 1 + 1 + 1 + 3 = (k * 5 + 3) + 1 + 1 + 1 + 1 + 1 from by omega]; simp only [List.getElem?_cons_succ]; exact h.2.2.2.1
    · rw [show k * 5 + 1 + 1 + 1 + 1 + 1 + 4 = (k * 5 + 4) + 1 + 1 + 1 + 1 + 1 from by omega]; simp only [List.getElem?_cons_succ]; exact h.2.2.2.2
theorem Recs.news {w : World} {b o : Nat} {l : List Rc} (h : Recs w b o l) : ∀ j u, (cs5 l)[j]? = some u → w.cell? ((⟨b, o, none⟩ : Addr).add j) = some u := by
  intro j u hu
  have hj : j < l.length * 5 := by have := (List.getElem?_eq_some_iff.1 hu).1; rwa [cs5_len] at this
  have hk : j / 5 < l.length := by omega
  rw [Go.WideShapes.add_plain]
  have h1 := h (j / 5) hk
  have h2 := cs5_at l (j / 5) hk
  have hd : j = j / 5 * 5 + j % 5 := by omega
  have hm : j % 5 < 5 := Nat.mod_lt _ (by decide)
  generalize j / 5 = q at *
  generalize j % 5 = r at *
  subst hd
  match r, hm with
  | 0, _ => rw [show o + (q * 5 + 0) = o + q * 5 from by omega, h1.1, ← hu]; exact h2.1.symm
  | 1, _ => rw [show o + (q * 5 + 1) = o + q * 5 + 1 from by omega, h1.2.1, ← hu]; exact h2.2.1.symm
  | 2, _ => rw [show o + (q * 5 + 2) = o + q * 5 + 2 from by omega, h1.2.2.1, ← hu]; exact h2.2.2.1.symm
  | 3, _ => rw [show o + (q * 5 + 3) = o + q * 5 + 3 from by omega, h1.2.2.2.1, ← hu]; exact h2.2.2.2.1.symm
  | 4, _ => rw [show o + (q * 5 + 4) = o + q * 5 + 4 from by omega, h1.2.2.2.2, ← hu]; exact h2.2.2.2.2.symm
theorem recInfo : (Tryd.prog.info? 36).map (fun i => (i.zero, i.size, i.bytes)) = some (some (.agg #[.int .i64 0, .int .i64 0, .int .i64 0, .int .i64 0, .string ⟨#[]⟩]), 5, 48) := by kernel_rfl

theorem cs5_app : ∀ a b : List Rc, cs5 (a ++ b) = cs5 a ++ cs5 b
  | [], _ => rfl
  | r :: t, b => by simp [cs5, cs5_app t b]
/-- The row v, of one's own from block B on, holds the records l. -/
def ORow (w : World) (B : Nat) (v : Value) (l : List Rc) : Prop := w.ownsRow B 36 5 v l.length (cs5 l)
theorem ORow.nil (w : World) (B : Nat) : ORow w B (.slice none 0 0) [] := World.ownsRow_nil _ _ _ _
theorem ORow.below {w w' : World} {B : Nat} {v : Value} {l : List Rc} (h : ORow w B v l) (hb : Below w.heap.size w w') : ORow w' B v l := own_below h hb
theorem ORow.mono {w : World} {B B' : Nat} {v : Value} {l : List Rc} (h : ORow w B v l) (hb : B' ≤ B) : ORow w B' v l := own_mono h hb
theorem ORow.rl {w : World} {B : Nat} {v : Value} {l : List Rc} (h : ORow w B v l) : Rl w v l := by
  rcases h.2 with ⟨rfl, h0⟩ | ⟨g, cap, cur, rfl, _, _, hn, _⟩
  · exact .inl ⟨rfl, List.eq_nil_of_length_eq_zero h0⟩
  · refine .inr ⟨⟨g, 0, none⟩, cap, rfl, hn, fun _ => ⟨g, 0, rfl, fun k hk => ?_⟩⟩
    have h1 := cs5_at l k hk
    have f : ∀ j, j < l.length * 5 → w.cell? ⟨g, j, none⟩ = (cs5 l)[j]? := fun j hj => World.ownsRow.cellAt h j hj
    rw [Nat.zero_add]
    exact ⟨(f _ (by omega)).trans h1.1, (f _ (by omega)).trans h1.2.1, (f _ (by omega)).trans h1.2.2.1, (f _ (by omega)).trans h1.2.2.2.1, (f _ (by omega)).trans h1.2.2.2.2⟩
theorem rapp_run (m l : List Rc) (v u : Value) (B : Nat) (w : World) (ty : TypeId) (hv : ORow w B v m) (h : Rl w u l) (hn : m.length + l.length ≤ 1000000) (hB : B ≤ w.heap.size) :
    ∃ v' w1, (Builtin.append_ #[28, 28] ty #[v, u]).run Tryd.prog w = .ok v' w1 ∧ ORow w1 B v' (m ++ l) ∧ w.grownBy w1 v.ownBlock := by
  obtain ⟨i0, hi, hz0, hz1, hz2⟩ := info_parts recInfo
  rcases h with ⟨rfl, rfl⟩ | ⟨ad, cap, rfl, _, h⟩
  · refine ⟨v, w, ?_, by rw [List.append_nil]; exact hv, grown_refl _ _⟩
    rcases hv.2 with ⟨rfl, h0⟩ | ⟨g, cap, cur, rfl, _, _, hn, _⟩
    · simp [Builtin.append_, go_sem, run_underlying Tryd.underlying28]
    · simp [Builtin.append_, go_sem, run_underlying Tryd.underlying28]
      intro hh
      omega
  · obtain ⟨v', w', h1, h2, h3, _, _⟩ := run_append_own_at (P := Tryd.prog) w B 28 ty 36 i0 _ 5 48 Tryd.underlying28 hi hz0 hz1 hz2 rfl (by decide) v m.length (cs5 m) hv ad l.length cap (cs5 l) (cs5_len l) (fun j u hu => by
      have hj : j < l.length * 5 := by have := (List.getElem?_eq_some_iff.1 hu).1; rwa [cs5_len] at this
      obtain ⟨b, o, rfl, hR⟩ := h (by omega)
      exact hR.news j u hu) (cs5_one l) (by unfold maxLen; omega) (by omega) hB
    refine ⟨v', w', h1, ?_, h3⟩
    unfold ORow
    rw [List.length_append, cs5_app]
    exact h2
theorem step_rapp {w : World} {ops : Array Oper} {o : Oper} {a : Act} {K : Act → World → Prop} {Q : Exit → Act → World → Prop} {E : Prop} (hgd : o.guard = none) (s x : Operand)
    (ho : o.op = .call { callee := .builtin .append, args := #[s, x], argTypes := #[28, 28] })
    (B : Nat) (v u : Value) (m l : List Rc) (hs : a.eval s = v) (hx : a.eval x = u) (hv : ORow w B v m) (hu : Rl w u l) (hn : m.length + l.length ≤ 1000000) (hB : B ≤ w.heap.size)
    (h : ∀ v' w', ORow w' B v' (m ++ l) → w.grownBy w' v.ownBlock → K (a.put o.dst v') w') :
    if Region.wanted o (yielded ops a.tmps) = true then Oper.wp Tryd.prog o a w K Q else E := by
  have hw : Region.wanted o (yielded ops a.tmps) = true := by simp [Region.wanted, hgd]
  rw [if_pos hw]
  obtain ⟨v', w', hr, h2, h3⟩ := rapp_run m l v u B w o.type hv hu hn hB
  unfold Oper.wp execOp
  simp only [ho, resolve, invoke, builtin, Sem.run_bind, Sem.run_pure, Result.andThen_ok, List.map_toArray, List.map_cons, List.map_nil, hs, hx, hr]
  exact h v' w' h2 h3
/-- One record that has just been laid. -/
theorem rl_one (w : World) (B : Nat) (r : Rc) (h : Bx 36 w B #[.int .i64 r.o, .int .i64 r.s, .int .i64 r.w, .int .i64 r.c, .string r.t]) : Rl w (.slice (some ⟨B, 0, none⟩) 1 1) [r] := by
  obtain ⟨c0, c1, c2, c3, c4⟩ := h.five
  refine .inr ⟨_, 1, rfl, Nat.le_refl _, fun _ => ⟨B, 0, rfl, fun k hk => ?_⟩⟩
  have hk2 : k < 1 := hk
  match k, hk2 with
  | 0, _ => exact ⟨c0, c1, c2, c3, c4⟩
theorem Recs.take {w : World} {b o : Nat} {l : List Rc} (h : Recs w b o l) (k : Nat) : Recs w b o (l.take k) := fun j hj => by
  rw [List.length_take] at hj
  rw [List.getElem_take]
  exact h j (by omega)
theorem Recs.drop {w : World} {b o : Nat} {l : List Rc} (h : Recs w b o l) (k : Nat) : Recs w b (o + k * 5) (l.drop k) := fun j hj => by
  rw [List.length_drop] at hj
  rw [List.getElem_drop]
  have h1 := h (k + j) (by omega)
  rw [show o + k * 5 + j * 5 = o + (k + j) * 5 from by omega]
  exact h1

/-- A piece of a list of records holds the piece of them. -/
theorem rl_sliced {w : World} {ad : Option Addr} {cap : Nat} {l : List Rc} (h : Rl w (.slice ad l.length cap) l) (lo hi : Nat) (hlh : lo ≤ hi) (hhi : hi ≤ l.length) : Rl w (sliced ad lo hi cap 5) ((l.drop lo).take (hi - lo)) := by
  have hlen : (List.take (hi - lo) (List.drop lo l)).length = hi - lo := by simp; omega
  rcases h with ⟨e, rfl⟩ | ⟨a, c, e, hcap, h2⟩
  · simp only [Value.slice.injEq] at e
    obtain ⟨rfl, _, rfl⟩ := e
    simp at hhi
    subst hhi
    obtain rfl : lo = 0 := by omega
    exact .inl ⟨rfl, rfl⟩
  · simp only [Value.slice.injEq] at e
    obtain ⟨rfl, _, rfl⟩ := e
    refine .inr ⟨if cap = lo then a else a.add (lo * 5), cap - lo, ?_, by omega, fun h0 => ?_⟩
    · rw [hlen]
      unfold sliced
      split <;> rfl
    · rw [hlen] at h0
      obtain ⟨b, o, rfl, hs⟩ := h2 (by omega)
      by_cases hc : cap = lo
      · omega
      · rw [if_neg hc]
        exact ⟨b, o + lo * 5, Go.WideShapes.add_plain .., (hs.drop lo).take (hi - lo)⟩
theorem rslice_run (ad : Option Addr) (n cap : Nat) (lo hi : Option Value) (l h : Nat) (W : World) (hb : (Instr.sliceBounds true n cap lo hi none).run Tryd.prog W = .ok (l, h, cap) W) : (Instr.sliceAt 28 (.slice ad n cap) lo hi none).run Tryd.prog W = .ok (sliced ad l h cap 5) W := by
  have hs : (sizeOf 36).run Tryd.prog W = .ok 5 W := by
    simp [sizeOf]
    rfl
  rw [run_sliceAt_slice W _ _ _ _ _ Tryd.underlying28, run_slice_any W _ _ _ _ Tryd.underlying28, hb]
  simp only [Result.andThen]
  rw [show Tryd.prog.elem 28 = 36 by kernel_rfl, hs]
end Go.Proofs.YtchkadifjbmmpaaDoor.R
namespace Go.Proofs.YtchkadifjbmmpaaDoor
open Go.RowKit Go.Shelf Go.Lib Go.ChangeShapes Go.WideShapes Go.ChangeAt Go.Deep Go.Joins
set_option maxRecDepth 100000

/-- A record, off its cells: its Key's numbers are such that an int holds. -/
theorem rec_in {H : Type} {enc : TypeId × Value → H} {W : World} {base : Nat} {spare : Nat → Bool} {held : Bool} {fuel : Nat} {cs : List Value} {x : DataW H × List MemPlace}
    (h : DataW.trod enc Tryd.prog W base spare held fuel 36 cs = some x) : ∃ r : R.Rc, cs = [.int .i64 r.o, .int .i64 r.s, .int .i64 r.w, .int .i64 r.c, .string r.t] ∧ r.t.size ≤ maxLen ∧ okKy (r.o, r.s) := by
  obtain ⟨y0, y1, y2, n, _, hl, h0, h1, h2⟩ := trod_struct3 Tryd.underlying36 h
  have c5 : Tryd.prog.cellsOf 36 = 5 := by kernel_rfl
  have ck : Tryd.prog.cellsOf 32 = 2 := by kernel_rfl
  have cs2 : Tryd.prog.cellsOf 34 = 2 := by kernel_rfl
  have c9 : Tryd.prog.cellsOf 9 = 1 := by kernel_rfl
  have c3 : Tryd.prog.cellsOf 3 = 1 := by kernel_rfl
  rw [c5] at hl
  match cs, hl with
  | [u0, u1, u2, u3, u4], _ =>
    obtain ⟨c, d, e1⟩ := R.pair_cells Tryd.underlying34 rfl rfl rfl rfl cs2 h1
    obtain ⟨s, e2, _, hs⟩ := DataW.trod_string Tryd.underlying9 h2
    obtain ⟨z0, z1, m, _, hl2, k0, k1⟩ := trod_struct2 Tryd.underlying32 h0
    simp [cs2, c9] at e1 e2
    simp only [ck, c3, List.drop_zero, List.drop_succ_cons, List.take_succ_cons, List.take_zero] at k0 k1
    obtain ⟨a, f0, _, w0⟩ := DataW.trod_int (t := 3) Tryd.underlying3 k0
    obtain ⟨b, f1, _, w1⟩ := DataW.trod_int (t := 3) Tryd.underlying3 k1
    simp at f0 f1
    refine ⟨⟨a, b, c, d, s⟩, ?_, hs, R.wf_i64 w0, R.wf_i64 w1⟩
    rw [f0, f1, e1.1, e1.2, e2]
theorem open_recs {H : Type} {enc : TypeId × Value → H} {W : World} {r : Reach} {b0 base : Nat} {spare : Nat → Bool} {held : Bool} {v : Value} {d : DataW H} {p : List MemPlace}
    (hv : Value.okWide Tryd.prog W r b0 28 v) (h : DataW.Trod enc Tryd.prog W base spare held 28 v d p) : ∃ l : List R.Rc, R.Rl W v l ∧ (∀ x ∈ l, x.t.size ≤ 9223372036854775807 ∧ okKy (kyR x)) ∧ l.length ≤ maxLen := by
  obtain ⟨ad, len, cap, rfl⟩ := okWide_slice Tryd.underlying28 hv
  obtain ⟨fuel, hf⟩ := h
  simp only [Value.cells] at hf
  have c5 : Tryd.prog.cellsOf 36 = 5 := by kernel_rfl
  rcases open_slice Tryd.underlying28 hf with ⟨e, _⟩ | ⟨a, len', cap', m, n, D, Pl, e, hb, hl, hm, hmm, _, hi⟩
  · simp only [List.cons.injEq, and_true] at e
    rw [e]
    exact ⟨[], .inl ⟨rfl, rfl⟩, fun x hx => by simp at hx, Nat.zero_le _⟩
  · simp only [List.cons.injEq, and_true, Value.slice.injEq] at e
    obtain ⟨rfl, rfl, rfl⟩ := e
    have hlm : len ≤ m := by rw [hmm]; split <;> omega
    have each : ∀ i, i < len → ∃ q : R.Rc, (∀ j, j < 5 → W.cell? ((a.add (i * 5)).add j) = [.int .i64 q.o, .int .i64 q.s, .int .i64 q.w, .int .i64 q.c, .string q.t][j]?) ∧ q.t.size ≤ maxLen ∧ okKy (q.o, q.s) := by
      intro i hi'
      obtain ⟨cs', h1, h2⟩ := hi i (by omega)
      rw [c5] at h1
      obtain ⟨_, _, h3⟩ := World.cells?_some h1
      obtain ⟨q, e, hq⟩ := rec_in h2
      exact ⟨q, fun j hj => by rw [h3 j hj, e], hq⟩
    obtain ⟨q, hq⟩ := choose_lt each
    refine ⟨(List.range len).map q, .inr ⟨a, cap, by simp, by simpa using hl, fun h0 => ?_⟩, fun x hx => ?_, by simp; omega⟩
    · have h0' : 0 < len := by simpa using h0
      have hsp : a.spot = none := by
        have h1 := (hq 0 h0').1 0 (by decide)
        obtain ⟨b, o, s⟩ := a
        cases s with
        | none => rfl
        | some s => simp [World.cell?, Addr.add] at h1; split at h1 <;> simp at h1
      refine ⟨a.block, a.off, by obtain ⟨b, o, s⟩ := a; simp only at hsp; subst hsp; rfl, fun k hk => ?_⟩
      have hk' : k < len := by simpa using hk
      have h1 := (hq k hk').1
      rw [R.add_off a _ hsp] at h1
      have h2 : ∀ j, j < 5 → W.cell? ⟨a.block, a.off + k * 5 + j, none⟩ = [.int .i64 (q k).o, .int .i64 (q k).s, .int .i64 (q k).w, .int .i64 (q k).c, .string (q k).t][j]? := fun j hj => by
        rw [← h1 j hj, add_plain]
      simp only [List.getElem_map, List.getElem_range]
      exact ⟨h2 0 (by decide), h2 1 (by decide), h2 2 (by decide), h2 3 (by decide), h2 4 (by decide)⟩
    · obtain ⟨i, hi2, rfl⟩ := List.mem_map.1 hx
      have := (hq i (by simpa using hi2)).2
      unfold maxLen at this
      exact ⟨by omega, this.2⟩
theorem own : ownKnob Tryd.prog.godebug = none := by kernel_rfl
theorem trodAll_stays {H : Type} {enc : TypeId × Value → H} {P : Program} (hl : laidOutB P = true) {W W' : World} (hb : Below W.heap.size W W') :
    ∀ (ts : List TypeId) (vs : List Value) (ds : List (DataW H)) (ps : List MemPlace), (∀ t ∈ ts, P.readableRec t = true ∧ t < P.types.size) → DataW.TrodAll enc P W 0 (fun _ => true) true ts vs ds ps → (∀ x ∈ ps, x.block < W.heap.size) →
      DataW.TrodAll enc P W' 0 (fun b => decide (b < W.heap.size)) true ts vs ds ps
  | [], [], [], _, _, h, _ => h
  | t :: ts, v :: vs, d :: ds, ps, hr, h, hlt => by
    obtain ⟨p, q, h1, h2, rfl⟩ := h
    have hr1 := hr t (List.mem_cons_self ..)
    exact ⟨p, q, Below.trod hl hr1.1 hr1.2 h1 hb (fun x hx => hlt x (List.mem_append_left _ hx)),
      trodAll_stays hl hb ts vs ds q (fun t' ht' => hr t' (List.mem_cons_of_mem _ ht')) h2 (fun x hx => hlt x (List.mem_append_right _ hx)), rfl⟩
  | [], [], _ :: _, _, _, h, _ => h.elim
  | [], _ :: _, _, _, _, h, _ => h.elim
  | _ :: _, [], _, _, _, h, _ => h.elim
  | _ :: _, _ :: _, [], _, _, h, _ => h.elim

theorem trodAll_len {H : Type} {enc : TypeId × Value → H} {P : Program} {W : World} {base : Nat} {spare : Nat → Bool} {held : Bool} :
    ∀ (ts : List TypeId) (vs : List Value) (ds : List (DataW H)) (ps : List MemPlace), DataW.TrodAll enc P W base spare held ts vs ds ps → ds.length = ts.length
  | [], [], [], _, _ => rfl
  | t :: ts, v :: vs, d :: ds, ps, h => by
    obtain ⟨p, q, _, h2, _⟩ := h
    simp [trodAll_len ts vs ds q h2]
  | [], [], _ :: _, _, h => h.elim
  | [], _ :: _, _, _, h => h.elim
  | _ :: _, [], _, _, h => h.elim
  | _ :: _, _ :: _, [], _, h => h.elim

/-- The step from a contract to the row. -/
theorem laid_lift {H : Type} {enc : TypeId × Value → H} {C : Checked} {os : Os} {f : FuncId} {fn : Func} {s : ChangeSpec} {L : List (String × DataW Unit)}
    (hown : ownKnob C.prog.godebug = none) (started : os.Started) (noInit : C.prog.inits.idxOf? f = none) (hfn : C.prog.funcs[f]? = some fn)
    (witness : ∃ (w : World) (tape : Tape) (i : Input), w.os = os ∧ (w.forCall tape i).Shaped C.prog ∧ i.vars = [] ∧ Input.okWide C.prog (w.forCall tape i) .any w.heap.size f i ∧
      ((s.pre enc C.prog fn [] false (w.forCall tape i).memory i.args ∧ laidMetH C.prog L (w.forCall tape i).memory) ∧ sizedMet enc C.prog fn (OpenSpec.ofChange s) false (w.forCall tape i).memory i.args) ∧ ({} : Assume).holds C.prog (lone (Frame.enter C.prog f i.args .normal) [] (w.forCall tape i)))
    (hl : laidOutB C.prog = true) (hr : ∀ t ∈ fn.params.toList, C.prog.readableRec t = true ∧ t < C.prog.types.size)
    (hv : s.vars = []) (b : TypeId) (hb : C.prog.underlying b = some .bool) (hres : fn.resultTypes = #[b])
    (hs : ∀ (ds : List (DataW H)), ds.length = fn.params.toList.length → s.fn H ds = { results := [.lit (.bool true)], args := ds })
    (contract : ∀ (W : World) (base : Nat) (args : Array Value) (ds : List (DataW H)) (ps : List MemPlace),
      (∀ (j : Nat) t v, fn.params[j]? = some t → args[j]? = some v → Value.okWide C.prog W .any base t v) →
      DataW.TrodAll enc C.prog W 0 (fun _ => true) true fn.params.toList args.toList ds ps → laidMetH C.prog L W →
      Calls C.prog f args W fun e W' => e = .returned (.bool true) ∧ Below W.heap.size W W') :
    ReturnsInHanded {} C os f .any (fun w args => (s.pre enc C.prog fn [] false w args ∧ laidMetH C.prog L w) ∧ sizedMet enc C.prog fn (OpenSpec.ofChange s) false w args) (s.post enc C.prog fn false true false false) := by
  refine returnsInHanded_of_change_and (X := fun w _ => laidMetH C.prog L w) (fun _ _ _ hh h => h.of_heap hh) hown started noInit hfn witness ?_
  intro W base args ds gs before hval hW _ _ hL _
  have hW' := hW
  have hlt := hW.lt
  obtain ⟨p, q, hA, hV, rfl, _, _⟩ := hW
  rw [hv] at hV
  obtain ⟨rfl, rfl⟩ : gs = [] ∧ q = [] := by
    cases gs with
    | nil => exact ⟨rfl, hV⟩
    | cons g gs => exact hV.elim
  simp only [List.append_nil] at hW' hlt
  refine (contract W base args ds p hval hA hL).mono fun e W' ⟨he, hbl⟩ => ?_
  subst he
  have hfn' := hs ds (trodAll_len _ _ _ _ hA)
  refine ⟨_, rfl, ds, [], p, [], p, [], hW', ?_, ?_, ?_, hbl.frame _, fun h => by cases h⟩
  · rw [List.append_nil, hfn', hres]
    exact trodAll_mk1 (shut_bool hb true)
  · rw [List.append_nil, hfn']
    exact trodAll_stays hl hbl _ _ _ _ hr hA hlt
  · rw [List.append_nil, hfn', hv]
    rfl

def seatLaid : List (String × DataW Unit) := Rows.treeOriginsRow.laid
theorem xU : U8Extra Tryd.prog Tryd.lays196_ren := ⟨by kernel_rfl, by kernel_rfl, by kernel_rfl, by kernel_rfl, by kernel_rfl, by kernel_rfl, by kernel_rfl⟩
theorem acc_eq : (Rows.laid_unicode_utf8_acceptRanges : DataW Unit) = Lib.acceptData := by kernel_rfl
theorem tabs_of_laid (W : World) (hL : laidMetH Tryd.prog seatLaid W) : R.Tabs W := by
  rw [MakeChecks.laidMetH_plain _ _ _ (by kernel_rfl)] at hL
  have r0 := Lib.laidMet.reads hL (.head _)
  have r1 := Lib.laidMet.reads hL (.tail _ (.head _))
  rw [acc_eq] at r0
  rw [show (Rows.laid_unicode_utf8_first) = Lib.firstData from Pinned.utf8First_eq] at r1
  exact utf8Tabs_of_readsT (U8Types.of196 Tryd.lays196) xU r1 r0
theorem laid_world (os : Os) (args : Array Value) : laidMetH Tryd.prog seatLaid ((World.laidAll Tryd.prog os seatLaid).forCall (fun _ _ => 0) ⟨#[], args, []⟩).memory := by
  rw [MakeChecks.laidMetH_plain _ _ _ (by kernel_rfl)]
  exact laidMet_laidAll _ (by kernel_rfl) (by kernel_rfl)

end Go.Proofs.YtchkadifjbmmpaaDoor
namespace Go.Proofs.YtchkadifjbmmpaaDoor
open Go.RowKit Go.Lib Go.ChangeShapes Go.WideShapes Go.ChangeAt Go.Deep Go.Joins
set_option maxRecDepth 100000

/-- An act: whether it drops, and its record. -/
structure Ac where
  d : Bool
  r : R.Rc
/-- An act as it lies. -/
def AAt (w : World) (b o : Nat) (x : Ac) : Prop := w.cell? ⟨b, o, none⟩ = some (.bool x.d) ∧ w.cell? ⟨b, o + 1, none⟩ = some (.int .i64 x.r.o) ∧ w.cell? ⟨b, o + 2, none⟩ = some (.int .i64 x.r.s) ∧ w.cell? ⟨b, o + 3, none⟩ = some (.int .i64 x.r.w) ∧ w.cell? ⟨b, o + 4, none⟩ = some (.int .i64 x.r.c) ∧ w.cell? ⟨b, o + 5, none⟩ = some (.string x.r.t)
theorem AAt.below {w w' : World} {b o : Nat} {x : Ac} (h : AAt w b o x) (hb : Below w.heap.size w w') : AAt w' b o x := by
  obtain ⟨h0, h1, h2, h3, h4, h5⟩ := h
  have f : ∀ {a : Addr} {v : Value}, w.cell? a = some v → w'.cell? a = some v := fun {a v} hc => (hb.cell (World.block_lt_of_cell? w a hc)).trans hc
  exact ⟨f h0, f h1, f h2, f h3, f h4, f h5⟩
/-- A list of acts as it can be read. -/
def Al (w : World) (v : Value) (l : List Ac) : Prop :=
  ∃ ad cap, v = .slice ad l.length cap ∧ l.length ≤ cap ∧ (0 < l.length → ∃ b o, ad = some ⟨b, o, none⟩ ∧ ∀ k (hk : k < l.length), AAt w b (o + k * 6) l[k])
theorem Al.below {w w' : World} {v : Value} {l : List Ac} (h : Al w v l) (hb : Below w.heap.size w w') : Al w' v l := by
  obtain ⟨ad, cap, h1, h2, h3⟩ := h
  exact ⟨ad, cap, h1, h2, fun h0 => by obtain ⟨b, o, e, hs⟩ := h3 h0; exact ⟨b, o, e, fun k hk => (hs k hk).below hb⟩⟩
deriving instance Inhabited for Ac
theorem act_cells {H : Type} {enc : TypeId × Value → H} {W : World} {base : Nat} {spare : Nat → Bool} {held : Bool} {fuel : Nat} {cs : List Value} {x : DataW H × List MemPlace}
    (h : DataW.trod enc Tryd.prog W base spare held fuel 38 cs = some x) : ∃ a : Ac, cs = [.bool a.d, .int .i64 a.r.o, .int .i64 a.r.s, .int .i64 a.r.w, .int .i64 a.r.c, .string a.r.t] ∧ a.r.t.size ≤ maxLen ∧ okKy (a.r.o, a.r.s) := by
  obtain ⟨y0, y1, n, _, hl, h0, h1⟩ := trod_struct2 Tryd.underlying38 h
  have c6 : Tryd.prog.cellsOf 38 = 6 := by kernel_rfl
  have c5 : Tryd.prog.cellsOf 36 = 5 := by kernel_rfl
  have c4 : Tryd.prog.cellsOf 4 = 1 := by kernel_rfl
  rw [c6] at hl
  match cs, hl with
  | [u0, u1, u2, u3, u4, u5], _ =>
    simp only [c4, c5, List.drop_zero, List.take_succ_cons, List.take_zero] at h0 h1
    obtain ⟨a, e0, _⟩ := DataW.trod_bool Tryd.underlying4 h0
    obtain ⟨r, e1, hs⟩ := rec_in h1
    simp at e0 e1
    exact ⟨⟨a, r⟩, by simp [e0, e1], hs⟩
theorem open_acts {H : Type} {enc : TypeId × Value → H} {W : World} {r : Reach} {b0 base : Nat} {spare : Nat → Bool} {held : Bool} {v : Value} {d : DataW H} {p : List MemPlace}
    (hv : Value.okWide Tryd.prog W r b0 22 v) (h : DataW.Trod enc Tryd.prog W base spare held 22 v d p) : ∃ l : List Ac, Al W v l ∧ (∀ x ∈ l, x.r.t.size ≤ 9223372036854775807 ∧ okKy (x.r.o, x.r.s)) ∧ l.length ≤ maxLen := by
  obtain ⟨ad, len, cap, rfl⟩ := okWide_slice Tryd.underlying22 hv
  obtain ⟨fuel, hf⟩ := h
  simp only [Value.cells] at hf
  have c6 : Tryd.prog.cellsOf 38 = 6 := by kernel_rfl
  rcases open_slice Tryd.underlying22 hf with ⟨e, _⟩ | ⟨a, len', cap', m, n, D, Pl, e, hb, hl, hm, hmm, _, hi⟩
  · simp only [List.cons.injEq, and_true] at e
    rw [e]
    exact ⟨[], ⟨none, 0, rfl, Nat.le_refl _, fun h => by simp at h⟩, fun x hx => by simp at hx, Nat.zero_le _⟩
  · simp only [List.cons.injEq, and_true, Value.slice.injEq] at e
    obtain ⟨rfl, rfl, rfl⟩ := e
    have hlm : len ≤ m := by rw [hmm]; split <;> omega
    have each : ∀ i, i < len → ∃ q : Ac, (∀ j, j < 6 → W.cell? ((a.add (i * 6)).add j) = [.bool q.d, .int .i64 q.r.o, .int .i64 q.r.s, .int .i64 q.r.w, .int .i64 q.r.c, .string q.r.t][j]?) ∧ q.r.t.size ≤ maxLen ∧ okKy (q.r.o, q.r.s) := by
      intro i hi'
      obtain ⟨cs', h1, h2⟩ := hi i (by omega)
      rw [c6] at h1
      obtain ⟨_, _, h3⟩ := World.cells?_some h1
      obtain ⟨q, e, hq⟩ := act_cells h2
      exact ⟨q, fun j hj => by rw [h3 j hj, e], hq⟩
    obtain ⟨q, hq⟩ := choose_lt each
    refine ⟨(List.range len).map q, ⟨some a, cap, by simp, by simpa using hl, fun h0 => ?_⟩, fun x hx => ?_, by simp; omega⟩
    · have h0' : 0 < len := by simpa using h0
      have hsp : a.spot = none := by
        have h1 := (hq 0 h0').1 0 (by decide)
        obtain ⟨b, o, s⟩ := a
        cases s with
        | none => rfl
        | some s => simp [World.cell?, Addr.add] at h1; split at h1 <;> simp at h1
      refine ⟨a.block, a.off, by obtain ⟨b, o, s⟩ := a; simp only at hsp; subst hsp; rfl, fun k hk => ?_⟩
      have hk' : k < len := by simpa using hk
      have h1 := (hq k hk').1
      rw [R.add_off a _ hsp] at h1
      have h2 : ∀ j, j < 6 → W.cell? ⟨a.block, a.off + k * 6 + j, none⟩ = [.bool (q k).d, .int .i64 (q k).r.o, .int .i64 (q k).r.s, .int .i64 (q k).r.w, .int .i64 (q k).r.c, .string (q k).r.t][j]? := fun j hj => by
        rw [← h1 j hj, add_plain]
      simp only [List.getElem_map, List.getElem_range]
      exact ⟨h2 0 (by decide), h2 1 (by decide), h2 2 (by decide), h2 3 (by decide), h2 4 (by decide), h2 5 (by decide)⟩
    · obtain ⟨i, hi2, rfl⟩ := List.mem_map.1 hx
      have := (hq i (by simpa using hi2)).2
      unfold maxLen at this
      exact ⟨by omega, this.2⟩
end Go.Proofs.YtchkadifjbmmpaaDoor
namespace Go.Proofs.YtchkadifjbmmpaaDoor
open Go.RowKit Go.Lib Go.Maps
set_option maxRecDepth 100000
set_option linter.unusedSimpArgs false

def longA : List Ac → Bool
  | [] => false
  | r :: t => decide (300 < (r.r.t.size : Int)) || longA t
def greatA (l : List Ac) (m : Nat) : Bool := decide (m < l.length) || longA l
theorem longA_mem : ∀ {l : List Ac}, longA l = false → ∀ r ∈ l, r.r.t.size ≤ 300
  | [], _, _, h => by simp at h
  | x :: t, h, r, hr => by
    rw [longA] at h
    simp only [Bool.or_eq_false_iff, decide_eq_false_iff_not] at h
    rcases List.mem_cons.1 hr with rfl | hr
    · omega
    · exact longA_mem h.2 r hr
theorem greatA_no {l : List Ac} {m : Nat} (h : greatA l m = false) : l.length ≤ m ∧ ∀ r ∈ l, r.r.t.size ≤ 300 := by
  unfold greatA at h
  simp only [Bool.or_eq_false_iff, decide_eq_false_iff_not] at h
  exact ⟨by omega, longA_mem h.2⟩
set_option maxHeartbeats 4000000 in
theorem greatA_c (l : List Ac) (v : Value) (m : Nat) (w : World) (h : Al w v l) (hm : m ≤ 1000) (hl : l.length ≤ maxLen) :
    Calls Tryd.prog 12 #[v, .int .i64 (m : Int)] w fun e w' => e = .returned (.bool (greatA l m)) ∧ Below w.heap.size w w' := by
  obtain ⟨ad, cap, rfl, hc, hb⟩ := h
  have HB := Lib.hid hb
  unfold maxLen at hl
  clear hb
  unfold greatA
  by_cases h0 : m < l.length
  · have e1 : decide (l.length ≤ m) = false := by simp; omega
    have e2 : decide (m < l.length) = true := by simp; omega
    rw [decide_eq_true h0, Bool.true_or]
    go_enter Tryd.func12, Tryd.ntmps12
    go_wp2
    go_loopw [5] (fun v5 wr => v5 = .int .i64 0 ∧ wr = w) (fun _ _ => 0)
    case atStart => exact ⟨rfl, rfl⟩
    case round =>
      obtain ⟨rfl, rfl⟩ := hrel
      have e0 : decide ((0 : Int) < (l.length : Int)) = true := by simp; omega
      go_wp2
      go_ret
      exact ⟨rfl, Below.refl _ _⟩
  · have e1 : decide (l.length ≤ m) = true := by simp; omega
    have e2 : decide (m < l.length) = false := by simp; omega
    rw [decide_eq_false h0, Bool.false_or]
    have hlm : l.length ≤ 1000 := by omega
    clear h0
    go_enter Tryd.func12, Tryd.ntmps12
    go_wp2
    go_loopw [5] (fun v5 wr => ∃ k : Nat, k ≤ l.length ∧ v5 = .int .i64 (k : Int) ∧ Hid (longA (l.drop k) = longA l) ∧ wr = w) (fun v5 _ => l.length - (RowKit.intOf v5).toNat)
    case atStart => exact ⟨0, by omega, rfl, Lib.hid rfl, rfl⟩
    case round =>
      obtain ⟨k, hk, rfl, hs, rfl⟩ := hrel
      by_cases hp : k < l.length
      · have e0 : decide ((k : Int) < (l.length : Int)) = true := by simp; omega
        obtain ⟨b, o, rfl, hR⟩ := HB.out (by omega)
        obtain ⟨_, _, _, _, _, c4⟩ := hR k hp
        have hbl : b < wr.heap.size := World.block_lt_of_cell? wr _ c4
        have hs' := hs.out
        rw [List.drop_eq_getElem_cons hp, longA] at hs'
        clear hs hR
        generalize l[k].r.t = T at c4 hs'
        by_cases hx : 300 < (T.size : Int)
        · have e3 : decide (300 < (T.size : Int)) = true := by simpa using hx
          rw [e3, Bool.true_or] at hs'
          have HS := Lib.hid hs'
          clear hs'
          go_wp2
          go_ret
          exact ⟨by rw [← HS.out]; rfl, Below.refl _ _⟩
        · have e3 : decide (300 < (T.size : Int)) = false := by simpa using hx
          rw [e3, Bool.false_or] at hs'
          have HS := Lib.hid hs'
          clear hs'
          go_wp2
          go_roundw
          case rel => exact ⟨k + 1, hp, by go_num, HS, trivial⟩
          case measure => simp [RowKit.intOf]; omega
      · have e0 : decide ((k : Int) < (l.length : Int)) = false := by simp; omega
        have hs' := hs.out
        rw [List.drop_eq_nil_of_le (by omega), longA] at hs'
        have HS := Lib.hid hs'
        clear hs' hs
        go_wp2
        go_ret
        exact ⟨by rw [← HS.out]; rfl, Below.refl _ _⟩

end Go.Proofs.YtchkadifjbmmpaaDoor
namespace Go.Proofs.YtchkadifjbmmpaaDoor
open Go.RowKit Go.Lib Go.Maps
set_option maxRecDepth 100000
set_option linter.unusedSimpArgs false

/-- Where a Key stands first; -1. -/
def FindS (L : List R.Rc) (k : Ky) (n : Int) : Prop :=
  (n = -1 ∧ ∀ r ∈ L, kyR r ≠ k) ∨ ∃ i, ∃ h : i < L.length, n = (i : Int) ∧ kyR L[i] = k ∧ ∀ j, j < i → ∀ h : j < L.length, kyR L[j] ≠ k
set_option maxHeartbeats 16000000 in
theorem find_c (q : Nat) (L : List R.Rc) (ad : Option Addr) (cap : Nat) (ko ks : Int) (w : World) (hb : R.Bx 30 w q #[.slice ad L.length cap]) (h : R.Rl w (.slice ad L.length cap) L) (hl : L.length ≤ maxLen) :
    Calls Tryd.prog 37 #[.pointer (some ⟨q, 0, none⟩), .agg #[.int .i64 ko, .int .i64 ks]] w fun e w' => ∃ n, e = .returned (.int .i64 n) ∧ FindS L (ko, ks) n ∧ Below w.heap.size w w' := by
  have mixed : Tryd.prog.follows .mixedOrders = true := by kernel_rfl
  have hl2 := hl
  unfold maxLen at hl2
  have al := alloc_below w (.cells #[.int .i64 ko, .int .i64 ks] 32)
  obtain ⟨w1, hw1⟩ : ∃ w1, w1 = w.alloc (.cells #[.int .i64 ko, .int .i64 ks] 32) := ⟨_, rfl⟩
  have B1 : Hid (Below w.heap.size w w1) := Lib.hid (by rw [hw1]; exact al)
  have K1 : Hid (R.Bx 32 w1 w.heap.size #[.int .i64 ko, .int .i64 ks]) := Lib.hid (by rw [hw1]; exact R.Bx.new _ w _)
  have HW1 := Lib.hid hw1
  have HRL := Lib.hid h
  have HB := Lib.hid hb
  have S0 : Hid (Below w1.heap.size w1 w1) := Lib.hid (Below.refl _ _)
  have N0 : Hid (∀ j, j < 0 → ∀ h : j < L.length, kyR L[j] ≠ (ko, ks)) := Lib.hid (fun j hj => by omega)
  clear h hb hl al hw1
  go_enter Tryd.func37, Tryd.ntmps37
  go_wp2_with fail
  rw [← HW1.out]
  clear HW1
  go_loopw [5] (fun v5 wr => ∃ i : Nat, i ≤ L.length ∧ v5 = .int .i64 (i : Int) ∧ Hid (∀ j, j < i → ∀ h : j < L.length, kyR L[j] ≠ (ko, ks)) ∧ Hid (Below w1.heap.size w1 wr)) (fun v5 _ => L.length - (RowKit.intOf v5).toNat)
  case atStart => exact ⟨0, by omega, rfl, N0, S0⟩
  case round =>
    obtain ⟨i, hi, rfl, NI, HN⟩ := hrel
    clear N0 S0
    have BI : Hid (Below w.heap.size w wr) := Lib.hid (bn B1.out HN.out)
    have q0 := (HB.out.below BI.out).cell 0
    simp only [List.getElem?_toArray, List.getElem?_cons_zero] at q0
    have hlq := World.block_lt_of_cell? _ _ q0
    have k0 := (K1.out.below HN.out).cell 0
    have k1 := (K1.out.below HN.out).cell 1
    simp only [List.getElem?_toArray, List.getElem?_cons_zero, List.getElem?_cons_succ] at k0 k1
    have hlk := World.block_lt_of_cell? _ _ k0
    by_cases hp : i < L.length
    · have HP := Lib.hid hp
      obtain ⟨ad2, cap2, e, _, hc⟩ := (HRL.out.below BI.out).form
      simp only [Value.slice.injEq, true_and] at e
      obtain ⟨rfl, rfl⟩ := e
      obtain ⟨g, o, rfl, hrc⟩ := hc (by omega)
      obtain ⟨x0, x1, _, _, _⟩ := hrc i hp
      have hgl := World.block_lt_of_cell? _ _ x0
      have hkk : (kyR L[i] = (ko, ks)) ↔ (L[i].o = ko ∧ L[i].s = ks) := by unfold kyR; exact Prod.mk.injEq .. ▸ Iff.rfl
      have HKK := Lib.hid hkk
      clear hc hrc hkk
      have hkk := HKK.out
      clear HKK
      generalize L[i].o = xo at *
      generalize L[i].s = xs at *
      have HKK := Lib.hid hkk
      clear hkk
      by_cases he : xo = ko ∧ xs = ks
      · have hY := HKK.out.2 he
        have HRES : Hid (FindS L (ko, ks) (i : Int)) := Lib.hid (.inr ⟨i, HP.out, rfl, hY, NI.out⟩)
        obtain ⟨rfl, rfl⟩ := he
        clear hY
        go_wp2_with fail
        go_quiet (fail)
        go_wp2_with fail
        go_ret
        exact ⟨(i : Int), rfl, HRES.out, below_drewN BI.out _⟩
      · have hN : ¬ kyR L[i] = (ko, ks) := fun hh => he (HKK.out.1 hh)
        have HNN : Hid (∀ j, j < i + 1 → ∀ h : j < L.length, kyR L[j] ≠ (ko, ks)) := Lib.hid (fun j hj h => by
          by_cases hji : j = i
          · subst hji
            exact hN
          · exact NI.out j (by omega) h)
        clear hN
        by_cases h1 : xo = ko
        · subst h1
          have hb2 : (xs == ks) = false := by simpa using fun e => he ⟨rfl, e⟩
          clear he
          go_wp2_with fail
          go_quiet (fail)
          go_wp2_with fail
          go_roundw
          case rel => exact ⟨i + 1, HP.out, by go_num, HNN, Lib.hid (below_drewN HN.out _)⟩
          case measure => have := HP.out; simp [RowKit.intOf]; omega
        · have hb2 : (xo == ko) = false := by simpa using h1
          clear he h1
          go_wp2_with fail
          go_quiet (fail)
          go_wp2_with fail
          go_roundw
          case rel => exact ⟨i + 1, HP.out, by go_num, HNN, Lib.hid (below_drewN HN.out _)⟩
          case measure => have := HP.out; simp [RowKit.intOf]; omega
    · have hil : i = L.length := by omega
      subst hil
      have HRES : Hid (FindS L (ko, ks) (-1)) := Lib.hid (.inl ⟨rfl, fun r hr => by
        obtain ⟨j, hj, rfl⟩ := List.getElem_of_mem hr
        exact NI.out j hj hj⟩)
      go_wp2_with fail
      go_ret
      exact ⟨-1, rfl, HRES.out, BI.out⟩
end Go.Proofs.YtchkadifjbmmpaaDoor
namespace Go.Proofs.YtchkadifjbmmpaaDoor
open Go.RowKit Go.Lib Go.Maps
set_option maxRecDepth 100000
set_option linter.unusedSimpArgs false

def refPut (L : List R.Rc) (r : R.Rc) : List R.Rc := if R.mayR r = true ∧ kyR r ∉ L.map kyR then L ++ [r] else L
def refPuts (L : List R.Rc) (l : List R.Rc) : List R.Rc := l.foldl refPut L
theorem refPuts_next (L l : List R.Rc) (i : Nat) (h : i < l.length) : refPuts L (l.take (i + 1)) = refPut (refPuts L (l.take i)) l[i] := by
  unfold refPuts
  rw [List.take_succ_eq_append_getElem h, List.foldl_append]
  rfl
theorem refPuts_len : ∀ (l L : List R.Rc), L.length ≤ (refPuts L l).length ∧ (refPuts L l).length ≤ L.length + l.length
  | [], L => ⟨Nat.le_refl _, Nat.le_refl _⟩
  | a :: r, L => by
    have h1 := refPuts_len r (refPut L a)
    have h2 : L.length ≤ (refPut L a).length ∧ (refPut L a).length ≤ L.length + 1 := by unfold refPut; split <;> simp
    show L.length ≤ (refPuts (refPut L a) r).length ∧ (refPuts (refPut L a) r).length ≤ _
    simp only [List.length_cons]
    omega
/-- The chapter's own tree in memory; its row's block is one of P. -/
def RT (w : World) (q : Nat) (L : List R.Rc) (P : Nat → Prop) : Prop := ∃ v, R.Bx 30 w q #[v] ∧ R.ORow w (q + 1) v L ∧ ∀ g, v.ownBlock = some g → P g
theorem orow_form {w : World} {B : Nat} {v : Value} {L : List R.Rc} (h : R.ORow w B v L) : ∃ ad cap, v = .slice ad L.length cap := by
  rcases h.2 with ⟨rfl, h1⟩ | ⟨g2, cap, cur, rfl, _⟩
  · exact ⟨none, 0, by rw [h1]⟩
  · exact ⟨_, _, rfl⟩
set_option maxHeartbeats 32000000 in
theorem rput_c (q : Nat) (L l : List R.Rc) (ad : Option Addr) (cap : Nat) (w : World) (P : Nat → Prop) (hP : ∀ i, w.heap.size ≤ i → P i) (h : RT w q L P) (hrl : ∀ W, w.grownBy W (some q) → R.Rl W (.slice ad l.length cap) l) (hs : ∀ r ∈ l, r.t.size ≤ 9223372036854775807) (hn : l.length ≤ 1000) (hLn : L.length ≤ 1000) (hT : ∀ W, w.grownBy W (some q) → R.Tabs W) :
    Calls Tryd.prog 18 #[.pointer (some ⟨q, 0, none⟩), .slice ad l.length cap] w fun e w' => e = .returned (.int .i64 (((refPuts L l).length : Int) - (L.length : Int))) ∧ RT w' q (refPuts L l) P ∧ w.grownBy w' (some q) := by
  have mixed : Tryd.prog.follows .mixedOrders = true := by kernel_rfl
  have HRL := Lib.hid hrl
  have HSZ := Lib.hid hs
  have HT := Lib.hid hT
  have HPN := Lib.hid hP
  have H0 : Hid (RT w q (refPuts L (l.take 0)) P) := Lib.hid h
  have G0 : Hid (w.grownBy w (some q)) := Lib.hid (grown_refl _ _)
  clear h hrl hs hT hP
  go_enter Tryd.func18, Tryd.ntmps18
  go_wp2_with fail
  go_loopw [5, 6] (fun v5 v6 wr => ∃ i : Nat, i ≤ l.length ∧ v5 = .int .i64 (((refPuts L (l.take i)).length : Int) - (L.length : Int)) ∧ v6 = .int .i64 (i : Int) ∧ Hid (RT wr q (refPuts L (l.take i)) P) ∧ Hid (w.grownBy wr (some q))) (fun _ v6 _ => l.length - (RowKit.intOf v6).toNat)
  case atStart => exact ⟨0, by omega, by simp [refPuts], rfl, H0, G0⟩
  case round =>
    obtain ⟨i, hi, rfl, rfl, HI, GI⟩ := hrel
    clear H0 G0
    have hlen := refPuts_len (l.take i) L
    rw [List.length_take] at hlen
    by_cases hp : i < l.length
    · have HP := Lib.hid hp
      obtain ⟨ad2, cap2, e, _, hc⟩ := (HRL.out wr GI.out).form
      simp only [Value.slice.injEq, true_and] at e
      obtain ⟨rfl, rfl⟩ := e
      obtain ⟨g, o, rfl, hrc⟩ := hc (by omega)
      obtain ⟨x0, x1, x2, x3, x4⟩ := hrc i hp
      have HSI := Lib.hid (HSZ.out _ (List.getElem_mem hp))
      have HNX := Lib.hid (refPuts_next L l i hp)
      clear hc hrc
      generalize l[i] = r at *
      generalize refPuts L (l.take i) = Li at *
      have HRC : Hid (∀ W, Below wr.heap.size wr W → W.cell? ⟨g, o + i * 5, none⟩ = some (.int .i64 r.o) ∧ W.cell? ⟨g, o + i * 5 + 1, none⟩ = some (.int .i64 r.s) ∧ W.cell? ⟨g, o + i * 5 + 2, none⟩ = some (.int .i64 r.w) ∧ W.cell? ⟨g, o + i * 5 + 3, none⟩ = some (.int .i64 r.c) ∧ W.cell? ⟨g, o + i * 5 + 4, none⟩ = some (.string r.t)) := Lib.hid (fun W hW => ⟨(hW.cell (World.block_lt_of_cell? _ _ x0)).trans x0, (hW.cell (World.block_lt_of_cell? _ _ x1)).trans x1, (hW.cell (World.block_lt_of_cell? _ _ x2)).trans x2, (hW.cell (World.block_lt_of_cell? _ _ x3)).trans x3, (hW.cell (World.block_lt_of_cell? _ _ x4)).trans x4⟩)
      have hgl := World.block_lt_of_cell? _ _ x0
      obtain ⟨v, hbx, hro, hpb⟩ := HI.out
      obtain ⟨adL, capL, rfl⟩ := orow_form hro
      have HBX := Lib.hid hbx
      have HRO := Lib.hid hro
      have HPB := Lib.hid hpb
      clear hbx hro hpb HI
      go_wp2_with fail
      refine (R.refmay_c r wr HSI.out (HT.out wr GI.out)).mono ?_
      rintro e w2 ⟨rfl, b2⟩
      have B2 := Lib.hid b2
      clear b2 x0 x1 x2 x3 x4 hgl
      cases hm : R.mayR r with
      | false =>
        have HE : Hid (refPuts L (l.take (i + 1)) = Li) := Lib.hid (by rw [HNX.out]; unfold refPut; rw [if_neg (by rw [hm]; simp)])
        go_wp2_with fail
        go_roundw
        case rel => exact ⟨i + 1, HP.out, by rw [HE.out], by go_num, Lib.hid (by rw [HE.out]; exact ⟨_, HBX.out.below B2.out, HRO.out.below B2.out, HPB.out⟩), Lib.hid (grown_trans GI.out (grown_below B2.out _))⟩
        case measure => have := HP.out; simp [RowKit.intOf]; omega
      | true =>
        obtain ⟨y0, y1, _, _, _⟩ := HRC.out w2 B2.out
        have hgl2 := World.block_lt_of_cell? _ _ y0
        go_wp2_with fail
        refine (find_c q Li adL capL r.o r.s w2 (HBX.out.below B2.out) (R.ORow.rl (HRO.out.below B2.out)) (by unfold maxLen; omega)).mono ?_
        rintro e w3 ⟨n, rfl, hf, b3⟩
        have B3 := Lib.hid (bn B2.out b3)
        clear b3 y0 y1 hgl2
        rcases hf with ⟨rfl, hno⟩ | ⟨j, hj, rfl, hky, _⟩
        · have HE : Hid (refPuts L (l.take (i + 1)) = Li ++ [r]) := Lib.hid (by
            rw [HNX.out]
            unfold refPut
            rw [if_pos ⟨hm, fun hh => by obtain ⟨x, hx, e⟩ := List.mem_map.1 hh; exact hno x hx e⟩])
          clear hno
          have HV1 : Hid (∀ W, Below w3.heap.size w3 W → R.Rl W (.slice adL Li.length capL) Li) := Lib.hid (fun W hb => (HRO.out.below (bn B3.out hb)).rl)
          have HC8 : Hid (∀ W, Below w3.heap.size w3 W → W.cell? ⟨g, o + i * 5, none⟩ = some (.int .i64 r.o) ∧ W.cell? ⟨g, o + i * 5 + 1, none⟩ = some (.int .i64 r.s) ∧ W.cell? ⟨g, o + i * 5 + 2, none⟩ = some (.int .i64 r.w) ∧ W.cell? ⟨g, o + i * 5 + 3, none⟩ = some (.int .i64 r.c) ∧ W.cell? ⟨g, o + i * 5 + 4, none⟩ = some (.string r.t)) := Lib.hid (fun W hb => by
            obtain ⟨a0, a1, a2, a3, a4⟩ := HRC.out W (bn B3.out hb)
            exact ⟨a0, a1, a2, a3, a4⟩)
          have HNE : Hid (g ≠ q) := Lib.hid (fun e => by
            have a0 := (HRC.out wr (Below.refl _ _)).1
            rw [e, HBX.out.cell] at a0
            cases hz : o + i * 5 with
            | zero => rw [hz] at a0; simp at a0
            | succ z => rw [hz] at a0; simp at a0)
          have HCS : Hid (∀ W x, Below w3.heap.size w3 W → (W.setCell ⟨q, 0, none⟩ x).cell? ⟨g, o + i * 5, none⟩ = some (.int .i64 r.o) ∧ (W.setCell ⟨q, 0, none⟩ x).cell? ⟨g, o + i * 5 + 1, none⟩ = some (.int .i64 r.s) ∧ (W.setCell ⟨q, 0, none⟩ x).cell? ⟨g, o + i * 5 + 2, none⟩ = some (.int .i64 r.w) ∧ (W.setCell ⟨q, 0, none⟩ x).cell? ⟨g, o + i * 5 + 3, none⟩ = some (.int .i64 r.c) ∧ (W.setCell ⟨q, 0, none⟩ x).cell? ⟨g, o + i * 5 + 4, none⟩ = some (.string r.t)) := Lib.hid (fun W x hb => by
            obtain ⟨a0, a1, a2, a3, a4⟩ := HC8.out W hb
            have hne : some g ≠ some q := fun e => HNE.out (Option.some.inj e)
            exact ⟨(D.grown_cell (grown_set W q 0 x) (World.block_lt_of_cell? _ _ a0) hne).trans a0, (D.grown_cell (grown_set W q 0 x) (World.block_lt_of_cell? _ _ a1) hne).trans a1, (D.grown_cell (grown_set W q 0 x) (World.block_lt_of_cell? _ _ a2) hne).trans a2, (D.grown_cell (grown_set W q 0 x) (World.block_lt_of_cell? _ _ a3) hne).trans a3, (D.grown_cell (grown_set W q 0 x) (World.block_lt_of_cell? _ _ a4) hne).trans a4⟩)
          have q0 : w3.cell? ⟨q, 0, none⟩ = some (.slice adL Li.length capL) := (HBX.out.below B3.out).cell 0
          have qf := (HBX.out.below B3.out).soft 0
          have ql := (HBX.out.below B3.out).lt
          have HQ : Hid (q < w3.heap.size) := Lib.hid (HBX.out.below B3.out).lt
          obtain ⟨x0, x1, x2, x3, x4⟩ := HC8.out w3 (Below.refl _ _)
          have hgl3 := World.block_lt_of_cell? _ _ x0
          go_wp2_with fail
          go_region_law
            (first
            | (refine R.step_rapp rfl _ _ rfl w3.heap.size va (.slice (some ⟨w3.heap.size, 0, none⟩) 1 1) Li [r] rfl rfl (by exact hra) (by exact R.rl_one _ _ r ((hga.block w3.heap.size (by simp) (by intro h; cases h)).trans (R.Bx.new 36 w3 _))) (by simp; omega) (by exact ba.size) ?_; intro vb wb hrb hgb; obtain ⟨A9, C9, hvb⟩ := orow_form hrb;  rw [List.length_append, List.length_singleton] at hvb; subst hvb; have bb : Below w3.heap.size w3 wb := ba.trans (R.below_of_grown hgb ba.size (fun g hg => (World.ownsRow.lt hra g hg).1)); have p0 : wb.cell? ⟨q, 0, none⟩ = some (.slice adL Li.length capL) := (HBX.out.below (bn B3.out bb)).cell 0; have pf := (HBX.out.below (bn B3.out bb)).soft 0; have plt := (HBX.out.below (bn B3.out bb)).lt)
            | (refine R.step_rapp rfl _ _ rfl w3.heap.size va (.slice (some ⟨wa.heap.size, 0, none⟩) 1 1) Li [r] rfl rfl (by first | exact hra.below (alloc_below _ _) | exact hra.below (alloc_below _ _).drew) (by exact R.rl_one _ _ r (R.Bx.new 36 wa _)) (by simp; omega) (by first | exact (ba.alloc ba.size _).size | exact (ba.alloc ba.size _).drew.size) ?_; intro vb wb hrb hgb; obtain ⟨A9, C9, hvb⟩ := orow_form hrb;  rw [List.length_append, List.length_singleton] at hvb; subst hvb; have bb : Below w3.heap.size w3 wb := (ba.alloc ba.size _).trans (R.below_of_grown hgb (ba.alloc ba.size _).size (fun g hg => (World.ownsRow.lt hra g hg).1)); have p0 : wb.cell? ⟨q, 0, none⟩ = some (.slice adL Li.length capL) := (HBX.out.below (bn B3.out bb)).cell 0; have pf := (HBX.out.below (bn B3.out bb)).soft 0; have plt := (HBX.out.below (bn B3.out bb)).lt)
            | (refine R.step_rapp rfl _ _ rfl w3.heap.size (.slice none 0 0) (.slice adL Li.length capL) [] Li rfl rfl (R.ORow.nil _ _) (HV1.out _ (by first | assumption | exact Below.refl _ _ | exact (Below.refl _ _).drew | exact alloc_below _ _ | exact (alloc_below _ _).drew | exact below_da _ _)) (by simp; omega) (by first | exact Nat.le_refl _ | (simp; done)) ?_; intro va wa hra hga; have ba : Below w3.heap.size w3 wa := bn (by first | assumption | exact Below.refl _ _ | exact (Below.refl _ _).drew | exact alloc_below _ _ | exact (alloc_below _ _).drew | exact below_da _ _) (R.below_of_grown hga (Nat.le_refl _) (by intro g hg; cases hg)); obtain ⟨c0, c1, c2, c3, c4⟩ := HC8.out wa ba; have cl := World.block_lt_of_cell? _ _ c0; have d0 : wa.cell? ⟨q, 0, none⟩ = some (.slice adL Li.length capL) := (HBX.out.below (bn B3.out ba)).cell 0)
            | fail)
          all_goals
            have HRES : Hid (RT (wb.setCell ⟨q, 0, none⟩ (.slice A9 (Li.length + 1) C9)) q (Li ++ [r]) P ∧ w.grownBy (wb.setCell ⟨q, 0, none⟩ (.slice A9 (Li.length + 1) C9)) (some q)) := Lib.hid ⟨⟨_, (HBX.out.below (bn B3.out bb)).set 0 _, D.own_mono (ownsRow_of_block hrb fun g hg => Below.heap_setCell _ _ _ g (show g ≠ q from fun e => by have h1 := (World.ownsRow.lt hrb g hg).1; have h2 := HQ.out; omega)) HQ.out, fun g hg => HPN.out g (Nat.le_trans (Nat.le_trans GI.out.size B3.out.size) (World.ownsRow.lt hrb g hg).1)⟩, grown_trans GI.out (grown_trans (grown_below (bn B3.out bb) _) (grown_set wb q 0 _))⟩
            go_wp2_with fail
            go_roundw
            rotate_left
            · have := HP.out
              simp [RowKit.intOf]
              omega
            exact ⟨i + 1, HP.out, by rw [HE.out, List.length_append]; go_num, by go_num, Lib.hid (by rw [HE.out]; exact HRES.out.1), Lib.hid HRES.out.2⟩
        · have HE : Hid (refPuts L (l.take (i + 1)) = Li) := Lib.hid (by
            rw [HNX.out]
            unfold refPut
            rw [if_neg (fun hh => hh.2 (List.mem_map.2 ⟨_, List.getElem_mem hj, hky⟩))])
          clear hky
          go_wp2_with fail
          go_roundw
          case rel => exact ⟨i + 1, HP.out, by rw [HE.out], by go_num, Lib.hid (by rw [HE.out]; exact ⟨_, HBX.out.below B3.out, HRO.out.below B3.out, HPB.out⟩), Lib.hid (grown_trans GI.out (grown_below B3.out _))⟩
          case measure => have := HP.out; simp [RowKit.intOf]; omega
    · have hil : i = l.length := by omega
      subst hil
      rw [List.take_length] at HI ⊢
      have HR := Lib.hid (And.intro HI.out GI.out)
      clear HI GI
      go_wp2_with fail
      go_ret
      exact ⟨rfl, HR.out.1, HR.out.2⟩
end Go.Proofs.YtchkadifjbmmpaaDoor
namespace Go.Proofs.YtchkadifjbmmpaaDoor
open Go.RowKit Go.Lib Go.Maps
set_option maxRecDepth 100000
set_option linter.unusedSimpArgs false

def refDrop (L : List R.Rc) (k : Ky) : List R.Rc := L.eraseP fun r => decide (kyR r = k)
def refDrops (L : List R.Rc) (l : List Ky) : List R.Rc := l.foldl refDrop L
theorem refDrops_next (L : List R.Rc) (l : List Ky) (i : Nat) (h : i < l.length) : refDrops L (l.take (i + 1)) = refDrop (refDrops L (l.take i)) l[i] := by
  unfold refDrops
  rw [List.take_succ_eq_append_getElem h, List.foldl_append]
  rfl
theorem refDrop_len (L : List R.Rc) (k : Ky) : (refDrop L k).length ≤ L.length := List.length_eraseP_le
theorem refDrops_len : ∀ (l : List Ky) (L : List R.Rc), (refDrops L l).length ≤ L.length
  | [], _ => Nat.le_refl _
  | a :: r, L => Nat.le_trans (refDrops_len r (refDrop L a)) (refDrop_len L a)
theorem refDrop_no {L : List R.Rc} {k : Ky} (h : ∀ r ∈ L, kyR r ≠ k) : refDrop L k = L := by
  unfold refDrop
  exact List.eraseP_of_forall_not (fun r hr hd => h r hr (by simpa using hd))
theorem refDrop_at : ∀ {L : List R.Rc} {k : Ky} {j : Nat} (hj : j < L.length), kyR L[j] = k → (∀ i, i < j → ∀ h : i < L.length, kyR L[i] ≠ k) → refDrop L k = L.take j ++ L.drop (j + 1)
  | a :: L, k, 0, hj, hk, _ => by
    unfold refDrop
    rw [List.eraseP_cons_of_pos (by simpa using hk)]
    rfl
  | a :: L, k, j + 1, hj, hk, hn => by
    have h0 := hn 0 (by omega) (by simp)
    have ih := refDrop_at (L := L) (k := k) (j := j) (by simpa using hj) hk (fun i hi h => hn (i + 1) (by omega) (by simpa using h))
    unfold refDrop at ih ⊢
    rw [List.eraseP_cons_of_neg (by simpa using h0), ih]
    rfl
set_option maxHeartbeats 32000000 in
theorem rdrop_c (q : Nat) (L : List R.Rc) (l : List Ky) (v : Value) (w : World) (P : Nat → Prop) (hP : ∀ i, w.heap.size ≤ i → P i) (h : RT w q L P) (hkr : ∀ W, w.grownBy W (some q) → KRd W v l) (hn : l.length ≤ 1000) (hLn : L.length ≤ 1000) :
    Calls Tryd.prog 16 #[.pointer (some ⟨q, 0, none⟩), v] w fun e w' => e = .returned (.int .i64 ((L.length : Int) - ((refDrops L l).length : Int))) ∧ RT w' q (refDrops L l) P ∧ w.grownBy w' (some q) := by
  have mixed : Tryd.prog.follows .mixedOrders = true := by kernel_rfl
  obtain ⟨ad, cap, rfl, _, _⟩ := hkr w (grown_refl _ _)
  have HKR := Lib.hid hkr
  have HPN := Lib.hid hP
  have H0 : Hid (RT w q (refDrops L (l.take 0)) P) := Lib.hid h
  have G0 : Hid (w.grownBy w (some q)) := Lib.hid (grown_refl _ _)
  clear h hkr hP
  go_enter Tryd.func16, Tryd.ntmps16
  go_wp2_with fail
  go_loopw [5, 6] (fun v5 v6 wr => ∃ i : Nat, i ≤ l.length ∧ v5 = .int .i64 ((L.length : Int) - ((refDrops L (l.take i)).length : Int)) ∧ v6 = .int .i64 (i : Int) ∧ Hid (RT wr q (refDrops L (l.take i)) P) ∧ Hid (w.grownBy wr (some q))) (fun _ v6 _ => l.length - (RowKit.intOf v6).toNat)
  case atStart => exact ⟨0, by omega, by simp [refDrops], rfl, H0, G0⟩
  case round =>
    obtain ⟨i, hi, rfl, rfl, HI, GI⟩ := hrel
    clear H0 G0
    have hlen := refDrops_len (l.take i) L
    by_cases hp : i < l.length
    · have HP := Lib.hid hp
      obtain ⟨ad2, cap2, e, _, hc⟩ := HKR.out wr GI.out
      simp only [Value.slice.injEq, true_and] at e
      obtain ⟨rfl, rfl⟩ := e
      obtain ⟨g, o, rfl, hrc⟩ := hc (by omega)
      obtain ⟨x0, x1⟩ := hrc i hp
      have HNX := Lib.hid (refDrops_next L l i hp)
      clear hc hrc
      generalize l[i] = k at *
      obtain ⟨ko, ks⟩ := k
      generalize refDrops L (l.take i) = Li at *
      have hgl := World.block_lt_of_cell? _ _ x0
      obtain ⟨v, hbx, hro, hpb⟩ := HI.out
      obtain ⟨adL, capL, rfl⟩ := orow_form hro
      obtain ⟨_, _, e, hcl, _⟩ := hro.rl.form
      simp only [Value.slice.injEq, true_and] at e
      obtain ⟨rfl, rfl⟩ := e
      have HBX := Lib.hid hbx
      have HRO := Lib.hid hro
      have HPB := Lib.hid hpb
      clear hbx hro hpb HI
      simp only at x0 x1
      go_wp2_with fail
      refine (find_c q Li adL capL ko ks wr HBX.out (R.ORow.rl HRO.out) (by unfold maxLen; omega)).mono ?_
      rintro e w3 ⟨n, rfl, hf, b3⟩
      have B3 := Lib.hid b3
      clear b3 x0 x1 hgl
      rcases hf with ⟨rfl, hno⟩ | ⟨j, hj, rfl, hky, hfi⟩
      · have HE : Hid (refDrops L (l.take (i + 1)) = Li) := Lib.hid (by rw [HNX.out]; exact refDrop_no hno)
        clear hno
        go_wp2_with fail
        go_roundw
        case rel => exact ⟨i + 1, HP.out, by rw [HE.out], by go_num, Lib.hid (by rw [HE.out]; exact ⟨_, HBX.out.below B3.out, HRO.out.below B3.out, HPB.out⟩), Lib.hid (grown_trans GI.out (grown_below B3.out _))⟩
        case measure => have := HP.out; simp [RowKit.intOf]; omega
      · obtain ⟨z, hz⟩ : ∃ z, z = j + 1 := ⟨_, rfl⟩
        have HE : Hid (refDrops L (l.take (i + 1)) = Li.take j ++ Li.drop z) := Lib.hid (by rw [HNX.out, hz]; exact refDrop_at hj hky hfi)
        obtain ⟨nn, hnn⟩ : ∃ nn, (Li.take j ++ Li.drop z).length = nn := ⟨_, rfl⟩
        have HEL : Hid (nn + 1 = Li.length) := Lib.hid (by rw [← hnn, List.length_append, List.length_take, List.length_drop]; omega)
        have HNN := Lib.hid hnn
        clear hnn
        clear hky hfi
        have ha1 : (0 : Int) ≤ (j : Int) := by omega
        have hwp : IntKind.i64.wrap ((j : Int) + 1) = (z : Int) := by rw [IntKind.wrap_i64]; omega
        have hzl : z ≤ Li.length := by omega
        obtain ⟨A1, N1, C1, hV1⟩ : ∃ A1 N1 C1, sliced adL 0 j capL 5 = .slice A1 N1 C1 := ⟨_, _, _, rfl⟩
        obtain ⟨A3, N3, C3, hV3⟩ : ∃ A3 N3 C3, sliced adL z Li.length capL 5 = .slice A3 N3 C3 := ⟨_, _, _, rfl⟩
        have r1 : ∀ W, (Instr.sliceAt 28 (.slice adL Li.length capL) none (some (.int .i64 (j : Int))) none).run Tryd.prog W = .ok (.slice A1 N1 C1) W := fun W => by
          rw [← hV1]
          exact R.rslice_run adL _ capL _ _ _ _ W (by simp [Instr.sliceBounds, run_sliceBound_if, show j ≤ capL by omega])
        have r3 : ∀ W, (Instr.sliceAt 28 (.slice adL Li.length capL) (some (.int .i64 (z : Int))) none none).run Tryd.prog W = .ok (.slice A3 N3 C3) W := fun W => by
          rw [← hV3]
          exact R.rslice_run adL _ capL _ _ _ _ W (by simp [Instr.sliceBounds, run_sliceBound_if, hzl])
        have HV1 : Hid (∀ W, Below w3.heap.size w3 W → R.Rl W (.slice A1 N1 C1) (Li.take j)) := Lib.hid (fun W hb => by
          have h := (R.rl_sliced (HRO.out.below (bn B3.out hb)).rl 0 j (by omega) (by omega))
          rwa [hV1, List.drop_zero, Nat.sub_zero] at h)
        have HV3 : Hid (∀ W, Below w3.heap.size w3 W → R.Rl W (.slice A3 N3 C3) (Li.drop z)) := Lib.hid (fun W hb => by
          have h := (R.rl_sliced (HRO.out.below (bn B3.out hb)).rl z Li.length hzl (Nat.le_refl _))
          rwa [hV3, List.take_of_length_le (by simp)] at h)
        have hlk : (Li.take j).length ≤ 1000 := by rw [List.length_take]; omega
        have hlk2 : (Li.drop z).length ≤ 1000 := by rw [List.length_drop]; omega
        have q0 : w3.cell? ⟨q, 0, none⟩ = some (.slice adL Li.length capL) := (HBX.out.below B3.out).cell 0
        have qf := (HBX.out.below B3.out).soft 0
        have ql := (HBX.out.below B3.out).lt
        have HQ : Hid (q < w3.heap.size) := Lib.hid ql
        clear hV1 hV3 hz
        go_wp2_with fail
        go_region_law
          (first
          | (refine R.step_rapp rfl _ _ rfl w3.heap.size va (.slice A3 N3 C3) (Li.take j) (Li.drop z) rfl rfl (by exact hra) (HV3.out _ (by exact ba)) (by omega) (by exact ba.size) ?_; intro vb wb hrb hgb; obtain ⟨A9, C9, hvb⟩ := orow_form hrb; rw [HNN.out] at hvb; subst hvb; have bb : Below w3.heap.size w3 wb := ba.trans (R.below_of_grown hgb ba.size (fun g hg => (World.ownsRow.lt hra g hg).1)); have p0 : wb.cell? ⟨q, 0, none⟩ = some (.slice adL Li.length capL) := (HBX.out.below (bn B3.out bb)).cell 0; have pf := (HBX.out.below (bn B3.out bb)).soft 0; have plt := (HBX.out.below (bn B3.out bb)).lt)
          | (refine R.step_rapp rfl _ _ rfl w3.heap.size (.slice none 0 0) (.slice A1 N1 C1) [] (Li.take j) rfl rfl (R.ORow.nil _ _) (HV1.out _ (by first | assumption | exact Below.refl _ _ | exact (Below.refl _ _).drew)) (by simp; omega) (by first | exact Nat.le_refl _ | (simp; done)) ?_; intro va wa hra hga; have ba : Below w3.heap.size w3 wa := bn (by first | assumption | exact Below.refl _ _ | exact (Below.refl _ _).drew) (R.below_of_grown hga (Nat.le_refl _) (by intro g hg; cases hg)); have d0 : wa.cell? ⟨q, 0, none⟩ = some (.slice adL Li.length capL) := (HBX.out.below (bn B3.out ba)).cell 0; have dlt := (HBX.out.below (bn B3.out ba)).lt)
          | fail)
        all_goals
          have HRES : Hid (RT (wb.setCell ⟨q, 0, none⟩ (.slice A9 nn C9)) q (Li.take j ++ Li.drop z) P ∧ w.grownBy (wb.setCell ⟨q, 0, none⟩ (.slice A9 nn C9)) (some q)) := Lib.hid ⟨⟨_, (HBX.out.below (bn B3.out bb)).set 0 _, D.own_mono (ownsRow_of_block hrb fun g hg => Below.heap_setCell _ _ _ g (show g ≠ q from fun e => by have h1 := (World.ownsRow.lt hrb g hg).1; have h2 := HQ.out; omega)) HQ.out, fun g hg => HPN.out g (Nat.le_trans (Nat.le_trans GI.out.size B3.out.size) (World.ownsRow.lt hrb g hg).1)⟩, grown_trans GI.out (grown_trans (grown_below (bn B3.out bb) _) (grown_set wb q 0 _))⟩
          clear r1 r3
          go_wp2_with fail
          go_roundw
          rotate_left
          · have := HP.out
            simp [RowKit.intOf]
            omega
          exact ⟨i + 1, HP.out, by rw [HE.out, HNN.out]; have := HEL.out; go_num, by go_num, Lib.hid (by rw [HE.out]; exact HRES.out.1), Lib.hid HRES.out.2⟩
    · have hil : i = l.length := by omega
      subst hil
      rw [List.take_length] at HI ⊢
      have HR := Lib.hid (And.intro HI.out GI.out)
      clear HI GI
      go_wp2_with fail
      go_ret
      exact ⟨rfl, HR.out.1, HR.out.2⟩
end Go.Proofs.YtchkadifjbmmpaaDoor
namespace Go.Proofs.YtchkadifjbmmpaaDoor
open Go.RowKit Go.Lib Go.Maps
set_option maxRecDepth 100000
set_option linter.unusedSimpArgs false

/-- Records as Keys with their bytes. -/
def sx (l : List R.Rc) : Sb := l.map fun r => (kyR r, R.layL r)
theorem sx_keys (l : List R.Rc) : (sx l).map Prod.fst = l.map kyR := by simp [sx]
theorem sx_len (l : List R.Rc) : (sx l).length = l.length := by simp [sx]
theorem sx_put (L : List R.Rc) (r : R.Rc) : putS (sx L) r = sx (refPut L r) := by
  unfold putS refPut
  rw [sx_keys]
  split
  · simp [sx]
  · rfl
theorem put_nd {L : List R.Rc} (r : R.Rc) (h : (L.map kyR).Nodup) : ((refPut L r).map kyR).Nodup := by
  unfold refPut
  split
  · rename_i hc
    rw [List.map_append, List.nodup_append]
    refine ⟨h, by simp, fun a ha b hb e => ?_⟩
    simp only [List.map_cons, List.map_nil, List.mem_singleton] at hb
    subst hb
    exact hc.2 (e ▸ ha)
  · exact h
theorem drop_sub (L : List R.Rc) (k : Ky) : (refDrop L k).Sublist L := List.eraseP_sublist
theorem drop_nd {L : List R.Rc} (k : Ky) (h : (L.map kyR).Nodup) : ((refDrop L k).map kyR).Nodup := ((drop_sub L k).map kyR).nodup h
theorem put_may {L : List R.Rc} (r : R.Rc) (h : ∀ x ∈ L, R.mayR x = true) : ∀ x ∈ refPut L r, R.mayR x = true := by
  unfold refPut
  split
  · rename_i hc
    intro x hx
    rcases List.mem_append.1 hx with hx | hx
    · exact h x hx
    · rw [List.mem_singleton.1 hx]
      exact hc.1
  · exact h
theorem drop_may {L : List R.Rc} (k : Ky) (h : ∀ x ∈ L, R.mayR x = true) : ∀ x ∈ refDrop L k, R.mayR x = true := fun x hx => h x ((drop_sub L k).subset hx)
theorem sx_drop : ∀ {L : List R.Rc} (k : Ky), (L.map kyR).Nodup → dropS (sx L) k = sx (refDrop L k)
  | [], _, _ => rfl
  | a :: L, k, h => by
    rw [List.map_cons, List.nodup_cons] at h
    have ih := sx_drop (L := L) k h.2
    unfold dropS sx refDrop at ih ⊢
    by_cases hk : kyR a = k
    · rw [List.eraseP_cons_of_pos (by simpa using hk), List.map_cons, List.filter_cons_of_neg (by simp [hk])]
      rw [List.filter_eq_self]
      intro x hx
      obtain ⟨r, hr, rfl⟩ := List.mem_map.1 hx
      rw [decide_eq_true_eq]
      intro e
      exact h.1 (hk ▸ e ▸ List.mem_map_of_mem hr)
    · rw [List.eraseP_cons_of_neg (by simpa using hk), List.map_cons, List.filter_cons_of_pos (by simpa using hk), ih]
      rfl
/-- Keys once: a number's digest is told by what is there, in whatever order. -/
theorem leaf_mem {S S' : Sb} (_h : (S.map Prod.fst).Nodup) (h' : (S'.map Prod.fst).Nodup) (hm : ∀ x, x ∈ S ↔ x ∈ S') (o n : Nat) : leafS S o n = leafS S' o n := by
  have one : ∀ {T : Sb}, (T.map Prod.fst).Nodup → ∀ {x y : Ky × List Int}, x ∈ T → y ∈ T → x.1 = y.1 → x = y := by
    intro T hT x y hx hy e
    induction T with
    | nil => cases hx
    | cons a T ih =>
      rw [List.map_cons, List.nodup_cons] at hT
      rcases List.mem_cons.1 hx with ex | hx2
      · rcases List.mem_cons.1 hy with ey | hy2
        · rw [ex, ey]
        · exact absurd (by rw [← ex, e]; exact List.mem_map_of_mem hy2) hT.1
      · rcases List.mem_cons.1 hy with ey | hy2
        · exact absurd (by rw [← ey, ← e]; exact List.mem_map_of_mem hx2) hT.1
        · exact ih hT.2 hx2 hy2
  unfold leafS
  cases hf : S.find? (fun x => decide (x.1 = ((o : Int), (n : Int)))) with
  | some x =>
    cases hf' : S'.find? (fun x => decide (x.1 = ((o : Int), (n : Int)))) with
    | some y =>
      have d1 := List.find?_some hf
      have d2 := List.find?_some hf'
      rw [decide_eq_true_eq] at d1 d2
      have := one h' ((hm x).1 (List.mem_of_find?_eq_some hf)) (List.mem_of_find?_eq_some hf') (d1.trans d2.symm)
      rw [this]
    | none => exact absurd (List.find?_some hf) (List.find?_eq_none.1 hf' x ((hm x).1 (List.mem_of_find?_eq_some hf)))
  | none =>
    cases hf' : S'.find? (fun x => decide (x.1 = ((o : Int), (n : Int)))) with
    | some y => exact absurd (List.find?_some hf') (List.find?_eq_none.1 hf y ((hm y).2 (List.mem_of_find?_eq_some hf')))
    | none => rfl
theorem tree_rev {L : List R.Rc} (h : (L.map kyR).Nodup) (o a : Nat) (ha : a < 1365) : treeF (sx L.reverse) o a = treeF (sx L) o a :=
  treeF_same (fun m _ => leaf_mem (by rw [sx_keys, List.map_reverse]; exact List.pairwise_reverse.2 (List.Pairwise.imp (fun hh e => hh e.symm) h)) (by rw [sx_keys]; exact h) (fun x => by simp [sx]) o m) a ha
theorem same_rev (L : List R.Rc) : sameS (sx L) (sx L.reverse) := ⟨by simp [sx], fun x hx => by simpa [sx] using hx⟩
end Go.Proofs.YtchkadifjbmmpaaDoor
namespace Go.Proofs.YtchkadifjbmmpaaDoor
open Go.RowKit Go.Lib Go.Maps
set_option maxRecDepth 100000
set_option linter.unusedSimpArgs false

theorem dif_sum (S V : Sb) (o l i : Int) : difB S V (o, l, i) = (sumV (treeF S) o l i != sumV (treeF V) o l i) := by
  unfold difB
  simp only
  cases hb : sumB o l i with
  | true => rw [Bool.true_and]
  | false =>
    have z : ∀ F, sumV F o l i = 0 := fun F => by unfold sumV; rw [if_neg (by rw [hb]; decide)]
    rw [z, z, Bool.false_and]
    rfl
theorem wdR_wd : ∀ k, wdR k = wd k
  | 0 => rfl
  | k + 1 => by
    show 4 * wdR k = 4 * wd k
    rw [wdR_wd k]
theorem dif_part {S V : Sb} {o L i : Nat} (ho : o < 8) (hL : L ≤ 4) (hi : i < wd L) (h : difB S V ((o : Int), (L : Int), (i : Int)) = true) : ∃ x ∈ partsR ((o : Int), (L : Int), (i : Int)), difB S V x = true := by
  by_cases hx : ∃ x ∈ partsR ((o : Int), (L : Int), (i : Int)), difB S V x = true
  · exact hx
  · exfalso
    have hn : ∀ j : Nat, j < 4 → sumV (treeF S) (o : Int) ((L + 1 : Nat) : Int) ((4 * i + j : Nat) : Int) = sumV (treeF V) (o : Int) ((L + 1 : Nat) : Int) ((4 * i + j : Nat) : Int) := fun j hj => by
      have h1 : ((o : Int), (L : Int) + 1, (i : Int) * 4 + (j : Int)) ∈ partsR ((o : Int), (L : Int), (i : Int)) := mem_parts.2 ⟨j, hj, rfl⟩
      have h2 : ¬ difB S V ((o : Int), (L : Int) + 1, (i : Int) * 4 + (j : Int)) = true := fun e => hx ⟨_, h1, e⟩
      rw [dif_sum] at h2
      have h3 : sumV (treeF S) (o : Int) ((L : Int) + 1) ((i : Int) * 4 + (j : Int)) = sumV (treeF V) (o : Int) ((L : Int) + 1) ((i : Int) * 4 + (j : Int)) := by simpa using h2
      rw [show ((L + 1 : Nat) : Int) = (L : Int) + 1 by omega, show ((4 * i + j : Nat) : Int) = (i : Int) * 4 + (j : Int) by omega]
      exact h3
    have hr : rowP S o L i 4 = rowP V o L i 4 := by
      unfold rowP
      exact List.map_congr_left (fun j hj => hn j (by simpa using hj))
    rw [dif_sum, rowP_all ho hL hi, rowP_all ho hL hi, hr] at h
    simp at h
theorem dif_lev {S V : Sb} {n : Nat} : ∀ k, k < 5 → ∀ r, r ∈ levD (difB S V) n k → ∃ x ∈ partsR r, difB S V x = true := by
  intro k hk r hr
  obtain ⟨h1, h2⟩ := lev_lv hr
  obtain ⟨o, l, i⟩ := r
  simp only at h1
  subst h1
  have h3 := h2
  unfold difB at h3
  rw [Bool.and_eq_true] at h3
  have h4 := h3.1
  unfold sumB at h4
  simp only [decide_eq_true_eq] at h4
  obtain ⟨h5, h6, _, _, h7, h8⟩ := h4
  obtain ⟨on, rfl⟩ := Int.eq_ofNat_of_zero_le h5
  obtain ⟨ik, rfl⟩ := Int.eq_ofNat_of_zero_le h7
  rw [(wd_pl k (by omega)).1] at h8
  exact dif_part (by omega) (by omega) (by omega) h2
theorem find_few (S V : Sb) (n : Nat) : findN (difB S V) n ≤ n + 20 * (findK (difB S V) n).length := findN_high dif_lev
theorem leaf_dif {S V : Sb} {o i : Nat} (ho : o < 8) (hi : i < 1024) : difB S V ((o : Int), 5, (i : Int)) = (leafS S o i != leafS V o i) := by
  have hw : i < wd 5 := hi
  rw [dif_sum, show (5 : Int) = ((5 : Nat) : Int) from rfl, sumV_in ho (by omega) hw, sumV_in ho (by omega) hw, show pl 5 + i = 341 + i from rfl, treeF_leaf, treeF_leaf]
theorem leaf_bytes (S : Sb) (o i : Nat) : leafS S o i = match bytesAt S ((o : Int), (i : Int)) with
    | some bs => D.fnv 14695981039346656037 bs
    | none => 0 := by
  unfold leafS bytesAt
  cases S.find? (fun x => decide (x.1 = ((o : Int), (i : Int)))) <;> rfl
theorem rec_leaf {S V : Sb} {o i : Nat} (h : recB S V ((o : Int), (i : Int)) = true) : leafS S o i = leafS V o i := by
  unfold recB at h
  rw [decide_eq_true_eq] at h
  rw [leaf_bytes, leaf_bytes, h]
theorem clear_five {S V : Sb} {n : Nat} (hn : n ≤ 8) (hc : clashB S V n = false) : ∀ r ∈ allR n 5, difB S V r = !recB S V (keyF r) := by
  intro r hr
  have h1 := clash_no.1 hc 5 (by omega) r hr
  obtain ⟨o, i, ho, hi, rfl⟩ := mem_all.1 hr
  have hi2 : i < 1024 := hi
  have hd := leaf_dif (S := S) (V := V) (o := o) (i := i) (by omega) hi2
  have h5 : (((5 : Nat) : Int)) = 5 := rfl
  rw [h5] at h1 ⊢
  unfold hidB at h1
  rw [if_pos rfl] at h1
  show difB S V ((o : Int), 5, (i : Int)) = !recB S V ((o : Int), (i : Int))
  have h2 : (!difB S V ((o : Int), 5, (i : Int)) && !recB S V ((o : Int), (i : Int))) = false := h1
  cases hr2 : recB S V ((o : Int), (i : Int)) with
  | true =>
    rw [hd, rec_leaf hr2]
    simp
  | false =>
    rw [hr2] at h2
    cases hd2 : difB S V ((o : Int), 5, (i : Int)) with
    | true => rfl
    | false => rw [hd2] at h2; cases h2
def keysR (n : Nat) : List (Int × Int) := (allR n 5).map keyF
theorem clear_keys {S V : Sb} {n : Nat} (hn : n ≤ 8) (hc : clashB S V n = false) : findK (difB S V) n = (keysR n).filter (fun k => !recB S V k) := by
  unfold findK keysR
  rw [lev_clear 5 (fun j hj r hr hd x hx => by
    have h1 := clash_no.1 hc j (by omega) r hr
    obtain ⟨o, i, ho, hi, rfl⟩ := mem_all.1 hr
    unfold hidB at h1
    rw [hd, if_neg (by simp only; omega), Bool.not_false, Bool.true_and, List.any_eq_false] at h1
    simpa using h1 x hx)]
  rw [List.filter_map]
  congr 1
  exact List.filter_congr (fun r hr => clear_five hn hc r hr)
theorem keysR_mem {n : Nat} {k : Int × Int} : k ∈ keysR n ↔ ∃ o i : Nat, o < n ∧ i < 1024 ∧ k = ((o : Int), (i : Int)) := by
  unfold keysR
  rw [List.mem_map]
  constructor
  · rintro ⟨r, hr, rfl⟩
    obtain ⟨o, i, ho, hi, rfl⟩ := mem_all.1 hr
    exact ⟨o, i, ho, hi, rfl⟩
  · rintro ⟨o, i, ho, hi, rfl⟩
    exact ⟨((o : Int), ((5 : Nat) : Int), (i : Int)), mem_all.2 ⟨o, i, ho, hi, rfl⟩, rfl⟩
theorem keysR_rise (n : Nat) : P.Rise (keysR n) := by
  unfold keysR P.Rise
  rw [List.pairwise_map]
  refine List.Pairwise.imp ?_ (all_rise n 5)
  intro a b hab
  rw [P.kLt_iff]
  exact hab
theorem clear_rise {S V : Sb} {n : Nat} (hn : n ≤ 8) (hc : clashB S V n = false) : P.Rise (findK (difB S V) n) := by
  rw [clear_keys hn hc]
  exact (keysR_rise n).filter _
theorem clear_mem {S V : Sb} {n : Nat} (hn : n ≤ 8) (hc : clashB S V n = false) {k : Int × Int} : k ∈ findK (difB S V) n ↔ (∃ o i : Nat, o < n ∧ i < 1024 ∧ k = ((o : Int), (i : Int))) ∧ recB S V k = false := by
  rw [clear_keys hn hc, List.mem_filter, keysR_mem]
  simp
theorem rise_nodup {l : List (Int × Int)} (h : P.Rise l) : l.Nodup := by
  refine List.Pairwise.imp ?_ h
  intro a b hab e
  subst e
  rw [P.kLt_irrefl] at hab
  cases hab
theorem lev_few (Df : Rg → Bool) (n : Nat) : ∀ k, (levD Df n k).length ≤ n * 4 ^ k
  | 0 => by
    show ((topsL n).filter Df).length ≤ n * 1
    have := List.length_filter_le Df (topsL n)
    rw [topsL_len] at this
    omega
  | k + 1 => by
    have ih := lev_few Df n k
    have hf : ∀ X : List Rg, (X.flatMap (stepL Df)).length ≤ 4 * X.length := fun X => by
      induction X with
      | nil => simp
      | cons a X ihX =>
        rw [List.flatMap_cons, List.length_append, List.length_cons]
        have : (stepL Df a).length ≤ 4 := by
          unfold stepL
          split
          · have := List.length_filter_le Df (partsR a)
            rw [partsR_len] at this
            exact this
          · simp
        omega
    have h2 := hf (levD Df n k)
    show ((levD Df n k).flatMap (stepL Df)).length ≤ n * 4 ^ (k + 1)
    rw [Nat.pow_succ, ← Nat.mul_assoc]
    omega
theorem findK_len (Df : Rg → Bool) {n : Nat} (hn : n ≤ 8) : (findK Df n).length ≤ 8192 := by
  unfold findK
  rw [List.length_map]
  have := lev_few Df n 5
  have h4 : 4 ^ 5 = 1024 := by decide
  rw [h4] at this
  omega
theorem findN_len (Df : Rg → Bool) {n : Nat} (hn : n ≤ 8) : findN Df n ≤ 20000 := by
  have h0 := lev_few Df n 0
  have h1 := lev_few Df n 1
  have h2 := lev_few Df n 2
  have h3 := lev_few Df n 3
  have h4 := lev_few Df n 4
  simp only [Nat.reducePow] at h0 h1 h2 h3 h4
  unfold findN
  omega
/-- There and back alike. -/
theorem rec_comm (S V : Sb) (k : Ky) : recB S V k = recB V S k := by
  unfold recB
  exact decide_eq_decide.2 eq_comm
theorem hid_comm (S V : Sb) : hidB S V = hidB V S := by
  funext r
  unfold hidB
  rw [dif_comm S V, rec_comm S V]
theorem clash_comm (S V : Sb) (n : Nat) : clashB S V n = clashB V S n := by
  unfold clashB
  rw [hid_comm]
theorem clash_self (S : Sb) (n : Nat) : clashB S S n = false := by
  rw [clash_no]
  intro k _ r _
  unfold hidB
  have h1 : (partsR r).any (difB S S) = false := by
    rw [List.any_eq_false]
    intro x _
    rw [dif_same]
    decide
  have h2 : recB S S (keyF r) = true := by unfold recB; simp
  rw [h1, h2]
  simp
theorem find_self (S : Sb) (n : Nat) : findK (difB S S) n = [] ∧ findN (difB S S) n = n := find_none (dif_same S)
/-- Of records that were put one by one. -/
theorem puts_facts : ∀ (l L : List R.Rc), ((L.map kyR).Nodup ∧ ∀ x ∈ L, R.mayR x = true) → ((refPuts L l).map kyR).Nodup ∧ ∀ x ∈ refPuts L l, R.mayR x = true
  | [], _, h => h
  | r :: l, L, h => puts_facts l (refPut L r) ⟨put_nd r h.1, put_may r h.2⟩
theorem kept_sx {L : List R.Rc} (h : (L.map kyR).Nodup ∧ ∀ x ∈ L, R.mayR x = true) : Kept (sx L) :=
  ⟨fun x hx => by
    obtain ⟨r, hr, rfl⟩ := List.mem_map.1 hx
    exact ⟨r, h.2 r hr, rfl⟩, by rw [sx_keys]; exact h.1⟩
/-- Of one that was dropped. -/
theorem bytes_drop (S : Sb) (k j : Ky) : bytesAt (dropS S k) j = if j = k then none else bytesAt S j := by
  unfold bytesAt dropS
  induction S with
  | nil => simp
  | cons a S ih =>
    by_cases ha : a.1 = k
    · rw [List.filter_cons_of_neg (by simpa using ha), ih]
      by_cases hj : j = k
      · rw [if_pos hj, if_pos hj]
      · rw [if_neg hj, if_neg hj, List.find?_cons_of_neg (by simpa [ha] using fun e => hj (Eq.symm e))]
    · rw [List.filter_cons_of_pos (by simpa using ha)]
      by_cases hj : a.1 = j
      · have : ¬ j = k := fun e => ha (hj.trans e)
        rw [List.find?_cons_of_pos (by simpa using hj), if_neg this, List.find?_cons_of_pos (by simpa using hj)]
      · rw [List.find?_cons_of_neg (by simpa using hj), ih, List.find?_cons_of_neg (by simpa using hj)]
theorem rec_drop {S : Sb} {k : Ky} {bs : List Int} (hS : (S.map Prod.fst).Nodup) (hk : (k, bs) ∈ S) (j : Ky) : recB S (dropS S k) j = !decide (j = k) := by
  unfold recB
  rw [bytes_drop]
  by_cases h : j = k
  · subst h
    rw [if_pos rfl, bytes_in hS hk]
    simp
  · rw [if_neg h]
    simp [h]
theorem kept_drop {S : Sb} (h : Kept S) (k : Ky) : Kept (dropS S k) :=
  ⟨fun x hx => h.laid x (List.mem_filter.1 hx).1, (List.filter_sublist.map Prod.fst).nodup h.nd⟩
theorem one_keys {S : Sb} (hS : Kept S) {o s : Nat} {bs : List Int} (hk : (((o : Int), (s : Int)), bs) ∈ S) (hs : s < 1024) {n : Nat} (hn : n ≤ 8) (hc : clashB S (dropS S ((o : Int), (s : Int))) n = false) :
    (n ≤ o → findK (difB S (dropS S ((o : Int), (s : Int)))) n = [] ∧ findN (difB S (dropS S ((o : Int), (s : Int)))) n = n) ∧
    (o < n → findK (difB S (dropS S ((o : Int), (s : Int)))) n = [((o : Int), (s : Int))] ∧ findN (difB S (dropS S ((o : Int), (s : Int)))) n = n + 20) := by
  have hm : ∀ k, k ∈ findK (difB S (dropS S ((o : Int), (s : Int)))) n ↔ (∃ o i : Nat, o < n ∧ i < 1024 ∧ k = ((o : Int), (i : Int))) ∧ k = ((o : Int), (s : Int)) := fun k => by
    rw [clear_mem hn hc, rec_drop hS.nd hk]
    simp
  refine ⟨fun h => ?_, fun h => ?_⟩
  · have h1 : findK (difB S (dropS S ((o : Int), (s : Int)))) n = [] := by
      rw [List.eq_nil_iff_forall_not_mem]
      intro k hk
      obtain ⟨⟨o2, i2, h2, h3, e2⟩, e3⟩ := (hm k).1 hk
      rw [e3] at e2
      have := congrArg Prod.fst e2
      simp only at this
      omega
    have h2 := find_few S (dropS S ((o : Int), (s : Int))) n
    have h3 := findN_low (difB S (dropS S ((o : Int), (s : Int)))) n
    rw [h1] at h2
    simp only [List.length_nil] at h2
    exact ⟨h1, by omega⟩
  · have h1 : findK (difB S (dropS S ((o : Int), (s : Int)))) n = [((o : Int), (s : Int))] := by
      refine P.Rise.ext (clear_rise hn hc) (List.pairwise_singleton _ _) (fun k => ?_)
      rw [hm, List.mem_singleton]
      exact ⟨fun h => h.2, fun e => ⟨⟨o, s, h, hs, e⟩, e⟩⟩
    exact ⟨h1, findN_one dif_lev (by rw [h1]; rfl)⟩
end Go.Proofs.YtchkadifjbmmpaaDoor
namespace Go.Proofs.YtchkadifjbmmpaaDoor
open Go.RowKit Go.Lib Go.Maps
set_option maxRecDepth 100000
set_option linter.unusedSimpArgs false

theorem put1_c (p : Nat) (S : Sb) (own : Nat → Prop) (r : R.Rc) (w : World) (h : Tr w p S own) (hs : r.t.size ≤ 9223372036854775807 ∧ okKy (kyR r)) (hn : S.length ≤ 100000) (hT : ∀ W, Turn own w W → R.Tabs W) :
    Calls Tryd.prog 17 #[.pointer (some ⟨p, 0, none⟩), .slice (some ⟨w.heap.size, 0, none⟩) 1 1] (w.alloc (.cells #[.int .i64 r.o, .int .i64 r.s, .int .i64 r.w, .int .i64 r.c, .string r.t] 36)) fun e w' =>
      ∃ own', e = .returned (.int .i64 (((putS S r).length : Int) - (S.length : Int))) ∧ Tr w' p (putS S r) own' ∧ Turn own w w' ∧ ∀ i, own' i → own i ∨ w.heap.size ≤ i := by
  have bx : R.Bx 36 (w.alloc (.cells #[.int .i64 r.o, .int .i64 r.s, .int .i64 r.w, .int .i64 r.c, .string r.t] 36)) w.heap.size #[.int .i64 r.o, .int .i64 r.s, .int .i64 r.w, .int .i64 r.c, .string r.t] := R.Bx.new _ w _
  have hb := alloc_below w (.cells #[.int .i64 r.o, .int .i64 r.s, .int .i64 r.w, .int .i64 r.c, .string r.t] 36)
  refine (put_c p S own (.slice (some ⟨w.heap.size, 0, none⟩) 1 1) [r] _ (h.below hb) (fun W hW => ?_) (fun x hx => ?_) (by simp) hn (fun W hW => hT W ((Turn.ofBelow hb).trans hW))).mono ?_
  · have hx : R.Bx 36 W w.heap.size #[.int .i64 r.o, .int .i64 r.s, .int .i64 r.w, .int .i64 r.c, .string r.t] := (hW.block _ bx.lt (fun hh => by have := h.up _ hh; omega)).trans bx
    exact R.rl_one W _ r hx
  · simp only [List.mem_singleton] at hx
    subst hx
    exact hs
  · rintro e w' ⟨own', rfl, h1, t1, o1⟩
    exact ⟨own', rfl, h1, (Turn.ofBelow hb).trans t1, fun i hi => (o1 i hi).imp id (fun hh => Nat.le_trans hb.size hh)⟩
theorem rput1_c (q : Nat) (L : List R.Rc) (r : R.Rc) (w : World) (P : Nat → Prop) (hP : ∀ i, w.heap.size ≤ i → P i) (h : RT w q L P) (hs : r.t.size ≤ 9223372036854775807) (hn : L.length ≤ 1000) (hT : ∀ W, w.grownBy W (some q) → R.Tabs W) :
    Calls Tryd.prog 18 #[.pointer (some ⟨q, 0, none⟩), .slice (some ⟨w.heap.size, 0, none⟩) 1 1] (w.alloc (.cells #[.int .i64 r.o, .int .i64 r.s, .int .i64 r.w, .int .i64 r.c, .string r.t] 36)) fun e w' =>
      ∃ n, e = .returned (.int .i64 n) ∧ n = ((refPut L r).length : Int) - (L.length : Int) ∧ RT w' q (refPut L r) P ∧ w.grownBy w' (some q) := by
  have bx : R.Bx 36 (w.alloc (.cells #[.int .i64 r.o, .int .i64 r.s, .int .i64 r.w, .int .i64 r.c, .string r.t] 36)) w.heap.size #[.int .i64 r.o, .int .i64 r.s, .int .i64 r.w, .int .i64 r.c, .string r.t] := R.Bx.new _ w _
  have hb := alloc_below w (.cells #[.int .i64 r.o, .int .i64 r.s, .int .i64 r.w, .int .i64 r.c, .string r.t] 36)
  obtain ⟨v, h1, h2, hp⟩ := h
  have hq := h1.lt
  refine (rput_c q L [r] (some ⟨w.heap.size, 0, none⟩) 1 _ P (fun i hi => hP i (Nat.le_trans hb.size hi)) ⟨v, h1.below hb, h2.below hb, hp⟩ (fun W hW => ?_) (fun x hx => ?_) (by simp) hn (fun W hW => hT W (grown_trans (grown_below hb _) hW))).mono ?_
  · exact R.rl_one W _ r ((hW.block _ bx.lt (fun e => by have := Option.some.inj e; omega)).trans bx)
  · simp only [List.mem_singleton] at hx
    subst hx
    exact hs
  · rintro e w' ⟨rfl, h3, g3⟩
    exact ⟨_, rfl, rfl, h3, grown_trans (grown_below hb _) g3⟩
theorem rdrop1_c (q : Nat) (L : List R.Rc) (o s : Int) (w : World) (P : Nat → Prop) (hP : ∀ i, w.heap.size ≤ i → P i) (h : RT w q L P) (hn : L.length ≤ 1000) :
    Calls Tryd.prog 16 #[.pointer (some ⟨q, 0, none⟩), .slice (some ⟨w.heap.size, 0, none⟩) 1 1] (w.alloc (.cells #[.int .i64 o, .int .i64 s] 32)) fun e w' =>
      ∃ n, e = .returned (.int .i64 n) ∧ n = (L.length : Int) - ((refDrop L (o, s)).length : Int) ∧ RT w' q (refDrop L (o, s)) P ∧ w.grownBy w' (some q) := by
  have bx : R.Bx 32 (w.alloc (.cells #[.int .i64 o, .int .i64 s] 32)) w.heap.size #[.int .i64 o, .int .i64 s] := R.Bx.new _ w _
  have hb := alloc_below w (.cells #[.int .i64 o, .int .i64 s] 32)
  obtain ⟨v, h1, h2, hp⟩ := h
  have hq := h1.lt
  refine (rdrop_c q L [(o, s)] (.slice (some ⟨w.heap.size, 0, none⟩) 1 1) _ P (fun i hi => hP i (Nat.le_trans hb.size hi)) ⟨v, h1.below hb, h2.below hb, hp⟩ (fun W hW => ?_) (by simp) hn).mono ?_
  · have hx : R.Bx 32 W w.heap.size #[.int .i64 o, .int .i64 s] := (hW.block _ bx.lt (fun e => by have := Option.some.inj e; omega)).trans bx
    refine ⟨_, 1, rfl, by simp, fun _ => ⟨w.heap.size, 0, rfl, fun k hk => ?_⟩⟩
    have hk1 : k < 1 := hk
    match k, hk1 with
    | 0, _ => exact ⟨hx.cell 0, hx.cell 1⟩
  · rintro e w' ⟨rfl, h3, g3⟩
    exact ⟨_, rfl, rfl, h3, grown_trans (grown_below hb _) g3⟩
end Go.Proofs.YtchkadifjbmmpaaDoor
namespace Go.Proofs.YtchkadifjbmmpaaDoor
open Go.RowKit Go.Lib Go.Maps
set_option maxRecDepth 100000
set_option linter.unusedSimpArgs false

theorem eq_rg (a b c d e f : Int) (w : World) : (Op.equalIn 10000 75 (.agg #[.int .i64 a, .int .i64 b, .int .i64 c]) (.agg #[.int .i64 d, .int .i64 e, .int .i64 f])).run Tryd.prog w = .ok (decide (((a, b, c) : Rg) = (d, e, f))) w := by
  have u3 := Tryd.underlying3
  have a3 := Tryd.isAgg3
  have z3 := Tryd.sizeOf3
  rw [show (10000 : Nat) = 9999 + 1 from rfl, run_equalIn_struct w 9999 75 _ _ (by kernel_rfl) (by kernel_rfl)]
  simp only [Program.fieldsOf, Tryd.underlying75]
  go_simp
  by_cases h1 : a = d <;> by_cases h2 : b = e <;> by_cases h3 : c = f <;> simp [h1, h2, h3]
theorem one13_c (w : World) : Calls Tryd.prog 57 #[] w fun e w' => e = .returned (.agg #[.int .i64 oneR.o, .int .i64 oneR.s, .int .i64 oneR.w, .int .i64 oneR.c, .string oneR.t]) ∧ Below w.heap.size w w' := by
  go_enter Tryd.func57, Tryd.ntmps57
  go_wp2
  have hx := R.Bx.new 36 w #[.int .i64 0, .int .i64 5, .int .i64 0, .int .i64 0, .string ⟨#[97]⟩]
  have r0 := hx.cell 0
  have r1 := hx.cell 1
  have r2 := hx.cell 2
  have r3 := hx.cell 3
  have r4 := hx.cell 4
  simp only [List.getElem?_toArray, List.getElem?_cons_succ, List.getElem?_cons_zero] at r0 r1 r2 r3 r4
  refine bodyPost_ret (v := .agg #[.int .i64 oneR.o, .int .i64 oneR.s, .int .i64 oneR.w, .int .i64 oneR.c, .string oneR.t]) (by simp [results, Tryd.results57, go_sem, r0, r1, r2, r3, r4, oneR]) rfl ⟨rfl, alloc_below _ _⟩
theorem put_oneS : putS [] oneR = oneS := if_pos ⟨one_may, by simp⟩
set_option maxHeartbeats 16000000 in
theorem awake13_c (w : World) (hT : R.Tabs w) : Calls Tryd.prog 33 #[] w fun e w' => e = .returned (.bool true) ∧ Below w.heap.size w w' := by
  have mixed : Tryd.prog.follows .mixedOrders = true := by kernel_rfl
  have HT := Lib.hid hT
  clear hT
  go_enter Tryd.func33, Tryd.ntmps33
  go_wp2_with fail
  refine (new_c w).mono ?_
  rintro e w1 ⟨p, own, rfl, h1, o1, b1⟩
  have H1 := Lib.hid h1
  have O1 := Lib.hid o1
  have B1 := Lib.hid b1
  clear h1 o1 b1
  go_wp2_with fail
  refine (new_c w1).mono ?_
  rintro e w2 ⟨u, ou, rfl, h2, o2, b2⟩
  have H2 := Lib.hid (H1.out.below b2)
  have U2 := Lib.hid h2
  have OU : Hid (∀ i, ou i → ¬ own i) := Lib.hid (fun i hi h => by have := H1.out.up i h; have := o2 i hi; omega)
  have B2 := Lib.hid (bn B1.out b2)
  have O2 : Hid (∀ i, ou i → w.heap.size ≤ i) := Lib.hid (fun i hi => Nat.le_trans B1.out.size (o2 i hi))
  clear h2 o2 b2 H1 B1
  go_wp2_with fail
  refine (one13_c w2).mono ?_
  rintro e w3 ⟨rfl, b3⟩
  have H3 := Lib.hid (H2.out.below b3)
  have U3 := Lib.hid (U2.out.below b3)
  have B3 := Lib.hid (bn B2.out b3)
  clear b3 H2 U2 B2
  have CP := Lib.hid (put1_c p [] own oneR w3 H3.out ⟨by decide, one_ok⟩ (by simp) (fun W hW => HT.out.below (B3.out.trans (hW.below B3.out.size O1.out))))
  rw [put_oneS] at CP
  go_wp2_with fail
  refine CP.out.mono ?_
  rintro e w5 ⟨own5, rfl, h5, t5, o5⟩
  have H5 := Lib.hid h5
  have U5 : Hid (Tr w5 u [] ou) := Lib.hid (U3.out.keep t5.size (fun i hi => t5.block i (U3.out.up i hi) (OU.out i hi)))
  have B5 : Hid (Below w.heap.size w w5) := Lib.hid (B3.out.trans (t5.below B3.out.size O1.out))
  clear h5 t5 o5 H3 U3 B3 CP O1 OU O2
  have CF := Lib.hid (find_all p u oneS [] own5 ou 3 w5 H5.out U5.out (by omega))
  rw [dif_one, one_find.1, one_find.2.1] at CF
  go_wp2_with fail
  refine CF.out.mono ?_
  rintro e w6 ⟨ad6, c6, rfl, k6, b6⟩
  have K6 := Lib.hid (P.KRow.rd k6)
  have H6 := Lib.hid (H5.out.below b6)
  have U6 := Lib.hid (U5.out.below b6)
  have B6 := Lib.hid (bn B5.out b6)
  clear k6 b6 CF H5 U5 B5
  have CF := Lib.hid (find_all u u [] [] ou ou 3 w6 U6.out U6.out (by omega))
  rw [(find_none (dif_same [])).1, (find_none (dif_same [])).2] at CF
  go_wp2_with fail
  refine CF.out.mono ?_
  rintro e w7 ⟨ad7, c7, rfl, _, b7⟩
  have K7 := Lib.hid (K6.out.below b7)
  have H7 := Lib.hid (H6.out.below b7)
  have U7 := Lib.hid (U6.out.below b7)
  have B7 := Lib.hid (bn B6.out b7)
  clear b7 CF H6 U6 B6 K6
  have CS := Lib.hid (step_c p u oneS [] own5 ou 0 0 0 w7 H7.out U7.out)
  rw [dif_one, one_find.2.2] at CS
  go_wp2_with fail
  refine CS.out.mono ?_
  rintro e w8 ⟨ad8, c8, rfl, g8, b8⟩
  have K8 := Lib.hid (K7.out.below b8)
  have H8 := Lib.hid (H7.out.below b8)
  have U8 := Lib.hid (U7.out.below b8)
  have B8 := Lib.hid (bn B7.out b8)
  have G8 := Lib.hid g8
  clear b8 g8 CS H7 U7 B7 K7
  go_wp2_with fail
  refine (one13_c w8).mono ?_
  rintro e w9 ⟨rfl, b9⟩
  have K9 := Lib.hid (K8.out.below b9)
  have H9 := Lib.hid (H8.out.below b9)
  have U9 := Lib.hid (U8.out.below b9)
  have B9 := Lib.hid (bn B8.out b9)
  have G9 := Lib.hid (G8.out.below b9)
  clear b9 H8 U8 B8 K8 G8
  have hkf := keyfield_run oneR.o oneR.s oneR.w oneR.c oneR.t w9
  have al := alloc_below w9 (.cells #[.int .i64 oneR.o, .int .i64 oneR.s] 32)
  have CK := Lib.hid (P.samek_c [((0 : Int), (5 : Int))] _ _ _ (K9.out.below al) (P.KRd.one w9 oneR.o oneR.s 32) (by simp))
  have H10 := Lib.hid (H9.out.below al)
  have U10 := Lib.hid (U9.out.below al)
  have B10 := Lib.hid (bn B9.out al)
  have G10 := Lib.hid (G9.out.below al)
  clear al H9 U9 B9 K9 G9
  go_wp2_with fail
  refine CK.out.mono ?_
  rintro e w11 ⟨rfl, b11⟩
  have H11 := Lib.hid (H10.out.below b11)
  have U11 := Lib.hid (U10.out.below b11)
  have B11 := Lib.hid (bn B10.out b11)
  have G11 := G10.out.below b11
  obtain ⟨g, rfl, x0, x1, x2⟩ := G11.at 0 (by decide)
  have hgl := World.block_lt_of_cell? _ _ x0
  simp only [Nat.zero_mul, Nat.zero_add, List.getElem_cons_zero] at x0 x1 x2
  have q : ∀ W, (Op.equalIn 10000 75 (.agg #[.int .i64 0, .int .i64 1, .int .i64 0]) (.agg #[.int .i64 0, .int .i64 1, .int .i64 0])).run Tryd.prog W = .ok true W := fun W => by rw [eq_rg]; simp
  have CC := Lib.hid (clash_c p u oneS [] own5 ou 3 w11 H11.out U11.out kept_one kept_nil (by omega) (HT.out.below B11.out))
  rw [one_clash] at CC
  clear b11 H10 U10 B10 G10 G11 CK hkf
  go_wp2_with fail
  refine CC.out.mono ?_
  rintro e w12 ⟨rfl, b12⟩
  have B12 := Lib.hid (bn B11.out b12)
  clear b12 CC x0 x1 x2 hgl q
  go_wp2_with fail
  refine (bound_c 2 w12 (by omega)).mono ?_
  rintro e w13 ⟨rfl, rfl⟩
  go_wp2_with fail
  go_ret
  exact ⟨rfl, B12.out⟩
end Go.Proofs.YtchkadifjbmmpaaDoor
namespace Go.Proofs.YtchkadifjbmmpaaDoor
open Go.RowKit Go.Lib Go.Maps
set_option maxRecDepth 100000
set_option linter.unusedSimpArgs false

structure A3 (w wr : World) (p u q : Nat) (ot ou : Nat → Prop) (S V : Sb) (L : List R.Rc) : Prop where
  t : Tr wr p S ot
  v : Tr wr u V ou
  r : RT wr q L (fun g => ¬ (ot g ∨ ou g))
  nq : ¬ (ot q ∨ ou q)
  d : ∀ j, ot j → ou j → False
  b : Below w.heap.size w wr
  lt : ∀ j, ot j → w.heap.size ≤ j
  lu : ∀ j, ou j → w.heap.size ≤ j
  lq : w.heap.size ≤ q
theorem A3.below {w wr w' : World} {p u q : Nat} {ot ou : Nat → Prop} {S V : Sb} {L : List R.Rc} (h : A3 w wr p u q ot ou S V L) (hb : Below wr.heap.size wr w') : A3 w w' p u q ot ou S V L := by
  obtain ⟨x, h1, h2, h3⟩ := h.r
  exact ⟨h.t.below hb, h.v.below hb, ⟨x, h1.below hb, h2.below hb, h3⟩, h.nq, h.d, bn h.b hb, h.lt, h.lu, h.lq⟩
theorem A3.turnT {w wr w' : World} {p u q : Nat} {ot ou ot' : Nat → Prop} {S S' V : Sb} {L : List R.Rc} (h : A3 w wr p u q ot ou S V L) (ht : Tr w' p S' ot') (t4 : Turn ot wr w') (o4 : ∀ j, ot' j → ot j ∨ wr.heap.size ≤ j) : A3 w w' p u q ot' ou S' V L := by
  obtain ⟨x, h1, h2, h3⟩ := h.r
  refine ⟨ht, h.v.keep t4.size (fun i hi => t4.block i (h.v.up i hi) (fun ho => h.d i ho hi)), ⟨x, (t4.block q h1.lt (fun ho => h.nq (.inl ho))).trans h1, ownsRow_of_block h2 (fun g hg => t4.block g (World.ownsRow.lt h2 g hg).2 (fun ho => h3 g hg (.inl ho))), fun g hg hh => ?_⟩, fun hh => ?_, fun j h5 h6 => ?_, h.b.trans (t4.below h.b.size h.lt), fun j hj => (o4 j hj).elim (h.lt j) (fun h5 => Nat.le_trans h.b.size h5), h.lu, h.lq⟩
  · have hl := (World.ownsRow.lt h2 g hg).2
    rcases hh with hh | hh
    · rcases o4 g hh with h5 | h5
      · exact h3 g hg (.inl h5)
      · omega
    · exact h3 g hg (.inr hh)
  · have hl := h1.lt
    rcases hh with hh | hh
    · rcases o4 q hh with h5 | h5
      · exact h.nq (.inl h5)
      · omega
    · exact h.nq (.inr hh)
  · rcases o4 j h5 with h7 | h7
    · exact h.d j h7 h6
    · have := h.v.up j h6
      omega
theorem A3.turnU {w wr w' : World} {p u q : Nat} {ot ou ou' : Nat → Prop} {S V V' : Sb} {L : List R.Rc} (h : A3 w wr p u q ot ou S V L) (ht : Tr w' u V' ou') (t4 : Turn ou wr w') (o4 : ∀ j, ou' j → ou j ∨ wr.heap.size ≤ j) : A3 w w' p u q ot ou' S V' L := by
  obtain ⟨x, h1, h2, h3⟩ := h.r
  refine ⟨h.t.keep t4.size (fun i hi => t4.block i (h.t.up i hi) (fun ho => h.d i hi ho)), ht, ⟨x, (t4.block q h1.lt (fun ho => h.nq (.inr ho))).trans h1, ownsRow_of_block h2 (fun g hg => t4.block g (World.ownsRow.lt h2 g hg).2 (fun ho => h3 g hg (.inr ho))), fun g hg hh => ?_⟩, fun hh => ?_, fun j h5 h6 => ?_, h.b.trans (t4.below h.b.size h.lu), h.lt, fun j hj => (o4 j hj).elim (h.lu j) (fun h5 => Nat.le_trans h.b.size h5), h.lq⟩
  · have hl := (World.ownsRow.lt h2 g hg).2
    rcases hh with hh | hh
    · exact h3 g hg (.inl hh)
    · rcases o4 g hh with h5 | h5
      · exact h3 g hg (.inr h5)
      · omega
  · have hl := h1.lt
    rcases hh with hh | hh
    · exact h.nq (.inl hh)
    · rcases o4 q hh with h5 | h5
      · exact h.nq (.inr h5)
      · omega
  · rcases o4 j h6 with h7 | h7
    · exact h.d j h5 h7
    · have := h.t.up j h5
      omega
theorem A3.turnR {w wr w' : World} {p u q : Nat} {ot ou : Nat → Prop} {S V : Sb} {L L' : List R.Rc} (h : A3 w wr p u q ot ou S V L) (hr : RT w' q L' (fun g => ¬ (ot g ∨ ou g))) (g4 : wr.grownBy w' (some q)) : A3 w w' p u q ot ou S V L' :=
  ⟨h.t.keep g4.size (fun i hi => g4.block i (h.t.up i hi) (fun e => h.nq (.inl (Option.some.inj e ▸ hi)))), h.v.keep g4.size (fun i hi => g4.block i (h.v.up i hi) (fun e => h.nq (.inr (Option.some.inj e ▸ hi)))), hr, h.nq, h.d, h.b.trans (D.below_of_grown g4 h.b.size (fun _ e => Option.some.inj e ▸ h.lq)), h.lt, h.lu, h.lq⟩
/-- New blocks are nobody's. -/
theorem A3.fresh {w wr : World} {p u q : Nat} {ot ou : Nat → Prop} {S V : Sb} {L : List R.Rc} (h : A3 w wr p u q ot ou S V L) : ∀ i, wr.heap.size ≤ i → ¬ (ot i ∨ ou i) := fun i hi hh => hh.elim (fun h1 => by have := h.t.up i h1; omega) (fun h1 => by have := h.v.up i h1; omega)
end Go.Proofs.YtchkadifjbmmpaaDoor
namespace Go.Proofs.YtchkadifjbmmpaaDoor
open Go.RowKit Go.Lib Go.Maps
set_option maxRecDepth 100000
set_option linter.unusedSimpArgs false

/-- Does a record stand in a range whose level has numbers this many? -/
def stR (o : Int) (n : Nat) (i : Int) (r : R.Rc) : Bool := r.o == o && (r.s.tdiv (n : Int)) == i
def someB (L : List R.Rc) (o : Int) (n : Nat) (i : Int) : Bool := L.any (stR o n i)
theorem may_key {r : R.Rc} (h : R.mayR r = true) : 0 ≤ r.o ∧ r.o < 8 ∧ 0 ≤ r.s ∧ r.s < 1024 := by
  simp only [R.mayR, R.keyB, Bool.and_eq_true, decide_eq_true_eq] at h
  omega
theorem mayr_ok {r : R.Rc} (h : R.mayR r = true) : r.t.size ≤ 9223372036854775807 ∧ okKy (kyR r) := by
  obtain ⟨h1, h2, _, _, h5⟩ := R.mayR_bounds h
  refine ⟨by omega, ⟨?_, ?_⟩, ⟨?_, ?_⟩⟩
  all_goals
    simp only [kyR]
    omega
theorem wd_pos : ∀ k, 0 < wd k
  | 0 => by decide
  | k + 1 => by have := wd_pos k; show 0 < 4 * wd k; omega
theorem pl_five {lv : Nat} (h : lv < 5) : pl lv + wd lv ≤ 341 := by
  have : ∀ k, k < 5 → pl k + wd k ≤ 341 := by decide
  exact this lv h
/-- A part of a range lies in it. -/
theorem stR_up {o : Int} {d i j : Nat} {r : R.Rc} (h0 : 0 ≤ r.s) (hj : j < 4) (h : stR o (wd d) ((4 * i + j : Nat) : Int) r = true) : stR o (wd (d + 1)) (i : Int) r = true := by
  unfold stR at h ⊢
  simp only [Bool.and_eq_true, beq_iff_eq] at h ⊢
  refine ⟨h.1, ?_⟩
  obtain ⟨n, hn⟩ := Int.eq_ofNat_of_zero_le h0
  have h2 := h.2
  rw [hn, ← Int.ofNat_tdiv] at h2 ⊢
  have h3 : n / wd d = 4 * i + j := by exact_mod_cast h2
  have h4 : n / wd (d + 1) = i := by
    show n / (4 * wd d) = i
    rw [Nat.mul_comm, ← Nat.div_div_eq_div_mul, h3]
    omega
  exact_mod_cast h4
theorem treeF_none {L : List R.Rc} (hm : ∀ r ∈ L, R.mayR r = true) (o : Nat) : ∀ (d lv i : Nat), lv + d = 5 → i < wd lv → (∀ r ∈ L, stR (o : Int) (wd d) (i : Int) r = false) → treeF (sx L) o (pl lv + i) = 0
  | 0, lv, i, he, hi, h => by
    obtain rfl : lv = 5 := by omega
    rw [show pl 5 + i = 341 + i from rfl, treeF_leaf]
    unfold leafS
    have : (sx L).find? (fun x => decide (x.1 = ((o : Int), (i : Int)))) = none := by
      rw [List.find?_eq_none]
      intro x hx hd
      rw [decide_eq_true_eq] at hd
      unfold sx at hx
      obtain ⟨r, hr, rfl⟩ := List.mem_map.1 hx
      have h1 := h r hr
      unfold kyR at hd
      simp only [Prod.mk.injEq] at hd
      unfold stR at h1
      rw [show wd 0 = 1 from rfl, hd.1, hd.2] at h1
      simp at h1
    rw [this]
  | d + 1, lv, i, he, hi, h => by
    have h5 := pl_five (show lv < 5 by omega)
    have hc := treeF_cons (sx L) o (pl lv + i) (by omega)
    unfold Cons at hc
    have hw : wd (lv + 1) = 4 * wd lv := rfl
    have hp : pl (lv + 1) = 4 * pl lv + 1 := rfl
    have z : ∀ j, j < 4 → treeF (sx L) o (4 * (pl lv + i) + (j + 1)) = 0 := fun j hj => by
      have := treeF_none hm o d (lv + 1) (4 * i + j) (by omega) (by omega) (fun r hr => by
        cases hh : stR (o : Int) (wd d) ((4 * i + j : Nat) : Int) r with
        | false => rfl
        | true =>
          have := stR_up (may_key (hm r hr)).2.2.1 hj hh
          rw [h r hr] at this
          cases this)
      rw [show 4 * (pl lv + i) + (j + 1) = pl (lv + 1) + (4 * i + j) by omega]
      exact this
    rw [hc, z 0 (by omega), z 1 (by omega), z 2 (by omega), z 3 (by omega)]
    rfl
theorem some_no {L : List R.Rc} {o : Int} {n : Nat} {i : Int} (h : someB L o n i = false) : ∀ r ∈ L, stR o n i r = false := by
  unfold someB at h
  rw [List.any_eq_false] at h
  intro r hr
  simpa using h r hr
/-- At level 5 a range is a number: its digest is that of the record that stands there. -/
theorem leaf_at {L : List R.Rc} {o i k : Nat} (hk : k < L.length) (h : kyR L[k] = ((o : Int), (i : Int))) (hf : ∀ j, j < k → ∀ h : j < L.length, kyR L[j] ≠ ((o : Int), (i : Int))) : leafS (sx L) o i = D.fnv 14695981039346656037 (R.layL L[k]) := by
  have : (sx L).find? (fun x => decide (x.1 = ((o : Int), (i : Int)))) = some (kyR L[k], R.layL L[k]) := by
    rw [List.find?_eq_some_iff_getElem]
    refine ⟨by simpa using h, k, by rw [sx_len]; exact hk, by simp [sx], fun j hj => ?_⟩
    have := hf j hj (by omega)
    simpa [sx] using this
  unfold leafS
  rw [this]
theorem some_yes {L : List R.Rc} {o i : Nat} (h : someB L (o : Int) (wd 0) (i : Int) = true) : ∃ r ∈ L, kyR r = ((o : Int), (i : Int)) := by
  unfold someB at h
  rw [List.any_eq_true] at h
  obtain ⟨r, hr, h⟩ := h
  refine ⟨r, hr, ?_⟩
  unfold stR at h
  simp only [show wd 0 = 1 from rfl, Bool.and_eq_true, beq_iff_eq] at h
  unfold kyR
  rw [h.1]
  have := h.2
  simp at this
  rw [this]
theorem first_at : ∀ {L : List R.Rc} {k : Ky}, (∃ r ∈ L, kyR r = k) → ∃ i, ∃ h : i < L.length, kyR L[i] = k ∧ ∀ j, j < i → ∀ h : j < L.length, kyR L[j] ≠ k
  | [], _, h => by obtain ⟨r, hr, _⟩ := h; cases hr
  | a :: L, k, h => by
    by_cases ha : kyR a = k
    · exact ⟨0, by simp, ha, fun j hj => by omega⟩
    · have h2 : ∃ r ∈ L, kyR r = k := by
        obtain ⟨r, hr, hk⟩ := h
        rcases List.mem_cons.1 hr with rfl | hr
        · exact absurd hk ha
        · exact ⟨r, hr, hk⟩
      obtain ⟨i, hi, h3, h4⟩ := first_at h2
      refine ⟨i + 1, by simpa using hi, h3, fun j hj hjl => ?_⟩
      match j with
      | 0 => exact ha
      | j + 1 => exact h4 j (by omega) (by simpa using hjl)
theorem find_at {L : List R.Rc} {k : Ky} {n : Int} {i : Nat} (hi : i < L.length) (h1 : kyR L[i] = k) (h2 : ∀ j, j < i → ∀ h : j < L.length, kyR L[j] ≠ k) (h : FindS L k n) : n = (i : Int) := by
  rcases h with ⟨_, h⟩ | ⟨m, hm, rfl, h3, h4⟩
  · exact absurd h1 (h _ (List.getElem_mem hi))
  · have : m = i := by
      rcases Nat.lt_trichotomy m i with h5 | h5 | h5
      · exact absurd h3 (h2 m h5 hm)
      · exact h5
      · exact absurd h1 (h4 i h5 hi)
    rw [this]
/-- The digests of a range's first parts. -/
def partsF (S : Sb) (o lv i k : Nat) : List Int := (List.range k).map fun j => treeF S o (pl (lv + 1) + (4 * i + j))
theorem partsF_len (S : Sb) (o lv i k : Nat) : (partsF S o lv i k).length = k := by simp [partsF]
theorem partsF_next (S : Sb) (o lv i k : Nat) : partsF S o lv i (k + 1) = partsF S o lv i k ++ [treeF S o (pl (lv + 1) + (4 * i + k))] := by simp [partsF, List.range_succ]
theorem partsF_all {S : Sb} {o lv i : Nat} (hL : lv < 5) (hi : i < wd lv) : D.allD (partsF S o lv i 4) = treeF S o (pl lv + i) := by
  have h5 := pl_five hL
  have hc := treeF_cons S o (pl lv + i) (by omega)
  unfold Cons at hc
  have hp : pl (lv + 1) = 4 * pl lv + 1 := rfl
  rw [hc]
  have hr : partsF S o lv i 4 = [treeF S o (pl (lv + 1) + (4 * i + 0)), treeF S o (pl (lv + 1) + (4 * i + 1)), treeF S o (pl (lv + 1) + (4 * i + 2)), treeF S o (pl (lv + 1) + (4 * i + 3))] := rfl
  rw [hr, show pl (lv + 1) + (4 * i + 0) = 4 * (pl lv + i) + 1 by omega, show pl (lv + 1) + (4 * i + 1) = 4 * (pl lv + i) + 2 by omega, show pl (lv + 1) + (4 * i + 2) = 4 * (pl lv + i) + 3 by omega, show pl (lv + 1) + (4 * i + 3) = 4 * (pl lv + i) + 4 by omega]
end Go.Proofs.YtchkadifjbmmpaaDoor
namespace Go.Proofs.YtchkadifjbmmpaaDoor
open Go.RowKit Go.Lib Go.Maps
set_option maxRecDepth 100000
set_option linter.unusedSimpArgs false

theorem wd_le : ∀ k, k < 6 → wd k ≤ 1024 := by decide
set_option maxHeartbeats 4000000 in
theorem span_c (lv : Nat) (hL : lv ≤ 5) (w : World) : Calls Tryd.prog 69 #[.int .i64 (lv : Int)] w fun e w' => e = .returned (.int .i64 ((wd (5 - lv) : Nat) : Int)) ∧ w' = w := by
  go_enter Tryd.func69, Tryd.ntmps69
  go_wp2_with fail
  go_loopw [3, 4] (fun v3 v4 wr => ∃ k : Nat, k ≤ 5 - lv ∧ v3 = .int .i64 ((wd k : Nat) : Int) ∧ v4 = .int .i64 ((lv + k : Nat) : Int) ∧ wr = w) (fun _ v4 _ => 5 - (RowKit.intOf v4).toNat)
  case atStart => exact ⟨0, by omega, rfl, rfl, rfl⟩
  case round =>
    obtain ⟨k, hk, rfl, rfl, rfl⟩ := hrel
    by_cases hp : k < 5 - lv
    · have HP := Lib.hid hp
      have HE : Hid (wd (k + 1) = 4 * wd k) := Lib.hid rfl
      have h1 := wd_le k (by omega)
      have e1 : ((lv + k : Nat) : Int) < 5 := by omega
      generalize hz : wd k = z at *
      clear hz hp
      go_wp2_with fail
      go_roundw
      case rel => exact ⟨k + 1, HP.out, by rw [HE.out]; go_num, by go_num, trivial⟩
      case measure => have := HP.out; simp [RowKit.intOf]; omega
    · obtain rfl : k = 5 - lv := by omega
      have e1 : ¬ ((lv + (5 - lv) : Nat) : Int) < 5 := by omega
      go_wp2_with fail
      go_ret
      exact ⟨rfl, rfl⟩
theorem wd_quo {L : Nat} (h : L ≤ 5) : wd 5 / wd (5 - L) = wd L := by
  have : ∀ L, L < 6 → wd 5 / wd (5 - L) = wd L := by decide
  exact this L (by omega)
set_option maxHeartbeats 8000000 in
theorem there_c (o L i : Int) (w : World) : Calls Tryd.prog 49 #[.int .i64 o, .int .i64 L, .int .i64 i] w fun e w' => e = .returned (.bool (sumB o L i)) ∧ w' = w := by
  by_cases e1 : o < 0
  · have hB : sumB o L i = false := by unfold sumB; rw [decide_eq_false_iff_not]; omega
    rw [hB]
    clear hB
    go_enter Tryd.func49, Tryd.ntmps49
    go_wp2_with fail
    go_ret
    exact ⟨rfl, rfl⟩
  · by_cases e2 : 8 ≤ o
    · have hB : sumB o L i = false := by unfold sumB; rw [decide_eq_false_iff_not]; omega
      rw [hB]
      clear hB
      go_enter Tryd.func49, Tryd.ntmps49
      go_wp2_with fail
      go_ret
      exact ⟨rfl, rfl⟩
    · by_cases e3 : L < 0
      · have hB : sumB o L i = false := by unfold sumB; rw [decide_eq_false_iff_not]; omega
        rw [hB]
        clear hB
        go_enter Tryd.func49, Tryd.ntmps49
        go_wp2_with fail
        go_ret
        exact ⟨rfl, rfl⟩
      · by_cases e4 : 5 < L
        · have hB : sumB o L i = false := by unfold sumB; rw [decide_eq_false_iff_not]; omega
          rw [hB]
          clear hB
          go_enter Tryd.func49, Tryd.ntmps49
          go_wp2_with fail
          go_ret
          exact ⟨rfl, rfl⟩
        · by_cases e5 : i < 0
          · have hB : sumB o L i = false := by unfold sumB; rw [decide_eq_false_iff_not]; omega
            rw [hB]
            clear hB
            go_enter Tryd.func49, Tryd.ntmps49
            go_wp2_with fail
            go_ret
            exact ⟨rfl, rfl⟩
          · obtain ⟨Ln, rfl⟩ := Int.eq_ofNat_of_zero_le (show (0 : Int) ≤ L by omega)
            have hB : sumB o (Ln : Int) i = decide (i < ((wd Ln : Nat) : Int)) := by
              unfold sumB
              rw [(wd_pl Ln (by omega)).1]
              rw [decide_eq_decide]
              omega
            rw [hB]
            have S0 := Lib.hid (span_c 0 (by omega) w)
            have S1 := Lib.hid (span_c Ln (by omega) w)
            have hq := wd_quo (show Ln ≤ 5 by omega)
            have h0 := wd_pos (5 - Ln)
            have h1 := wd_le (5 - Ln) (by omega)
            have h2 : wd (5 - 0) = 1024 := rfl
            rw [show wd 5 = 1024 from rfl] at hq
            rw [h2] at S0
            have hqi : (1024 : Int).tdiv ((wd (5 - Ln) : Nat) : Int) = ((wd Ln : Nat) : Int) := by rw [← hq]; rfl
            have h3 : ((wd (5 - Ln) : Nat) : Int) ≠ 0 := by omega
            have h4 := wd_le Ln (by omega)
            have h5 := wd_pos Ln
            generalize wd (5 - Ln) = z at *
            generalize wd Ln = y at *
            clear hB hq h2
            go_enter Tryd.func49, Tryd.ntmps49
            go_wp2_with fail
            refine S0.out.mono ?_
            rintro e w1 ⟨rfl, rfl⟩
            go_wp2_with fail
            refine S1.out.mono ?_
            rintro e w1 ⟨rfl, rfl⟩
            go_wp2_with fail
            go_ret
            exact ⟨rfl, rfl⟩
set_option maxHeartbeats 16000000 in
theorem some_c (q : Nat) (L : List R.Rc) (ad : Option Addr) (cap : Nat) (o i : Int) (lv : Nat) (hlv : lv ≤ 5) (w : World) (hb : R.Bx 30 w q #[.slice ad L.length cap]) (h : R.Rl w (.slice ad L.length cap) L) (hl : L.length ≤ 1000) (hm : ∀ r ∈ L, R.mayR r = true) :
    Calls Tryd.prog 70 #[.pointer (some ⟨q, 0, none⟩), .int .i64 o, .int .i64 (lv : Int), .int .i64 i] w fun e w' => e = .returned (.bool (someB L o (wd (5 - lv)) i)) ∧ Below w.heap.size w w' := by
  have mixed : Tryd.prog.follows .mixedOrders = true := by kernel_rfl
  have SP := Lib.hid (span_c lv hlv w)
  have hn0 := wd_pos (5 - lv)
  have hn1 := wd_le (5 - lv) (by omega)
  have HRL := Lib.hid h
  have HB := Lib.hid hb
  have HM := Lib.hid hm
  have S0 : Hid (Below w.heap.size w w) := Lib.hid (Below.refl _ _)
  generalize wd (5 - lv) = n at *
  have N0 : Hid (someB (L.drop 0) o n i = someB L o n i) := Lib.hid rfl
  clear h hb hm
  go_enter Tryd.func70, Tryd.ntmps70
  go_wp2_with fail
  refine SP.out.mono ?_
  rintro e w1 ⟨rfl, rfl⟩
  clear SP
  go_wp2_with fail
  go_loopw [10] (fun v10 wr => ∃ k : Nat, k ≤ L.length ∧ v10 = .int .i64 (k : Int) ∧ Hid (someB (L.drop k) o n i = someB L o n i) ∧ Hid (Below w1.heap.size w1 wr)) (fun v10 _ => L.length - (RowKit.intOf v10).toNat)
  case atStart => exact ⟨0, by omega, rfl, N0, S0⟩
  case round =>
    obtain ⟨k, hk, rfl, NI, HN⟩ := hrel
    clear N0 S0
    have q0 := (HB.out.below HN.out).cell 0
    simp only [List.getElem?_toArray, List.getElem?_cons_zero] at q0
    have hlq := World.block_lt_of_cell? _ _ q0
    by_cases hp : k < L.length
    · have HP := Lib.hid hp
      obtain ⟨ad2, cap2, e, _, hc⟩ := (HRL.out.below HN.out).form
      simp only [Value.slice.injEq, true_and] at e
      obtain ⟨rfl, rfl⟩ := e
      obtain ⟨g, b, rfl, hrc⟩ := hc (by omega)
      obtain ⟨x0, x1, _, _, _⟩ := hrc k hp
      have hgl := World.block_lt_of_cell? _ _ x0
      have hd := List.drop_eq_getElem_cons hp
      have hs := NI.out
      rw [hd] at hs
      have hk2 := may_key (HM.out _ (List.getElem_mem hp))
      clear hc hrc hd NI
      have ho : (L[k].o == o && (L[k].s.tdiv (n : Int)) == i || someB (L.drop (k + 1)) o n i) = someB L o n i := hs
      clear hs
      generalize L[k].o = xo at *
      generalize L[k].s = xs at *
      have hq : (xs.tdiv (n : Int)) = ((xs.toNat / n : Nat) : Int) := by
        obtain ⟨m, hm⟩ := Int.eq_ofNat_of_zero_le hk2.2.2.1
        rw [hm]
        rfl
      have hq2 : xs.toNat / n ≤ 1024 := Nat.le_trans (Nat.div_le_self _ _) (by omega)
      have hn : (n : Int) ≠ 0 := by omega
      have hb : 0 ≤ xs.tdiv (n : Int) ∧ xs.tdiv (n : Int) ≤ 1024 := by
        rw [hq]
        generalize xs.toNat / n = y at *
        omega
      have hw : IntKind.i64.wrap (xs.tdiv (n : Int)) = xs.tdiv (n : Int) := by rw [IntKind.wrap_i64]; omega
      generalize hz : xs.tdiv (n : Int) = z at *
      have HO := Lib.hid ho
      clear ho hq hq2 hb
      by_cases h1 : xo = o
      · subst h1
        by_cases h2 : z = i
        · subst h2
          have HR : Hid (someB L xo n z = true) := Lib.hid (by rw [← HO.out]; simp)
          go_wp2_with fail
          go_ret
          exact ⟨by rw [HR.out]; rfl, HN.out⟩
        · have hb2 : (z == i) = false := by simpa using h2
          have HR : Hid (someB (L.drop (k + 1)) xo n i = someB L xo n i) := Lib.hid (by rw [← HO.out, hb2]; simp)
          clear HO h2
          go_wp2_with fail
          go_roundw
          case rel => exact ⟨k + 1, HP.out, by go_num, HR, HN⟩
          case measure => have := HP.out; simp [RowKit.intOf]; omega
      · have hb2 : (xo == o) = false := by simpa using h1
        have HR : Hid (someB (L.drop (k + 1)) o n i = someB L o n i) := Lib.hid (by rw [← HO.out, hb2]; simp)
        clear HO h1
        go_wp2_with fail
        go_roundw
        case rel => exact ⟨k + 1, HP.out, by go_num, HR, HN⟩
        case measure => have := HP.out; simp [RowKit.intOf]; omega
    · have hil : k = L.length := by omega
      subst hil
      have HR : Hid (someB L o n i = false) := Lib.hid (by rw [← NI.out, List.drop_length]; rfl)
      go_wp2_with fail
      go_ret
      exact ⟨by rw [HR.out]; rfl, HN.out⟩
end Go.Proofs.YtchkadifjbmmpaaDoor
namespace Go.Proofs.YtchkadifjbmmpaaDoor
open Go.RowKit Go.Lib Go.Maps
set_option maxRecDepth 100000
set_option linter.unusedSimpArgs false

def rowL (S : Sb) (L i : Int) (k : Nat) : List Int := (List.range k).map fun (o : Nat) => sumV (treeF S) (o : Int) L i
theorem rowL_len (S : Sb) (L i : Int) (k : Nat) : (rowL S L i k).length = k := by simp [rowL]
theorem rowL_next (S : Sb) (L i : Int) (k : Nat) : rowL S L i (k + 1) = rowL S L i k ++ [sumV (treeF S) (k : Int) L i] := by simp [rowL, List.range_succ]
theorem rowL_at (S : Sb) (L i : Int) (k j : Nat) (h : j < (rowL S L i k).length) : (rowL S L i k)[j] = sumV (treeF S) (j : Int) L i := by simp [rowL]
theorem row_form {w : World} {B : Nat} {v : Value} {l : List Int} (h : DRow w B v l) (h0 : 0 < l.length) : ∃ g cap, v = .slice (some ⟨g, 0, none⟩) l.length cap := by
  rcases h.2 with ⟨_, h1⟩ | ⟨g2, cap, cur, rfl, _⟩
  · omega
  · exact ⟨_, _, rfl⟩
theorem row_form0 {w : World} {B : Nat} {v : Value} {l : List Int} (h : DRow w B v l) : ∃ A cap, v = .slice A l.length cap := by
  rcases h.2 with ⟨rfl, h1⟩ | ⟨g2, cap, cur, rfl, _⟩
  · exact ⟨none, 0, by rw [h1]⟩
  · exact ⟨_, _, rfl⟩
set_option maxHeartbeats 32000000 in
theorem origins_law (l : List R.Rc) (v : Value) (wi L i : Int) (w : World) (h : R.Rl w v l) (hs : ∀ r ∈ l, r.t.size ≤ 9223372036854775807 ∧ okKy (kyR r)) (hl : l.length ≤ maxLen) (hT : R.Tabs w) :
    Calls Tryd.prog 6 #[v, .int .i64 wi, .int .i64 L, .int .i64 i] w fun e w' => e = .returned (.bool true) ∧ Below w.heap.size w w' := by
  have mixed : Tryd.prog.follows .mixedOrders = true := by kernel_rfl
  have HG := Lib.hid (R.great_c l v 20 w h (by omega) hl)
  have HT := Lib.hid hT
  cases hg : R.greatB l 20 with
  | true =>
    rw [hg] at HG
    clear hg h hs hl hT
    go_enter Tryd.func6, Tryd.ntmps6
    go_wp2_with fail
    refine HG.out.mono ?_
    rintro e w1 ⟨rfl, b1⟩
    go_wp2_with fail
    refine (awake_c w1 (HT.out.below b1)).mono ?_
    rintro e w2 ⟨rfl, b2⟩
    go_wp2
    go_ret
    exact ⟨rfl, bn b1 b2⟩
  | false =>
    rw [hg] at HG
    have hln : l.length ≤ 20 := (R.greatB_no hg).1
    obtain ⟨ad, cap, rfl, _, _⟩ := id h.form
    have HRL := Lib.hid h
    have HSZ := Lib.hid hs
    clear hg h hs hl hT
    go_enter Tryd.func6, Tryd.ntmps6
    go_wp2_with fail
    refine HG.out.mono ?_
    rintro e w1 ⟨rfl, b1⟩
    have B1 := Lib.hid b1
    clear b1 HG
    go_wp2_with fail
    refine (new_c w1).mono ?_
    rintro e w2 ⟨p, own, rfl, h2, o2, b2⟩
    have H2 := Lib.hid h2
    have B2 := Lib.hid (bn B1.out b2)
    have O2 : Hid (∀ i, own i → w.heap.size ≤ i) := Lib.hid (fun i hi => Nat.le_trans B1.out.size (o2 i hi))
    clear h2 o2 b2 B1
    go_wp2_with fail
    refine (put_c p [] own (.slice ad l.length cap) l w2 H2.out (fun W hW => HRL.out.below (B2.out.trans (hW.below B2.out.size O2.out))) HSZ.out (by omega) (by simp) (fun W hW => HT.out.below (B2.out.trans (hW.below B2.out.size O2.out)))).mono ?_
    rintro e w3 ⟨own3, rfl, h3, t3, o3⟩
    have H3 := Lib.hid h3
    have B3 : Hid (Below w.heap.size w w3) := Lib.hid (B2.out.trans (t3.below B2.out.size O2.out))
    have O3 : Hid (∀ i, own3 i → w.heap.size ≤ i) := Lib.hid (fun i hi => (o3 i hi).elim (O2.out i) (fun h => Nat.le_trans B2.out.size h))
    have hS0 : (putSs [] l).length ≤ 20 := by
      have := putSs_len [] l
      simp only [List.length_nil] at this
      omega
    clear h3 t3 o3 H2 B2 O2
    obtain ⟨S0, hS0e⟩ : ∃ S0, S0 = putSs [] l := ⟨_, rfl⟩
    have HS0 := Lib.hid hS0e
    rw [← hS0e] at H3 hS0
    rw [← hS0e]
    clear hS0e
    go_wp2_with fail
    refine (D.low_c wi 8 w3 (by omega) (by omega)).mono ?_
    rintro e w4 ⟨z, rfl, hz0, hz8, rfl⟩
    obtain ⟨wh, rfl⟩ := Int.eq_ofNat_of_zero_le hz0
    have hwh : wh < 8 := by omega
    clear hz0 hz8
    have R0 : Hid (DRow w3 w3.heap.size (.slice none 0 0) (rowL S0 L i 0)) := Lib.hid (by show World.ownsRow _ _ _ _ _ _ _; exact World.ownsRow_nil _ _ _ _)
    have W0 : Hid (Below w3.heap.size w3 w3) := Lib.hid (Below.refl _ _)
    go_wp2_with fail
    go_loopw [10, 11] (fun v10 v11 wr => ∃ (k : Nat), k ≤ 8 ∧ v11 = .int .i64 (k : Int) ∧ Hid (DRow wr w3.heap.size v10 (rowL S0 L i k)) ∧ Hid (Below w3.heap.size w3 wr)) (fun _ v11 _ => 8 - (RowKit.intOf v11).toNat)
    case atStart => exact ⟨0, by omega, rfl, R0, W0⟩
    case round =>
      obtain ⟨k, hk, rfl, RK, BK⟩ := hrel
      clear R0 W0
      by_cases hp : k < 8
      · have HP := Lib.hid hp
        obtain ⟨A, C, rfl⟩ := row_form0 RK.out
        have hp1 : (k : Int) < 8 := by omega
        have HRN := Lib.hid (rowL_next S0 L i k)
        go_wp2_with fail
        refine (sumT_c p S0 own3 (k : Int) L i wr (H3.out.below BK.out)).mono ?_
        rintro e w5 ⟨rfl, rfl⟩
        generalize sumV (treeF S0) (k : Int) L i = x at *
        have b6 := alloc_below w5 (.cells #[.int .u64 x] 44)
        obtain ⟨A7, C7, w7, run7, r7, gr7⟩ := dapp_run (rowL S0 L i k) x (.slice A (rowL S0 L i k).length C) w5.heap.size (w5.alloc (.cells #[.int .u64 x] 44)) 53 w3.heap.size (RK.out.below b6) ((cell_cells (heap_alloc_new w5 _) 0).trans rfl) (by rw [rowL_len]; omega) (Nat.le_trans BK.out.size b6.size)
        have HR7 := Lib.hid run7
        have B67 : Hid (Below w3.heap.size w3 w7) := Lib.hid ((bn BK.out b6).trans (D.below_of_grown gr7 (Nat.le_trans BK.out.size b6.size) (fun g hg => (World.ownsRow.lt RK.out g hg).1)))
        have R7 : Hid (DRow w7 w3.heap.size (.slice A7 ((rowL S0 L i k).length + 1) C7) (rowL S0 L i (k + 1))) := Lib.hid (by rw [HRN.out]; exact r7)
        clear run7 r7 gr7 b6
        go_wp2_with (at_builtin; refine D.wpList_append_run rfl _ _ 53 rfl _ _ HR7.out ?_; clear HR7)
        go_roundw
        case rel => exact ⟨k + 1, HP.out, by go_num, R7, B67⟩
        case measure => have := HP.out; simp [RowKit.intOf]; omega
      · obtain rfl : k = 8 := by omega
        obtain ⟨g8, c8, rfl⟩ := row_form RK.out (by rw [rowL_len]; omega)
        have H8 := Lib.hid (H3.out.below BK.out)
        have B8 : Hid (Below w.heap.size w wr) := Lib.hid (bn B3.out BK.out)
        have HUP : Hid (∀ j, own3 j → j < w3.heap.size) := Lib.hid H3.out.up
        clear BK H3 B3
        go_wp2_with fail
        refine (len_c p S0 own3 wr H8.out).mono ?_
        rintro e w9 ⟨rfl, rfl⟩
        have T9 : Hid (Tr w9 p (dropW (wh : Int) S0 (l.take 0)) own3) := Lib.hid H8.out
        have U9 : Hid (Turn own3 w9 w9) := Lib.hid (Turn.refl _ _)
        go_wp2_with fail
        go_loopw [15, 16] (fun v15 v16 wq => ∃ (k : Nat), k ≤ l.length ∧ v15 = .int .i64 ((S0.length : Int) - ((dropW (wh : Int) S0 (l.take k)).length : Int)) ∧ v16 = .int .i64 (k : Int) ∧ Hid (Tr wq p (dropW (wh : Int) S0 (l.take k)) own3) ∧ Hid (Turn own3 w9 wq)) (fun _ v16 _ => l.length - (RowKit.intOf v16).toNat)
        case atStart => exact ⟨0, by omega, by simp [dropW], rfl, T9, U9⟩
        case round =>
          obtain ⟨k, hk, rfl, rfl, TQ, UQ⟩ := hrel
          clear T9 U9
          have BQ : Hid (Below w.heap.size w wr) := Lib.hid (B8.out.trans (UQ.out.below B8.out.size O3.out))
          obtain ⟨ad2, cap2, e, _, hc⟩ := (HRL.out.below BQ.out).form
          simp only [Value.slice.injEq, true_and] at e
          obtain ⟨rfl, rfl⟩ := e
          by_cases hp2 : k < l.length
          · obtain ⟨b, o, rfl, hrc⟩ := hc (by omega)
            obtain ⟨x0, x1, _, _, _⟩ := hrc k hp2
            have HKY := Lib.hid (HSZ.out _ (List.getElem_mem hp2)).2
            have HNX := Lib.hid (dropW_next (wh : Int) S0 l k hp2)
            have HP2 := Lib.hid hp2
            have hgl := World.block_lt_of_cell? _ _ x0
            have hd0 := dropW_len (wh : Int) (l.take k) S0
            clear hc hrc
            generalize l[k] = r at x0 x1 HKY HNX
            generalize dropW (wh : Int) S0 (l.take k) = Sk at *
            by_cases hw : r.o = (wh : Int)
            · have CD := Lib.hid (drop1_c p Sk own3 r.o r.s wr TQ.out HKY.out (by omega))
              have hd1 : (dropSs Sk [(r.o, r.s)]).length ≤ Sk.length := dropSs_len _ _
              have HNY : Hid (dropW (wh : Int) S0 (l.take (k + 1)) = dropSs Sk [(r.o, r.s)]) := Lib.hid (by rw [HNX.out, if_pos hw]; rfl)
              rw [hw] at x0 CD hd1 HNY
              go_wp2_with fail
              refine CD.out.mono ?_
              rintro e w12 ⟨rfl, h12, t12⟩
              have T12 : Hid (Tr w12 p (dropW (wh : Int) S0 (l.take (k + 1))) own3) := Lib.hid (by rw [HNY.out]; exact h12)
              have U12 := Lib.hid (UQ.out.trans t12)
              clear h12 t12 CD x0 x1 hgl
              go_wp2_with fail
              go_roundw
              case rel => exact ⟨k + 1, HP2.out, by rw [HNY.out]; go_num, by go_num, T12, U12⟩
              case measure => have := HP2.out; simp [RowKit.intOf]; omega
            · have HNY : Hid (dropW (wh : Int) S0 (l.take (k + 1)) = Sk) := Lib.hid (by rw [HNX.out, if_neg hw])
              have hwb : (r.o == (wh : Int)) = false := by simpa using hw
              go_wp2_with fail
              go_roundw
              case rel => exact ⟨k + 1, HP2.out, by rw [HNY.out], by go_num, Lib.hid (by rw [HNY.out]; exact TQ.out), UQ⟩
              case measure => have := HP2.out; simp [RowKit.intOf]; omega
          · have hkl : k = l.length := by omega
            subst hkl
            rw [List.take_length] at TQ ⊢
            have hd0 := dropW_len (wh : Int) l S0
            have RQ : Hid (DRow wr w3.heap.size (.slice (some ⟨g8, 0, none⟩) (rowL S0 L i 8).length c8) (rowL S0 L i 8)) := Lib.hid (ownsRow_of_block RK.out fun g hg => UQ.out.block g (World.ownsRow.lt RK.out g hg).2 (fun ho => by have h1 := HUP.out g ho; have h2 := (World.ownsRow.lt RK.out g hg).1; omega))
            have HFAR : Hid (∀ o : Nat, (o : Int) ≠ (wh : Int) → sumV (treeF (dropW (wh : Int) S0 l)) (o : Int) L i = sumV (treeF S0) (o : Int) L i) := Lib.hid (fun o ho => sumV_far _ l S0 o ho L i)
            have HGON : Hid (∀ L i, sumV (treeF (dropW (wh : Int) S0 l)) (wh : Int) L i = 0) := Lib.hid (fun L i => by rw [HS0.out]; exact sumV_gone wh l L i)
            clear hc RK UQ B8
            generalize dropW (wh : Int) S0 l = S1 at *
            go_wp2_with fail
            go_loopw [17] (fun v17 wq => ∃ (k : Nat), k ≤ 8 ∧ v17 = .int .i64 (k : Int) ∧ wq = wr) (fun v17 _ => 8 - (RowKit.intOf v17).toNat)
            case atStart => exact ⟨0, by omega, rfl, rfl⟩
            case round =>
              obtain ⟨k, hk8, rfl, rfl⟩ := hrel
              by_cases hp3 : k < 8
              · have HP3 := Lib.hid hp3
                have hp31 : (k : Int) < 8 := by omega
                go_wp2_with fail
                refine (sumT_c p S1 own3 (k : Int) L i wr TQ.out).mono ?_
                rintro e w12 ⟨rfl, rfl⟩
                have c1 : w12.cell? ⟨g8, k, none⟩ = some (.int .u64 (sumV (treeF S0) (k : Int) L i)) := by
                  rw [RQ.out.at k (by rw [rowL_len]; omega), rowL_at]
                have hgl := World.block_lt_of_cell? _ _ c1
                have hk9 : (k : Int) < ((rowL S0 L i 8).length : Int) := by rw [rowL_len]; omega
                by_cases hkw : (k : Int) = (wh : Int)
                · have e0 := HGON.out L i
                  rw [← hkw] at e0
                  rw [e0]
                  have hkb : ((k : Int) == (wh : Int)) = true := by simpa using hkw
                  rw [← hkw]
                  go_wp2_with fail
                  rw [hkw]
                  go_roundw
                  case rel => exact ⟨k + 1, HP3.out, by go_num, trivial⟩
                  case measure => have := HP3.out; simp [RowKit.intOf]; omega
                · rw [HFAR.out k hkw]
                  have hkb : ((k : Int) == (wh : Int)) = false := by simpa using hkw
                  generalize sumV (treeF S0) (k : Int) L i = x at *
                  go_wp2_with fail
                  go_roundw
                  case rel => exact ⟨k + 1, HP3.out, by go_num, trivial⟩
                  case measure => have := HP3.out; simp [RowKit.intOf]; omega
              · obtain rfl : k = 8 := by omega
                have hST := sumB_top wh hwh
                go_wp2_with fail
                refine (sumT_c p S1 own3 (wh : Int) 0 0 wr TQ.out).mono ?_
                rintro e w12 ⟨rfl, rfl⟩
                rw [HGON.out 0 0, hST]
                have hw2 : IntKind.i64.wrap ((S0.length : Int) - ((S0.length : Int) - (S1.length : Int))) = (S1.length : Int) := by rw [IntKind.wrap_i64]; omega
                go_wp2_with fail
                refine (len_c p S1 own3 w12 TQ.out).mono ?_
                rintro e w13 ⟨rfl, rfl⟩
                by_cases h0 : 0 < S1.length
                · have hgt : (S0.length : Int) - (S1.length : Int) < (S0.length : Int) := by omega
                  go_wp2_with fail
                  refine (awake_c _ (HT.out.below BQ.out)).mono ?_
                  rintro e w14 ⟨rfl, b14⟩
                  go_wp2
                  go_ret
                  exact ⟨rfl, bn BQ.out b14⟩
                · have hgt : ¬ (S0.length : Int) - (S1.length : Int) < (S0.length : Int) := by omega
                  have hnil : S1 = [] := List.length_eq_zero_iff.1 (by omega)
                  go_wp2_with fail
                  refine (rootT_c p S1 own3 w13 TQ.out).mono ?_
                  rintro e w14 ⟨rfl, b14⟩
                  rw [show D.allD (rootL (treeF S1)) = 0 by rw [hnil]; exact nil_root]
                  have B14 := Lib.hid (bn BQ.out b14)
                  clear b14
                  go_wp2_with fail
                  refine (awake_c _ (HT.out.below B14.out)).mono ?_
                  rintro e w15 ⟨rfl, b15⟩
                  go_wp2
                  go_ret
                  exact ⟨rfl, bn B14.out b15⟩
end Go.Proofs.YtchkadifjbmmpaaDoor
namespace Go.Proofs.YtchkadifjbmmpaaDoor
open Go.RowKit Go.Lib Go.Maps
set_option maxRecDepth 100000
set_option linter.unusedSimpArgs false

set_option maxHeartbeats 16000000 in
theorem refsum_c (q : Nat) (L : List R.Rc) (ad : Option Addr) (cap : Nat) (o : Nat) (hm : ∀ r ∈ L, R.mayR r = true) (hl : L.length ≤ 1000) : ∀ (d lv i : Nat) (w : World), lv + d = 5 → i < wd lv → R.Bx 30 w q #[.slice ad L.length cap] → R.Rl w (.slice ad L.length cap) L → R.Tabs w →
    Calls Tryd.prog 50 #[.pointer (some ⟨q, 0, none⟩), .int .i64 (o : Int), .int .i64 (lv : Int), .int .i64 (i : Int)] w fun e w' => e = .returned (.int .u64 (treeF (sx L) o (pl lv + i))) ∧ Below w.heap.size w w'
  | d, lv, i, w, he, hi, hb, h, hT => by
    have mixed : Tryd.prog.follows .mixedOrders = true := by kernel_rfl
    have CS := Lib.hid (some_c q L ad cap (o : Int) (i : Int) lv (by omega) w hb h hl hm)
    cases hs : someB L (o : Int) (wd (5 - lv)) (i : Int) with
    | false =>
      have hz := treeF_none hm o d lv i he hi (fun r hr => by
        have := some_no hs r hr
        rwa [show 5 - lv = d by omega] at this)
      rw [hs] at CS
      rw [hz]
      clear hz hs h hb hT
      go_enter Tryd.func50, Tryd.ntmps50
      go_wp2_with fail
      refine CS.out.mono ?_
      rintro e w1 ⟨rfl, b1⟩
      go_wp2_with fail
      go_ret
      exact ⟨rfl, b1⟩
    | true =>
      rw [hs] at CS
      have HRL := Lib.hid h
      have HB := Lib.hid hb
      have HT := Lib.hid hT
      have HM := Lib.hid hm
      match d, he with
      | 0, he =>
        obtain rfl : lv = 5 := by omega
        rw [show pl 5 + i = 341 + i from rfl, treeF_leaf]
        obtain ⟨k, hk, hk1, hk2⟩ := first_at (some_yes hs)
        have hlf := leaf_at (L := L) (o := o) (i := i) (k := k) hk hk1 hk2
        have HFA := Lib.hid (fun n h => find_at (n := n) hk hk1 hk2 h)
        have hmk := hm _ (List.getElem_mem hk)
        have hsz := (mayr_ok hmk).1
        obtain ⟨ad2, cap2, e, _, hc⟩ := h.form
        simp only [Value.slice.injEq, true_and] at e
        obtain ⟨rfl, rfl⟩ := e
        obtain ⟨g, b, rfl, hrc⟩ := hc (by omega)
        obtain ⟨x0, x1, x2, x3, x4⟩ := hrc k hk
        rw [hlf]
        clear hlf hrc hc hk1 hk2 hs h hb hT hi he
        have HK := Lib.hid hk
        have hl0 : 0 < L.length := by omega
        generalize L[k] = r at *
        have hlen : (R.layL r).length ≤ 1000 := by rw [R.layL_len]; have := R.mayR_size hmk; omega
        have HMK := Lib.hid hmk
        have HLEN := Lib.hid hlen
        have HSX : Hid (∀ W, Below w.heap.size w W → W.cell? ⟨q, 0, none⟩ = some (.slice (some ⟨g, b, none⟩) L.length cap) ∧ W.cell? ⟨g, b + k * 5, none⟩ = some (.int .i64 r.o) ∧ W.cell? ⟨g, b + k * 5 + 1, none⟩ = some (.int .i64 r.s) ∧ W.cell? ⟨g, b + k * 5 + 2, none⟩ = some (.int .i64 r.w) ∧ W.cell? ⟨g, b + k * 5 + 3, none⟩ = some (.int .i64 r.c) ∧ W.cell? ⟨g, b + k * 5 + 4, none⟩ = some (.string r.t)) := Lib.hid (fun W hW => by
          have q0 := (HB.out.below hW).cell 0
          simp only [List.getElem?_toArray, List.getElem?_cons_zero] at q0
          exact ⟨q0, (hW.cell (World.block_lt_of_cell? _ _ x0)).trans x0, (hW.cell (World.block_lt_of_cell? _ _ x1)).trans x1, (hW.cell (World.block_lt_of_cell? _ _ x2)).trans x2, (hW.cell (World.block_lt_of_cell? _ _ x3)).trans x3, (hW.cell (World.block_lt_of_cell? _ _ x4)).trans x4⟩)
        clear x0 x1 x2 x3 x4
        have HF : Hid (∀ W, Below w.heap.size w W → Calls Tryd.prog 37 #[.pointer (some ⟨q, 0, none⟩), .agg #[.int .i64 (o : Int), .int .i64 (i : Int)]] W fun e w' => e = .returned (.int .i64 (k : Int)) ∧ Below W.heap.size W w') := Lib.hid (fun W hW => (find_c q L (some ⟨g, b, none⟩) cap (o : Int) (i : Int) W (HB.out.below hW) (HRL.out.below hW) (by unfold maxLen; omega)).mono (by
          rintro e w' ⟨n, rfl, h1, h2⟩
          rw [HFA.out n h1]
          exact ⟨rfl, h2⟩))
        have HLY : Hid (∀ W, Below w.heap.size w W → Calls Tryd.prog 29 #[.agg #[.int .i64 r.o, .int .i64 r.s, .int .i64 r.w, .int .i64 r.c, .string r.t]] W fun e w' => ∃ v, e = .returned (.tuple #[v, .int .i64 0]) ∧ R.BRow w' W.heap.size v (R.layL r) ∧ Below W.heap.size W w') := Lib.hid (fun W hW => (R.reflay_c r W hsz (HT.out.below hW)).mono (by
          rintro e w' ⟨v, rfl, h1, h2⟩
          rw [HMK.out, if_pos rfl] at h1
          rw [HMK.out, if_pos rfl]
          exact ⟨v, rfl, h1, h2⟩))
        clear hm HM hmk hlen hk HMK hsz
        go_enter Tryd.func50, Tryd.ntmps50
        go_wp2_with fail
        refine CS.out.mono ?_
        rintro e w1 ⟨rfl, b1⟩
        clear CS
        obtain ⟨q0, x0, x1, x2, x3, x4⟩ := HSX.out w1 b1
        have hkl : (k : Int) < (L.length : Int) := by have := HK.out; omega
        have hql := World.block_lt_of_cell? _ _ q0
        have hgl := World.block_lt_of_cell? _ _ x0
        have b1d : Below w.heap.size w w1.drew := b1.drew
        go_wp2_with fail
        go_region_held3 (fun W => W.cell? ⟨q, 0, none⟩ = some (.slice (some ⟨g, b, none⟩) L.length cap) ∧ W.cell? ⟨g, b + k * 5, none⟩ = some (.int .i64 r.o) ∧ W.cell? ⟨g, b + k * 5 + 1, none⟩ = some (.int .i64 r.s) ∧ W.cell? ⟨g, b + k * 5 + 2, none⟩ = some (.int .i64 r.w) ∧ W.cell? ⟨g, b + k * 5 + 3, none⟩ = some (.int .i64 r.c) ∧ W.cell? ⟨g, b + k * 5 + 4, none⟩ = some (.string r.t)) (exact HSX.out _ (by first | assumption))
          (first
          | (go_at_call 37; refine (HF.out _ (by first | assumption)).mono ?_; rintro e w2 ⟨rfl, b2⟩; have b2' : Below w.heap.size w w2 := bn (by first | assumption) b2; clear b2)
          | (go_at_call 29; refine (HLY.out _ (by first | assumption)).mono ?_; rintro e w3 ⟨v3, rfl, r3, b3⟩; have b3' : Below w.heap.size w w3 := bn (by first | assumption) b3; clear b3; have R3 := Lib.hid r3; clear r3)
          | fail)
        go_wp2_with fail
        refine (D.one_c (R.layL r) v3 w3 (bl_of_row R3.out) (by have := HLEN.out; omega)).mono ?_
        rintro e w4 ⟨rfl, b4⟩
        have B4 := Lib.hid (bn b3' b4)
        clear b4
        go_wp2_with fail
        go_ret
        exact ⟨rfl, B4.out⟩
      | d + 1, he =>
        have HIH := Lib.hid (fun i w => refsum_c q L ad cap o hm hl d (lv + 1) i w (by omega))
        have HALL := Lib.hid (partsF_all (S := sx L) (o := o) (show lv < 5 by omega) hi)
        have hw : wd (lv + 1) = 4 * wd lv := rfl
        have hi2 := wd_le lv (by omega)
        have e5 : ((lv : Int) == 5) = false := by simpa using (show ¬ (lv : Int) = 5 by omega)
        have R0 : Hid (∀ w1 : World, DRow w1 w1.heap.size (.slice none 0 0) (partsF (sx L) o lv i 0)) := Lib.hid (fun w1 => World.ownsRow_nil _ _ _ _)
        have HI4 : Hid (∀ j, j < 4 → 4 * i + j < wd (lv + 1)) := Lib.hid (fun j hj => by omega)
        have hlv : lv < 5 := by omega
        rw [← HALL.out]
        generalize hALLe : D.allD (partsF (sx L) o lv i 4) = whole at *
        have HWE := Lib.hid hALLe
        clear hALLe HALL hw
        clear hs h hb hT he hm
        go_enter Tryd.func50, Tryd.ntmps50
        go_wp2_with fail
        refine CS.out.mono ?_
        rintro e w1 ⟨rfl, b1⟩
        have B1 := Lib.hid b1
        have R1 := Lib.hid (R0.out w1)
        have W1 : Hid (Below w1.heap.size w1 w1) := Lib.hid (Below.refl _ _)
        clear b1 CS R0
        go_wp2_with fail
        go_loopw [11, 12] (fun v11 v12 wr => ∃ (j : Nat), j ≤ 4 ∧ v12 = .int .i64 (j : Int) ∧ Hid (DRow wr w1.heap.size v11 (partsF (sx L) o lv i j)) ∧ Hid (Below w1.heap.size w1 wr)) (fun _ v12 _ => 4 - (RowKit.intOf v12).toNat)
        case atStart => exact ⟨0, by omega, rfl, R1, W1⟩
        case round =>
          obtain ⟨j, hj, rfl, RK, BK⟩ := hrel
          clear R1 W1
          by_cases hp2 : j < 4
          · have HP2 := Lib.hid hp2
            obtain ⟨A, C, rfl⟩ := row_form0 RK.out
            have BJ := Lib.hid (bn B1.out BK.out)
            have CI := Lib.hid (HIH.out (4 * i + j) wr (HI4.out j hp2) (HB.out.below BJ.out) (HRL.out.below BJ.out) (HT.out.below BJ.out))
            have e1 : (((lv + 1 : Nat) : Int)) = (lv : Int) + 1 := by omega
            have e2 : (((4 * i + j : Nat) : Int)) = (i : Int) * 4 + (j : Int) := by omega
            rw [e1, e2] at CI
            have HRN := Lib.hid (partsF_next (sx L) o lv i j)
            clear e1 e2
            generalize treeF (sx L) o (pl (lv + 1) + (4 * i + j)) = x at *
            go_wp2_with fail
            refine CI.out.mono ?_
            rintro e w6 ⟨rfl, b5⟩
            have b6 := alloc_below w6 (.cells #[.int .u64 x] 44)
            have bk6 := bn BK.out b5
            have rk6 := RK.out.below b5
            obtain ⟨A7, C7, w7, run7, r7, gr7⟩ := dapp_run (partsF (sx L) o lv i j) x (.slice A (partsF (sx L) o lv i j).length C) w6.heap.size (w6.alloc (.cells #[.int .u64 x] 44)) 53 w1.heap.size (rk6.below b6) ((cell_cells (heap_alloc_new w6 _) 0).trans rfl) (by rw [partsF_len]; omega) (Nat.le_trans bk6.size b6.size)
            have HR7 := Lib.hid run7
            have B67 : Hid (Below w1.heap.size w1 w7) := Lib.hid ((bn bk6 b6).trans (D.below_of_grown gr7 (Nat.le_trans bk6.size b6.size) (fun g hg => (World.ownsRow.lt rk6 g hg).1)))
            have R7 : Hid (DRow w7 w1.heap.size (.slice A7 ((partsF (sx L) o lv i j).length + 1) C7) (partsF (sx L) o lv i (j + 1))) := Lib.hid (by rw [HRN.out]; exact r7)
            clear run7 r7 gr7 b6 b5 bk6 rk6 CI
            go_wp2_with (at_builtin; refine D.wpList_append_run rfl _ _ 53 rfl _ _ HR7.out ?_; clear HR7)
            go_roundw
            case rel => exact ⟨j + 1, HP2.out, by go_num, R7, B67⟩
            case measure => have := HP2.out; simp [RowKit.intOf]; omega
          · obtain rfl : j = 4 := by omega
            obtain ⟨wq, hwq⟩ : ∃ wq, wq = wr := ⟨_, rfl⟩
            subst hwq
            obtain ⟨g8, c8, rfl⟩ := row_form RK.out (by rw [partsF_len]; omega)
            have R8 := Lib.hid (row_dl RK.out)
            have BJ := Lib.hid (bn B1.out BK.out)
            have CA := Lib.hid (D.refall_c (partsF (sx L) o lv i 4) _ wq R8.out (by rw [partsF_len]; omega))
            rw [HWE.out] at CA
            clear RK
            go_wp2_with fail
            refine CA.out.mono ?_
            rintro e w9 ⟨rfl, b9⟩
            go_wp2_with fail
            go_ret
            exact ⟨rfl, bn BJ.out b9⟩
termination_by d => d
theorem rt_form {w : World} {q : Nat} {L : List R.Rc} {P : Nat → Prop} (h : RT w q L P) : ∃ ad cap, R.Bx 30 w q #[.slice ad L.length cap] ∧ R.Rl w (.slice ad L.length cap) L := by
  obtain ⟨v, h1, h2, _⟩ := h
  obtain ⟨ad, cap, rfl⟩ := orow_form h2
  exact ⟨ad, cap, h1, h2.rl⟩
set_option maxHeartbeats 8000000 in
theorem refSum_c (q : Nat) (L : List R.Rc) (P : Nat → Prop) (o lv i : Int) (w : World) (h : RT w q L P) (hm : ∀ r ∈ L, R.mayR r = true) (hl : L.length ≤ 1000) (hT : R.Tabs w) :
    Calls Tryd.prog 20 #[.pointer (some ⟨q, 0, none⟩), .int .i64 o, .int .i64 lv, .int .i64 i] w fun e w' => e = .returned (.tuple #[.int .u64 (sumV (treeF (sx L)) o lv i), .bool (sumB o lv i)]) ∧ Below w.heap.size w w' := by
  obtain ⟨ad, cap, hb, hr⟩ := rt_form h
  have CT := Lib.hid (there_c o lv i w)
  cases hB : sumB o lv i with
  | false =>
    have hV : sumV (treeF (sx L)) o lv i = 0 := by unfold sumV; rw [if_neg (by rw [hB]; decide)]
    rw [hB] at CT
    rw [hV]
    clear hV hB h hb hr hT
    go_enter Tryd.func20, Tryd.ntmps20
    go_wp2_with fail
    refine CT.out.mono ?_
    rintro e w1 ⟨rfl, rfl⟩
    go_wp2_with fail
    go_ret2
    exact ⟨rfl, Below.refl _ _⟩
  | true =>
    rw [hB] at CT
    have hV : sumV (treeF (sx L)) o lv i = treeF (sx L) o.toNat (pl lv.toNat + i.toNat) := by unfold sumV; rw [if_pos hB]
    rw [hV]
    unfold sumB at hB
    rw [decide_eq_true_eq] at hB
    obtain ⟨h1, h2, h3, h4, h5, h6⟩ := hB
    obtain ⟨on, rfl⟩ := Int.eq_ofNat_of_zero_le h1
    obtain ⟨ln, rfl⟩ := Int.eq_ofNat_of_zero_le h3
    obtain ⟨k, rfl⟩ := Int.eq_ofNat_of_zero_le h5
    rw [(wd_pl ln (by omega)).1] at h6
    have CS := Lib.hid (refsum_c q L ad cap on hm hl (5 - ln) ln k w (by omega) (by omega) hb hr hT)
    simp only [Int.toNat_natCast]
    generalize treeF (sx L) on (pl ln + k) = x at *
    clear hV h hb hr hT h1 h2 h3 h4 h5 h6
    go_enter Tryd.func20, Tryd.ntmps20
    go_wp2_with fail
    refine CT.out.mono ?_
    rintro e w1 ⟨rfl, rfl⟩
    go_wp2_with fail
    refine CS.out.mono ?_
    rintro e w2 ⟨rfl, b2⟩
    go_wp2_with fail
    go_ret2
    exact ⟨rfl, b2⟩
/-- The digests of the first origins' whole ranges. -/
def rootF (S : Sb) (k : Nat) : List Int := (List.range k).map fun o => treeF S o 0
theorem rootF_len (S : Sb) (k : Nat) : (rootF S k).length = k := by simp [rootF]
theorem rootF_next (S : Sb) (k : Nat) : rootF S (k + 1) = rootF S k ++ [treeF S k 0] := by simp [rootF, List.range_succ]
theorem rootF_all (S : Sb) : rootF S 8 = rootL (treeF S) := rfl
set_option maxHeartbeats 8000000 in
theorem refroot_c (q : Nat) (L : List R.Rc) (P : Nat → Prop) (w : World) (h : RT w q L P) (hm : ∀ r ∈ L, R.mayR r = true) (hl : L.length ≤ 1000) (hT : R.Tabs w) :
    Calls Tryd.prog 23 #[.pointer (some ⟨q, 0, none⟩)] w fun e w' => e = .returned (.int .u64 (D.allD (rootL (treeF (sx L))))) ∧ Below w.heap.size w w' := by
  have mixed : Tryd.prog.follows .mixedOrders = true := by kernel_rfl
  obtain ⟨ad, cap, hb, hr⟩ := rt_form h
  have HRL := Lib.hid hr
  have HB := Lib.hid hb
  have HT := Lib.hid hT
  have HIH := Lib.hid (fun o w => refsum_c q L ad cap o hm hl 5 0 0 w (by omega) (by decide))
  have R1 : Hid (DRow w w.heap.size (.slice none 0 0) (rootF (sx L) 0)) := Lib.hid (World.ownsRow_nil _ _ _ _)
  have W1 : Hid (Below w.heap.size w w) := Lib.hid (Below.refl _ _)
  have HWE := Lib.hid (rootF_all (sx L))
  generalize hwh : D.allD (rootL (treeF (sx L))) = whole at *
  have HWH := Lib.hid hwh
  clear h hb hr hT hm hwh
  go_enter Tryd.func23, Tryd.ntmps23
  go_wp2_with fail
  go_loopw [3, 4] (fun v3 v4 wr => ∃ (j : Nat), j ≤ 8 ∧ v4 = .int .i64 (j : Int) ∧ Hid (DRow wr w.heap.size v3 (rootF (sx L) j)) ∧ Hid (Below w.heap.size w wr)) (fun _ v4 _ => 8 - (RowKit.intOf v4).toNat)
  case atStart => exact ⟨0, by omega, rfl, R1, W1⟩
  case round =>
    obtain ⟨j, hj, rfl, RK, BK⟩ := hrel
    clear R1 W1
    by_cases hp2 : j < 8
    · have HP2 := Lib.hid hp2
      obtain ⟨A, C, rfl⟩ := row_form0 RK.out
      have CI := Lib.hid (HIH.out j wr (HB.out.below BK.out) (HRL.out.below BK.out) (HT.out.below BK.out))
      rw [show pl 0 + 0 = 0 from rfl] at CI
      have HRN := Lib.hid (rootF_next (sx L) j)
      generalize treeF (sx L) j 0 = x at *
      go_wp2_with fail
      refine CI.out.mono ?_
      rintro e w6 ⟨rfl, b5⟩
      have b6 := alloc_below w6 (.cells #[.int .u64 x] 44)
      have bk6 := bn BK.out b5
      have rk6 := RK.out.below b5
      obtain ⟨A7, C7, w7, run7, r7, gr7⟩ := dapp_run (rootF (sx L) j) x (.slice A (rootF (sx L) j).length C) w6.heap.size (w6.alloc (.cells #[.int .u64 x] 44)) 53 w.heap.size (rk6.below b6) ((cell_cells (heap_alloc_new w6 _) 0).trans rfl) (by rw [rootF_len]; omega) (Nat.le_trans bk6.size b6.size)
      have HR7 := Lib.hid run7
      have B67 : Hid (Below w.heap.size w w7) := Lib.hid ((bn bk6 b6).trans (D.below_of_grown gr7 (Nat.le_trans bk6.size b6.size) (fun g hg => (World.ownsRow.lt rk6 g hg).1)))
      have R7 : Hid (DRow w7 w.heap.size (.slice A7 ((rootF (sx L) j).length + 1) C7) (rootF (sx L) (j + 1))) := Lib.hid (by rw [HRN.out]; exact r7)
      clear run7 r7 gr7 b6 b5 bk6 rk6 CI
      go_wp2_with (at_builtin; refine D.wpList_append_run rfl _ _ 53 rfl _ _ HR7.out ?_; clear HR7)
      go_roundw
      case rel => exact ⟨j + 1, HP2.out, by go_num, R7, B67⟩
      case measure => have := HP2.out; simp [RowKit.intOf]; omega
    · obtain rfl : j = 8 := by omega
      obtain ⟨wq, hwq⟩ : ∃ wq, wq = wr := ⟨_, rfl⟩
      subst hwq
      obtain ⟨g8, c8, rfl⟩ := row_form RK.out (by rw [rootF_len]; omega)
      have R8 := Lib.hid (row_dl RK.out)
      have CA := Lib.hid (D.refall_c (rootF (sx L) 8) _ wq R8.out (by rw [rootF_len]; omega))
      rw [HWE.out, HWH.out] at CA
      clear RK
      go_wp2_with fail
      refine CA.out.mono ?_
      rintro e w9 ⟨rfl, b9⟩
      go_wp2_with fail
      go_ret
      exact ⟨rfl, bn BK.out b9⟩
end Go.Proofs.YtchkadifjbmmpaaDoor
namespace Go.Proofs.YtchkadifjbmmpaaDoor
open Go.RowKit Go.Lib Go.Maps
set_option maxRecDepth 100000
set_option linter.unusedSimpArgs false

structure A2 (w wr : World) (p q : Nat) (ot : Nat → Prop) (S : Sb) (L : List R.Rc) : Prop where
  t : Tr wr p S ot
  r : RT wr q L (fun g => ¬ ot g)
  nq : ¬ ot q
  b : Below w.heap.size w wr
  lt : ∀ j, ot j → w.heap.size ≤ j
  lq : w.heap.size ≤ q
theorem A2.below {w wr w' : World} {p q : Nat} {ot : Nat → Prop} {S : Sb} {L : List R.Rc} (h : A2 w wr p q ot S L) (hb : Below wr.heap.size wr w') : A2 w w' p q ot S L := by
  obtain ⟨x, h1, h2, h3⟩ := h.r
  exact ⟨h.t.below hb, ⟨x, h1.below hb, h2.below hb, h3⟩, h.nq, bn h.b hb, h.lt, h.lq⟩
theorem A2.turnT {w wr w' : World} {p q : Nat} {ot ot' : Nat → Prop} {S S' : Sb} {L : List R.Rc} (h : A2 w wr p q ot S L) (ht : Tr w' p S' ot') (t4 : Turn ot wr w') (o4 : ∀ j, ot' j → ot j ∨ wr.heap.size ≤ j) : A2 w w' p q ot' S' L := by
  obtain ⟨x, h1, h2, h3⟩ := h.r
  refine ⟨ht, ⟨x, (t4.block q h1.lt (fun ho => h.nq ho)).trans h1, ownsRow_of_block h2 (fun g hg => t4.block g (World.ownsRow.lt h2 g hg).2 (fun ho => h3 g hg ho)), fun g hg hh => ?_⟩, fun hh => ?_, h.b.trans (t4.below h.b.size h.lt), fun j hj => (o4 j hj).elim (h.lt j) (fun h5 => Nat.le_trans h.b.size h5), h.lq⟩
  · have hl := (World.ownsRow.lt h2 g hg).2
    rcases o4 g hh with h5 | h5
    · exact h3 g hg h5
    · omega
  · have hl := h1.lt
    rcases o4 q hh with h5 | h5
    · exact h.nq h5
    · omega
theorem A2.turnR {w wr w' : World} {p q : Nat} {ot : Nat → Prop} {S : Sb} {L L' : List R.Rc} (h : A2 w wr p q ot S L) (hr : RT w' q L' (fun g => ¬ ot g)) (g4 : wr.grownBy w' (some q)) : A2 w w' p q ot S L' :=
  ⟨h.t.keep g4.size (fun i hi => g4.block i (h.t.up i hi) (fun e => h.nq (Option.some.inj e ▸ hi))), hr, h.nq, h.b.trans (D.below_of_grown g4 h.b.size (fun _ e => Option.some.inj e ▸ h.lq)), h.lt, h.lq⟩
theorem A2.fresh {w wr : World} {p q : Nat} {ot : Nat → Prop} {S : Sb} {L : List R.Rc} (h : A2 w wr p q ot S L) : ∀ i, wr.heap.size ≤ i → ¬ ot i := fun i hi h1 => by have := h.t.up i h1; omega
theorem A2.rlt {w wr : World} {p q : Nat} {ot : Nat → Prop} {S : Sb} {L : List R.Rc} (h : A2 w wr p q ot S L) : q < wr.heap.size := by
  obtain ⟨x, h1, _⟩ := h.r
  exact h1.lt
/-- Blocks that are new since wr stay. -/
def Stay (B : Nat) (w w' : World) : Prop := ∀ j o, B ≤ j → w.heap[j]? = some o → w'.heap[j]? = some o
/-- All blocks but one stay. -/
def Keep (q : Nat) (w w' : World) : Prop := ∀ j o, j ≠ q → w.heap[j]? = some o → w'.heap[j]? = some o
/-- Two Keys, just laid. -/
abbrev KK (o s : Int) : Obj := .cells #[.int .i64 o, .int .i64 s, .int .i64 o, .int .i64 s] 32
abbrev RR (r : R.Rc) : Obj := .cells #[.int .i64 r.o, .int .i64 r.s, .int .i64 r.w, .int .i64 r.c, .string r.t, .int .i64 r.o, .int .i64 r.s, .int .i64 r.w, .int .i64 r.c, .string r.t] 36
theorem krd_two {W : World} {g : Nat} {o s : Int} (hx : W.heap[g]? = some (KK o s)) : KRd W (.slice (some ⟨g, 0, none⟩) 2 2) [(o, s), (o, s)] := by
  have hx : R.Bx 32 W g #[.int .i64 o, .int .i64 s, .int .i64 o, .int .i64 s] := hx
  refine ⟨_, 2, rfl, by simp, fun _ => ⟨g, 0, rfl, fun k hk => ?_⟩⟩
  have hk2 : k < 2 := hk
  match k, hk2 with
  | 0, _ => exact ⟨hx.cell 0, hx.cell 1⟩
  | 1, _ => exact ⟨hx.cell 2, hx.cell 3⟩
theorem rl_pair {W : World} {g : Nat} {r : R.Rc} (hx : W.heap[g]? = some (RR r)) : R.Rl W (.slice (some ⟨g, 0, none⟩) 2 2) [r, r] := by
  have hx : R.Bx 36 W g #[.int .i64 r.o, .int .i64 r.s, .int .i64 r.w, .int .i64 r.c, .string r.t, .int .i64 r.o, .int .i64 r.s, .int .i64 r.w, .int .i64 r.c, .string r.t] := hx
  refine .inr ⟨_, 2, rfl, Nat.le_refl _, fun _ => ⟨g, 0, rfl, fun k hk => ?_⟩⟩
  have hk2 : k < 2 := hk
  match k, hk2 with
  | 0, _ => exact ⟨hx.cell 0, hx.cell 1, hx.cell 2, hx.cell 3, hx.cell 4⟩
  | 1, _ => exact ⟨hx.cell 5, hx.cell 6, hx.cell 7, hx.cell 8, hx.cell 9⟩
section
variable {w wr : World} {p q : Nat} {ot : Nat → Prop} {L : List R.Rc}
theorem drop_two (HA : A2 w wr p q ot (sx L) L) (o s : Int) (hk : okKy (o, s)) (hnd : (L.map kyR).Nodup) (hn : L.length ≤ 1000) (W : World) (g : Nat) (hb : Below wr.heap.size wr W) (hg : wr.heap.size ≤ g) (hx : W.heap[g]? = some (KK o s)) :
    Calls Tryd.prog 15 #[.pointer (some ⟨p, 0, none⟩), .slice (some ⟨g, 0, none⟩) 2 2] W fun e w' => e = .returned (.int .i64 ((L.length : Int) - ((refDrops L [(o, s), (o, s)]).length : Int))) ∧ A2 w w' p q ot (sx (refDrops L [(o, s), (o, s)])) L ∧ Stay wr.heap.size W w' ∧ wr.heap.size ≤ w'.heap.size := by
  have hA := HA.below hb
  have hf := HA.fresh
  refine (drop_c p (sx L) ot _ [(o, s), (o, s)] W hA.t (fun W' ht => krd_two ((ht.block g (Array.getElem?_eq_some_iff.1 hx).1 (hf g hg)).trans hx)) (fun k hk' => by simp only [List.mem_cons, List.not_mem_nil, or_false, or_self] at hk'; rw [hk']; exact hk) (by simp) (by rw [sx_len]; omega)).mono ?_
  rintro e w' ⟨rfl, h1, t1⟩
  have hd : dropSs (sx L) [(o, s), (o, s)] = sx (refDrops L [(o, s), (o, s)]) := by
    show dropS (dropS (sx L) (o, s)) (o, s) = sx (refDrop (refDrop L (o, s)) (o, s))
    rw [sx_drop _ hnd, sx_drop _ (drop_nd _ hnd)]
  rw [hd] at h1
  rw [hd, sx_len, sx_len]
  exact ⟨rfl, hA.turnT h1 t1 (fun j hj => .inl hj), fun j ob hj ho => (t1.block j (Array.getElem?_eq_some_iff.1 ho).1 (hf j hj)).trans ho, Nat.le_trans hb.size t1.size⟩
theorem rdrop_two {S : Sb} (HA : A2 w wr p q ot S L) (o s : Int) (hn : L.length ≤ 1000) (W : World) (g : Nat) (hb : Below wr.heap.size wr W) (hg : g ≠ q) (hx : W.heap[g]? = some (KK o s)) :
    Calls Tryd.prog 16 #[.pointer (some ⟨q, 0, none⟩), .slice (some ⟨g, 0, none⟩) 2 2] W fun e w' => e = .returned (.int .i64 ((L.length : Int) - ((refDrops L [(o, s), (o, s)]).length : Int))) ∧ A2 w w' p q ot S (refDrops L [(o, s), (o, s)]) ∧ Keep q W w' := by
  have hA := HA.below hb
  refine (rdrop_c q L [(o, s), (o, s)] _ W _ hA.fresh hA.r (fun W' ht => krd_two ((ht.block g (Array.getElem?_eq_some_iff.1 hx).1 (fun e => hg (Option.some.inj e))).trans hx)) (by simp) hn).mono ?_
  rintro e w' ⟨rfl, h1, g1⟩
  exact ⟨rfl, hA.turnR h1 g1, fun j ob hj ho => (g1.block j (Array.getElem?_eq_some_iff.1 ho).1 (fun e => hj (Option.some.inj e))).trans ho⟩
theorem put_two (HA : A2 w wr p q ot (sx L) L) (r : R.Rc) (hs : r.t.size ≤ 9223372036854775807 ∧ okKy (kyR r)) (hn : L.length ≤ 1000) (hT : R.Tabs w) (W : World) (g : Nat) (hb : Below wr.heap.size wr W) (hg : wr.heap.size ≤ g) (hx : W.heap[g]? = some (RR r)) :
    Calls Tryd.prog 17 #[.pointer (some ⟨p, 0, none⟩), .slice (some ⟨g, 0, none⟩) 2 2] W fun e w' => ∃ ot', e = .returned (.int .i64 (((refPuts L [r, r]).length : Int) - (L.length : Int))) ∧ A2 w w' p q ot' (sx (refPuts L [r, r])) L ∧ Stay wr.heap.size W w' ∧ wr.heap.size ≤ w'.heap.size := by
  have hA := HA.below hb
  have hf := HA.fresh
  refine (put_c p (sx L) ot _ [r, r] W hA.t (fun W' ht => rl_pair ((ht.block g (Array.getElem?_eq_some_iff.1 hx).1 (hf g hg)).trans hx)) (fun k hk' => by simp only [List.mem_cons, List.not_mem_nil, or_false, or_self] at hk'; rw [hk']; exact hs) (by simp) (by rw [sx_len]; omega) (fun W' t => hT.below (hA.b.trans (t.below hA.b.size hA.lt)))).mono ?_
  rintro e w' ⟨ot', rfl, h1, t1, o1⟩
  have hd : putSs (sx L) [r, r] = sx (refPuts L [r, r]) := by
    show putS (putS (sx L) r) r = sx (refPut (refPut L r) r)
    rw [sx_put, sx_put]
  rw [hd] at h1
  rw [hd, sx_len, sx_len]
  exact ⟨ot', rfl, hA.turnT h1 t1 o1, fun j ob hj ho => (t1.block j (Array.getElem?_eq_some_iff.1 ho).1 (hf j hj)).trans ho, Nat.le_trans hb.size t1.size⟩
theorem rput_two {S : Sb} (HA : A2 w wr p q ot S L) (r : R.Rc) (hs : r.t.size ≤ 9223372036854775807) (hn : L.length ≤ 1000) (hT : R.Tabs w) (W : World) (g : Nat) (hb : Below wr.heap.size wr W) (hg : g ≠ q) (hx : W.heap[g]? = some (RR r)) :
    Calls Tryd.prog 18 #[.pointer (some ⟨q, 0, none⟩), .slice (some ⟨g, 0, none⟩) 2 2] W fun e w' => e = .returned (.int .i64 (((refPuts L [r, r]).length : Int) - (L.length : Int))) ∧ A2 w w' p q ot S (refPuts L [r, r]) ∧ Keep q W w' := by
  have hA := HA.below hb
  refine (rput_c q L [r, r] (some ⟨g, 0, none⟩) 2 W _ hA.fresh hA.r (fun W' ht => rl_pair ((ht.block g (Array.getElem?_eq_some_iff.1 hx).1 (fun e => hg (Option.some.inj e))).trans hx)) (fun x hx' => by simp only [List.mem_cons, List.not_mem_nil, or_false, or_self] at hx'; rw [hx']; exact hs) (by simp) hn (fun W' gg => hT.below (hA.b.trans (D.below_of_grown gg hA.b.size (fun _ e => Option.some.inj e ▸ hA.lq))))).mono ?_
  rintro e w' ⟨rfl, h1, g1⟩
  exact ⟨rfl, hA.turnR h1 g1, fun j ob hj ho => (g1.block j (Array.getElem?_eq_some_iff.1 ho).1 (fun e => hj (Option.some.inj e))).trans ho⟩
end
theorem drops_two_nd {L : List R.Rc} (k : Ky) (h : (L.map kyR).Nodup) : ((refDrops L [k, k]).map kyR).Nodup := drop_nd k (drop_nd k h)
theorem drops_two_may {L : List R.Rc} (k : Ky) (h : ∀ x ∈ L, R.mayR x = true) : ∀ x ∈ refDrops L [k, k], R.mayR x = true := drop_may k (drop_may k h)
theorem drops_two_len (L : List R.Rc) (k : Ky) : (refDrops L [k, k]).length ≤ L.length := refDrops_len [k, k] L
theorem puts_two_nd {L : List R.Rc} (r : R.Rc) (h : (L.map kyR).Nodup) : ((refPuts L [r, r]).map kyR).Nodup := put_nd r (put_nd r h)
theorem puts_two_may {L : List R.Rc} (r : R.Rc) (h : ∀ x ∈ L, R.mayR x = true) : ∀ x ∈ refPuts L [r, r], R.mayR x = true := put_may r (put_may r h)
theorem puts_two_len (L : List R.Rc) (r : R.Rc) : (refPuts L [r, r]).length ≤ L.length + 2 := (refPuts_len [r, r] L).2
end Go.Proofs.YtchkadifjbmmpaaDoor
namespace Go.Proofs.YtchkadifjbmmpaaDoor
open Go.RowKit Go.Lib Go.Maps
set_option maxRecDepth 100000
set_option linter.unusedSimpArgs false

theorem sx_putS (L : List R.Rc) (r : R.Rc) : putS (sx L) r = sx (refPut L r) := sx_put L r
set_option maxHeartbeats 16000000 in
theorem both_c (l : List R.Rc) (v : Value) (w : World) (h : R.Rl w v l) (hs : ∀ x ∈ l, x.t.size ≤ 9223372036854775807 ∧ okKy (kyR x)) (hl : l.length ≤ 100) (hT : R.Tabs w) :
    Calls Tryd.prog 34 #[v] w fun e w' => ∃ p q ot, e = .returned (.tuple #[.pointer (some ⟨p, 0, none⟩), .pointer (some ⟨q, 0, none⟩)]) ∧ A2 w w' p q ot (sx (refPuts [] l)) (refPuts [] l) := by
  have mixed : Tryd.prog.follows .mixedOrders = true := by kernel_rfl
  obtain ⟨ad, cap, rfl, hc, hb⟩ := h.form
  have HB := Lib.hid hb
  have HS := Lib.hid hs
  have HT := Lib.hid hT
  clear h hb hs hT hc
  go_enter Tryd.func34, Tryd.ntmps34
  go_wp2_with fail
  refine (new_c w).mono ?_
  rintro e w3 ⟨p, ot, rfl, h3, o3, b3⟩
  obtain ⟨q, hq⟩ : ∃ q, q = w3.heap.size := ⟨_, rfl⟩
  obtain ⟨w4, hw4⟩ : ∃ w4, w4 = w3.alloc (.cells #[.slice none 0 0] 30) := ⟨_, rfl⟩
  have HA : Hid (A2 w w4 p q ot (sx []) []) := Lib.hid (by
    have al : Below w3.heap.size w3 w4 := by rw [hw4]; exact alloc_below _ _
    refine ⟨h3.below al, ⟨.slice none 0 0, by rw [hw4, hq]; exact R.Bx.new _ w3 _, R.ORow.nil _ _, fun g hg => by cases hg⟩, fun hh => ?_, bn b3 al, fun j hj => o3 j hj, ?_⟩
    · have := h3.up q hh
      omega
    · rw [hq]
      exact b3.size)
  have HW4 := Lib.hid hw4
  have HQ := Lib.hid hq
  clear h3 o3 b3 hq hw4
  go_wp2_with fail
  rw [← HW4.out, ← HQ.out]
  clear HW4 HQ
  go_loopw [6] (fun v6 wr => ∃ (k : Nat) (ot : Nat → Prop), k ≤ l.length ∧ v6 = .int .i64 (k : Int) ∧ Hid (A2 w wr p q ot (sx (refPuts [] (l.take k))) (refPuts [] (l.take k)))) (fun v6 _ => l.length - (RowKit.intOf v6).toNat)
  case atStart => exact ⟨0, ot, by omega, rfl, by rw [List.take_zero]; exact HA⟩
  case round =>
    obtain ⟨k, ot, hk, rfl, HA⟩ := hrel
    by_cases hp : k < l.length
    · have HP := Lib.hid hp
      obtain ⟨b, o, rfl, hrd⟩ := HB.out (by omega)
      have HX := Lib.hid (fun W (hW : Below w.heap.size w W) => (R.Recs.below hrd hW) k hp)
      have HSI := Lib.hid (HS.out _ (List.getElem_mem hp))
      have hln : (refPuts [] (l.take k)).length ≤ 100 := by
        have := (refPuts_len (l.take k) []).2
        rw [List.length_take] at this
        simp only [List.length_nil] at this
        omega
      have HN := Lib.hid (refPuts_next [] l k hp)
      clear hrd
      generalize l[k] = x at *
      obtain ⟨x0, x1, x2, x3, x4⟩ := HX.out wr HA.out.b
      have hgl := World.block_lt_of_cell? _ _ x0
      have CP := Lib.hid (put1_c p _ ot x wr HA.out.t HSI.out (by rw [sx_len]; omega) (fun W t => HT.out.below (HA.out.b.trans (t.below HA.out.b.size HA.out.lt))))
      rw [sx_putS, ← HN.out] at CP
      go_wp2_with fail
      refine CP.out.mono ?_
      rintro e w6 ⟨ot6, rfl, h6, t6, o6⟩
      have A6 := Lib.hid (HA.out.turnT h6 t6 o6)
      clear h6 t6 o6 CP x0 x1 x2 x3 x4 hgl
      obtain ⟨x0, x1, x2, x3, x4⟩ := HX.out w6 A6.out.b
      have hgl := World.block_lt_of_cell? _ _ x0
      have CR := Lib.hid (rput1_c q _ x w6 _ A6.out.fresh A6.out.r HSI.out.1 (by omega) (fun W gg => HT.out.below (A6.out.b.trans (D.below_of_grown gg A6.out.b.size (fun _ e => Option.some.inj e ▸ A6.out.lq)))))
      rw [← HN.out] at CR
      go_wp2_with fail
      refine CR.out.mono ?_
      rintro e w7 ⟨n7, rfl, _, h7, g7⟩
      have A7 := Lib.hid (A6.out.turnR h7 g7)
      clear h7 g7 CR x0 x1 x2 x3 x4 hgl
      go_wp2_with fail
      go_roundw
      case rel => exact ⟨k + 1, ot6, HP.out, by go_num, A7⟩
      case measure => have := HP.out; simp [RowKit.intOf]; omega
    · obtain rfl : k = l.length := by omega
      go_wp2_with fail
      go_ret2
      exact ⟨p, q, ot, rfl, by have := HA.out; rwa [List.take_length] at this⟩
end Go.Proofs.YtchkadifjbmmpaaDoor
namespace Go.Proofs.YtchkadifjbmmpaaDoor
open Go.RowKit Go.Lib Go.Maps
set_option maxRecDepth 100000
set_option linter.unusedSimpArgs false

abbrev Once (L : List R.Rc) : Prop := (L.map kyR).Nodup ∧ ∀ x ∈ L, R.mayR x = true
theorem mayr_key {r : R.Rc} (h : R.mayR r = true) : ∃ o s : Nat, kyR r = ((o : Int), (s : Int)) ∧ o < 8 ∧ s < 1024 := by
  unfold R.mayR at h
  rw [Bool.and_eq_true] at h
  have hk := h.1
  simp only [R.keyB, Bool.and_eq_true, decide_eq_true_eq] at hk
  obtain ⟨o, ho⟩ := Int.eq_ofNat_of_zero_le hk.1
  obtain ⟨n, hn⟩ := Int.eq_ofNat_of_zero_le (show (0 : Int) ≤ r.s by omega)
  exact ⟨o, n, by unfold kyR; rw [ho, hn], by omega, by omega⟩
theorem bytes_sx {L : List R.Rc} (h : Once L) {r : R.Rc} (hr : r ∈ L) : bytesAt (sx L) (kyR r) = some (R.layL r) :=
  bytes_in (by rw [sx_keys]; exact h.1) (List.mem_map.2 ⟨r, hr, rfl⟩)
theorem bytes_sx_no {L : List R.Rc} {k : Ky} (h : k ∉ L.map kyR) : bytesAt (sx L) k = none := bytes_no (by rw [sx_keys]; exact h)
/-- What the chapter's Find and Same tell of a record. -/
theorem found_rec {L M : List R.Rc} (hL : Once L) (hM : Once M) {r : R.Rc} (hr : r ∈ L) {k : Int} (hf : FindS M (kyR r) k) :
    (k < 0 ∧ recB (sx L) (sx M) (kyR r) = false) ∨ ∃ i, ∃ h : i < M.length, k = (i : Int) ∧ R.sameR M[i] r = recB (sx L) (sx M) (kyR r) := by
  rcases hf with ⟨rfl, hn⟩ | ⟨i, hi, rfl, he, _⟩
  · refine .inl ⟨by decide, ?_⟩
    unfold recB
    rw [bytes_sx hL hr, bytes_sx_no (fun h => by
      obtain ⟨x, hx, e⟩ := List.mem_map.1 h
      exact hn x hx e)]
    simp
  · refine .inr ⟨i, hi, rfl, ?_⟩
    have hx := List.getElem_mem hi
    unfold recB
    rw [bytes_sx hL hr, ← he, bytes_sx hM hx]
    have h1 := hL.2 r hr
    have h2 := hM.2 _ hx
    cases hs : R.sameR M[i] r with
    | true => rw [(R.sameR_iff _ _).1 hs]; simp
    | false =>
      symm
      rw [decide_eq_false_iff_not]
      intro e
      have := layed_eq h1 h2 (Option.some.inj e)
      rw [← this, R.same_self] at hs
      cases hs
/-- The chapter's own list of the Keys that differ. -/
def p1 (L M : List R.Rc) (n : Nat) (r : R.Rc) : Bool := decide (r.o < (n : Int)) && !recB (sx L) (sx M) (kyR r)
def p2 (L : List R.Rc) (n : Nat) (r : R.Rc) : Bool := decide (r.o < (n : Int)) && decide (kyR r ∉ L.map kyR)
def wantK (p : R.Rc → Bool) (l : List R.Rc) (acc : List (Int × Int)) : List (Int × Int) := ((l.filter p).map kyR).foldl P.into acc
theorem wantK_next (p : R.Rc → Bool) (l : List R.Rc) (acc : List (Int × Int)) (i : Nat) (h : i < l.length) : wantK p (l.take (i + 1)) acc = if p l[i] = true then P.into (wantK p (l.take i) acc) (kyR l[i]) else wantK p (l.take i) acc := by
  unfold wantK
  rw [List.take_succ_eq_append_getElem h, List.filter_append, List.map_append, List.foldl_append]
  by_cases hp : p l[i] = true
  · rw [if_pos hp, List.filter_cons_of_pos hp]
    rfl
  · rw [if_neg hp, List.filter_cons_of_neg hp]
    rfl
theorem wantK_len (p : R.Rc → Bool) : ∀ (l : List R.Rc) (acc : List (Int × Int)), (wantK p l acc).length ≤ acc.length + l.length := by
  have hi : ∀ (m : List (Int × Int)) (k : Int × Int), (P.into m k).length ≤ m.length + 1 := fun m => by
    induction m with
    | nil => intro k; rw [P.into_nil]; simp
    | cons a m ih =>
      intro k
      rw [P.into_cons]
      have := ih k
      split
      · simp only [List.length_cons]; omega
      · split <;> simp only [List.length_cons] <;> omega
  have hf : ∀ (m acc : List (Int × Int)), (m.foldl P.into acc).length ≤ acc.length + m.length := fun m => by
    induction m with
    | nil => intro acc; simp
    | cons a m ih =>
      intro acc
      have h1 := ih (P.into acc a)
      have h2 := hi acc a
      rw [List.foldl_cons, List.length_cons]
      omega
  intro l acc
  unfold wantK
  have h1 := hf ((l.filter p).map kyR) acc
  have h2 := List.length_filter_le p l
  rw [List.length_map] at h1
  omega
theorem want_all {L M : List R.Rc} (hL : Once L) (hM : Once M) {n : Nat} (hn : n ≤ 8) (hc : clashB (sx L) (sx M) n = false) : wantK (p2 L n) M (wantK (p1 L M n) L []) = findK (difB (sx L) (sx M)) n := by
  refine P.Rise.ext ?_ (clear_rise hn hc) (fun k => ?_)
  · exact P.fold_rise _ (P.fold_rise _ List.Pairwise.nil)
  · unfold wantK
    rw [P.fold_mem, P.fold_mem, clear_mem hn hc]
    simp only [List.not_mem_nil, false_or, List.mem_map, List.mem_filter]
    constructor
    · rintro (⟨r, ⟨hr, hp⟩, rfl⟩ | ⟨r, ⟨hr, hp⟩, rfl⟩)
      · unfold p1 at hp
        rw [Bool.and_eq_true, decide_eq_true_eq, Bool.not_eq_true'] at hp
        obtain ⟨o, s, e, ho, hs⟩ := mayr_key (hL.2 r hr)
        have := congrArg Prod.fst e
        simp only [kyR] at this
        exact ⟨⟨o, s, by omega, hs, e⟩, hp.2⟩
      · unfold p2 at hp
        rw [Bool.and_eq_true, decide_eq_true_eq, decide_eq_true_eq] at hp
        obtain ⟨o, s, e, ho, hs⟩ := mayr_key (hM.2 r hr)
        have := congrArg Prod.fst e
        simp only [kyR] at this
        refine ⟨⟨o, s, by omega, hs, e⟩, ?_⟩
        unfold recB
        rw [bytes_sx_no hp.2, bytes_sx hM hr]
        simp
    · rintro ⟨⟨o, s, ho, hs, rfl⟩, hr⟩
      by_cases hk : ((o : Int), (s : Int)) ∈ L.map kyR
      · obtain ⟨r, hrL, e⟩ := List.mem_map.1 hk
        refine .inl ⟨r, ⟨hrL, ?_⟩, e⟩
        unfold p1
        rw [e, hr, Bool.not_false, Bool.and_true, decide_eq_true_eq]
        have := congrArg Prod.fst e
        simp only [kyR] at this
        omega
      · by_cases hk2 : ((o : Int), (s : Int)) ∈ M.map kyR
        · obtain ⟨r, hrM, e⟩ := List.mem_map.1 hk2
          refine .inr ⟨r, ⟨hrM, ?_⟩, e⟩
          unfold p2
          rw [e, Bool.and_eq_true, decide_eq_true_eq, decide_eq_true_eq]
          have := congrArg Prod.fst e
          simp only [kyR] at this
          exact ⟨by omega, hk⟩
        · unfold recB at hr
          rw [bytes_sx_no hk, bytes_sx_no hk2] at hr
          simp at hr
/-- Of a tree that has some more. -/
theorem putSs_more : ∀ (l : List R.Rc) (S : Sb), ∃ E, putSs S l = S ++ E
  | [], S => ⟨[], by rw [List.append_nil]; rfl⟩
  | r :: l, S => by
    obtain ⟨E, hE⟩ := putSs_more l (putS S r)
    show ∃ E, putSs (putS S r) l = S ++ E
    rw [hE]
    unfold putS
    split
    · exact ⟨(kyR r, R.layL r) :: E, by rw [List.append_assoc]; rfl⟩
    · exact ⟨E, rfl⟩
theorem kept_put {S : Sb} (h : Kept S) (r : R.Rc) : Kept (putS S r) := by
  unfold putS
  split
  · rename_i hc
    refine ⟨fun x hx => ?_, ?_⟩
    · rcases List.mem_append.1 hx with h1 | h1
      · exact h.laid x h1
      · exact ⟨r, hc.1, List.mem_singleton.1 h1⟩
    · rw [List.map_append, List.nodup_append]
      refine ⟨h.nd, by simp, fun a ha b hb => ?_⟩
      have : b = kyR r := by simpa using hb
      intro e
      exact hc.2 (this ▸ e ▸ ha)
  · exact h
theorem kept_puts : ∀ (l : List R.Rc) {S : Sb}, Kept S → Kept (putSs S l)
  | [], _, h => h
  | r :: l, _, h => kept_puts l (kept_put h r)
theorem kept_keys {S : Sb} (h : Kept S) {k : Ky} (hk : k ∈ S.map Prod.fst) : ∃ o s : Nat, k = ((o : Int), (s : Int)) ∧ o < 8 ∧ s < 1024 := by
  obtain ⟨x, hx, rfl⟩ := List.mem_map.1 hk
  obtain ⟨r, hm, rfl⟩ := h.laid x hx
  exact mayr_key hm
theorem bytes_some {S : Sb} (hS : Kept S) {k : Ky} (hk : k ∈ S.map Prod.fst) : ∃ bs, (k, bs) ∈ S ∧ bytesAt S k = some bs := by
  obtain ⟨x, hx, rfl⟩ := List.mem_map.1 hk
  exact ⟨x.2, hx, bytes_in hS.nd hx⟩
theorem add_keys {S E : Sb} (hA : Kept (S ++ E)) (hc : clashB (S ++ E) S 8 = false) : (∀ k, k ∈ findK (difB (S ++ E) S) 8 ↔ k ∈ E.map Prod.fst) ∧ (findK (difB (S ++ E) S) 8).length = E.length := by
  have hnd := hA.nd
  rw [List.map_append, List.nodup_append] at hnd
  obtain ⟨n1, n2, n3⟩ := hnd
  have hm : ∀ k, k ∈ findK (difB (S ++ E) S) 8 ↔ k ∈ E.map Prod.fst := fun k => by
    rw [clear_mem (by omega) hc]
    constructor
    · rintro ⟨_, hr⟩
      by_cases hk : k ∈ E.map Prod.fst
      · exact hk
      · exfalso
        unfold recB at hr
        rw [decide_eq_false_iff_not] at hr
        by_cases hk2 : k ∈ S.map Prod.fst
        · obtain ⟨x, hx, e⟩ := List.mem_map.1 hk2
          have hx2 : (k, x.2) ∈ S := by rw [← e]; exact hx
          rw [bytes_in hA.nd (List.mem_append_left _ hx2), bytes_in n1 hx2] at hr
          exact hr rfl
        · rw [bytes_no hk2, bytes_no (by rw [List.map_append, List.mem_append]; exact fun h => h.elim hk2 hk)] at hr
          exact hr rfl
    · intro hk
      obtain ⟨o2, s2, e2, ho2, hs2⟩ := kept_keys hA (k := k) (by rw [List.map_append]; exact List.mem_append_right _ hk)
      refine ⟨⟨o2, s2, ho2, hs2, e2⟩, ?_⟩
      obtain ⟨x, hx, e⟩ := List.mem_map.1 hk
      unfold recB
      rw [bytes_in hA.nd (List.mem_append_right _ (show (k, x.2) ∈ E by rw [← e]; exact hx)), bytes_no (fun h => n3 k h k hk rfl)]
      simp
  refine ⟨hm, ?_⟩
  have := (List.perm_ext_iff_of_nodup (rise_nodup (clear_rise (by omega) hc)) n2).2 hm
  rw [this.length_eq, List.length_map]
/-- What has been taken over so far. -/
structure Took (S A G : Sb) (ks : List (Int × Int)) (i : Nat) : Prop where
  keys : G.map Prod.fst = ks.take i
  of : ∀ x ∈ G, x ∈ A
theorem took_start (S A : Sb) (ks : List (Int × Int)) : Took S A [] ks 0 := ⟨by simp, fun x hx => by cases hx⟩
theorem took_no {S A G : Sb} {ks : List (Int × Int)} {i : Nat} (h : Took S A G ks i) (hks : ks.Nodup) (hno : ∀ k ∈ ks, k ∉ S.map Prod.fst) (hi : i < ks.length) : ks[i] ∉ (S ++ G).map Prod.fst := by
  rw [List.map_append, List.mem_append]
  rintro (h1 | h1)
  · exact hno _ (List.getElem_mem hi) h1
  · rw [h.keys] at h1
    obtain ⟨j, hj, e⟩ := List.mem_iff_getElem.1 h1
    rw [List.length_take] at hj
    rw [List.getElem_take] at e
    have := (List.getElem_inj hks).1 e
    omega
theorem took_next {S A G : Sb} {ks : List (Int × Int)} {i : Nat} (h : Took S A G ks i) (hi : i < ks.length) (hn : ks[i] ∉ (S ++ G).map Prod.fst) {r : R.Rc} (hm : R.mayR r = true) (hk : kyR r = ks[i]) (hA : (ks[i], R.layL r) ∈ A) :
    putS (S ++ G) r = S ++ (G ++ [(ks[i], R.layL r)]) ∧ Took S A (G ++ [(ks[i], R.layL r)]) ks (i + 1) := by
  refine ⟨?_, ?_, ?_⟩
  · unfold putS
    rw [if_pos ⟨hm, by rw [hk]; exact hn⟩, hk, List.append_assoc]
  · rw [List.map_append, h.keys, List.take_succ_eq_append_getElem hi]
    rfl
  · intro x hx
    rcases List.mem_append.1 hx with h1 | h1
    · exact h.of x h1
    · rw [List.mem_singleton.1 h1]
      exact hA
theorem took_end {S E G : Sb} {ks : List (Int × Int)} (hA : Kept (S ++ E)) (h : Took S (S ++ E) G ks ks.length) (hm : ∀ k, k ∈ ks ↔ k ∈ E.map Prod.fst) (hl : ks.length = E.length) :
    sameS (S ++ E) (S ++ G) := by
  have hk := h.keys
  rw [List.take_length] at hk
  have hg : G.length = ks.length := by rw [← hk, List.length_map]
  refine ⟨by simp [hg, hl], fun x hx => ?_⟩
  rcases List.mem_append.1 hx with h1 | h1
  · exact List.mem_append_left _ h1
  · refine List.mem_append_right _ ?_
    have h2 : x.1 ∈ G.map Prod.fst := by rw [hk, hm]; exact List.mem_map_of_mem h1
    obtain ⟨y, hy, e⟩ := List.mem_map.1 h2
    have h3 := h.of y hy
    have b1 := bytes_in hA.nd (show (x.1, x.2) ∈ S ++ E from hx)
    have b2 := bytes_in hA.nd (show (x.1, y.2) ∈ S ++ E by rw [← e]; exact h3)
    rw [b1] at b2
    have : x = y := Prod.ext e.symm (Option.some.inj b2)
    rw [this]
    exact hy
theorem took_back {S A G : Sb} {ks : List (Int × Int)} {i : Nat} (hs : ∀ x ∈ S, x ∈ A) (h : Took S A G ks i) : ∀ x ∈ S ++ G, x ∈ A := fun x hx => (List.mem_append.1 hx).elim (hs x) (h.of x)
theorem same_dif {A B : Sb} (hA : Kept A) (hB : Kept B) (h : sameS A B) (hba : ∀ x ∈ B, x ∈ A) (r : Rg) : difB A B r = false := by
  obtain ⟨o, l, i⟩ := r
  rw [dif_sum]
  have hmem : ∀ x, x ∈ A ↔ x ∈ B := fun x => ⟨h.2 x, hba x⟩
  have ht : ∀ o a, a < 1365 → treeF A o a = treeF B o a := fun o a ha => treeF_same (fun m _ => leaf_mem hA.nd hB.nd hmem o m) a ha
  have hs : sumV (treeF A) o l i = sumV (treeF B) o l i := by
    unfold sumV
    split
    · rename_i hb
      unfold sumB at hb
      rw [decide_eq_true_eq] at hb
      obtain ⟨h1, h2, h3, h4, h5, h6⟩ := hb
      have hc : ∀ k : Nat, k < 6 → pl k + (cnt (k : Int)).toNat ≤ 1365 := by decide
      have hc2 := hc l.toNat (by omega)
      rw [show ((l.toNat : Nat) : Int) = l from by omega] at hc2
      exact ht _ _ (by omega)
    · rfl
  rw [hs]
  simp
end Go.Proofs.YtchkadifjbmmpaaDoor
