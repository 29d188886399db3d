/-
  VectorTells, as a call: it answers true, whatever it is given.
-/
import Derived.Test.YtmdojflpnikhnaaVecGreat
namespace Go.Proofs.Ytmdojflpnikhnaa
open Go.RowKit Go.Lib

set_option maxHeartbeats 8000000 in
set_option maxRecDepth 100000 in
theorem tells_great (ls : List (List Int)) (a b c : List Int) (vv va vb vc : Value) (n : Int) (w : World) (hV : Vl w vv ls) (hA : Nl w va a) (hB : Nl w vb b) (hC : Nl w vc c) (hg : (greatB ls 12 || greatB [a, b, c] 3) = true) :
    Calls Try.prog 3 #[vv, va, vb, vc, .int .i64 n] w fun e w' => e = .returned (.bool true) ∧ Below w.heap.size w w' := by
  have CG := Lib.hid (great_c ls vv 12 w hV (by omega))
  have HA := Lib.hid hA
  have HB := Lib.hid hB
  have HC := Lib.hid hC
  obtain ⟨ada, capa, rfl, _⟩ := hA.form
  obtain ⟨adb, capb, rfl, _⟩ := hB.form
  obtain ⟨adc, capc, rfl, _⟩ := hC.form
  clear hV hA hB hC
  cases h1 : greatB ls 12
  · rw [h1] at CG
    rw [h1, Bool.false_or] at hg
    clear h1
    go_enter Try.func3, Try.ntmps3
    go_wp2_with fail
    refine CG.out.mono ?_
    rintro e w1 ⟨rfl, rfl⟩
    go_wp2_with fail
    refine (great_c [a, b, c] _ 3 _ (vl_new3 w _ rfl _ _ _ _ _ _ HA.out HB.out HC.out) (by omega)).mono ?_
    rw [hg]
    rintro e w1 ⟨rfl, rfl⟩
    go_wp2_with fail
    refine (awake_c _).mono ?_
    rintro e w2 ⟨rfl, c2⟩
    go_wp2
    go_ret
    exact ⟨rfl, Below.next (alloc_below w _) c2⟩
  · rw [h1] at CG
    clear h1 hg
    go_enter Try.func3, Try.ntmps3
    go_wp2_with fail
    refine CG.out.mono ?_
    rintro e w1 ⟨rfl, rfl⟩
    go_wp2_with fail
    refine (awake_c _).mono ?_
    rintro e w2 ⟨rfl, c2⟩
    go_wp2
    go_ret
    exact ⟨rfl, c2⟩

theorem foldF_len (f : Int → Int → Int) (m : Nat) : ∀ (ls : List (List Int)) (acc : List Int), acc.length ≤ m → (foldF f acc ls).length ≤ m
  | [], acc, h => h
  | v :: t, acc, h => by
    rw [foldF]
    split
    · exact foldF_len f m t _ (by simp; omega)
    · simp
theorem allF_len (f : Int → Int → Int) (ls : List (List Int)) (m : Nat) (h : ∀ l ∈ ls, l.length ≤ m) : (allF f ls).length ≤ m := by
  cases ls with
  | nil => simp [allF]
  | cons v t => exact foldF_len f m t v (h v (List.mem_cons_self ..))
theorem lackF_short : ∀ (a b c : List Int) (i : Nat), (lackF i a b c).length ≤ a.length
  | [], b, c, i => by rw [lackF_end]; simp
  | m :: a, [], c, i => by unfold lackF; simp
  | m :: a, y :: b, [], i => by unfold lackF; simp
  | m :: a, y :: b, f :: c, i => by
    have := lackF_short a b c (i + 1)
    rw [lackF]
    split <;> simp only [List.length_cons] <;> omega
theorem lackL_len (a b c : List Int) : (lackL a b c).length ≤ a.length := by
  unfold lackL
  split
  · exact lackF_short a b c 0
  · simp

theorem own_in {w : World} {base : Nat} {e : TypeId} {size : Nat} {v : Value} {n : Nat} {xs : List Value} (h : w.ownsRow base e size v n xs) : ∀ g, v.ownBlock = some g → base ≤ g ∧ g < w.heap.size := World.ownsRow.lt h

set_option maxHeartbeats 64000000 in
set_option maxRecDepth 100000 in
theorem tells_few (ls : List (List Int)) (a b c : List Int) (vv va vb vc : Value) (n : Int) (w : World) (hV : Vl w vv ls) (hA : Nl w va a) (hB : Nl w vb b) (hC : Nl w vc c) (hg1 : greatB ls 12 = false) (hg2 : greatB [a, b, c] 3 = false) :
    Calls Try.prog 3 #[vv, va, vb, vc, .int .i64 n] w fun e w' => e = .returned (.bool true) ∧ Below w.heap.size w w' := by
  have HG1 := Lib.hid (by have h := great_c ls vv 12 w hV (by omega); rw [hg1] at h; exact h)
  have HG2 := Lib.hid hg2
  have HV := Lib.hid hV
  have HA := Lib.hid hA
  have HB := Lib.hid hB
  have HC := Lib.hid hC
  obtain ⟨ada, capa, rfl, hAf⟩ := hA.form
  have HAF := Lib.hid hAf
  obtain ⟨adb, capb, rfl, _⟩ := hB.form
  obtain ⟨adc, capc, rfl, _⟩ := hC.form
  unfold greatB at hg1 hg2
  rw [Bool.or_eq_false_iff] at hg1 hg2
  have hln : ls.length ≤ 12 := by have := of_decide_eq_false hg1.1; omega
  have HLS : Hid (∀ l ∈ ls, l.length ≤ 1000) := Lib.hid (fun l hl => by have := longB_no ls hg1.2 l hl; omega)
  have han : a.length ≤ 20 := longB_no _ hg2.2 a (by simp)
  have hbn : b.length ≤ 20 := longB_no _ hg2.2 b (by simp)
  have hcn : c.length ≤ 20 := longB_no _ hg2.2 c (by simp)
  have HLJ : Hid ((allF mx ls).length ≤ 1000) := Lib.hid (allF_len mx ls 1000 HLS.out)
  have HLM : Hid ((allF mn ls).length ≤ 1000) := Lib.hid (allF_len mn ls 1000 HLS.out)
  have HLK : Hid ((lackL a b c).length ≤ 1000) := Lib.hid (by have := lackL_len a b c; omega)
  obtain ⟨zl, hz0, hz8, hzl, hZ⟩ := zero_any n
  have HZ0 := Lib.hid hz0
  have HZL := Lib.hid hzl
  have HZ := Lib.hid hZ
  clear hV hA hB hC hg1 hg2 hAf hz0 hzl hZ
  go_enter Try.func3, Try.ntmps3
  go_wp2_with fail
  refine HG1.out.mono ?_
  rintro e w0 ⟨rfl, rfl⟩
  go_wp2_with fail
  refine (great_c [a, b, c] _ 3 _ (vl_new3 w _ rfl _ _ _ _ _ _ HA.out HB.out HC.out) (by omega)).mono ?_
  rw [HG2.out]
  rintro e w0 ⟨rfl, rfl⟩
  have b0 := alloc_below w (.cells #[.slice ada a.length capa, .slice adb b.length capb, .slice adc c.length capc] 23)
  -- LendInts
  go_wp2_with fail
  refine (lend_c a _ _ (HA.out.below b0) (by omega)).mono ?_
  rintro e w1 ⟨g, rfl, hl1, hg1, c1⟩
  have B1 : Hid (Below w.heap.size w w1) := Lib.hid (Below.next b0 c1)
  have HL1 := Lib.hid hl1
  have hgw : w.heap.size ≤ g := by simp at hg1; omega
  have hg1w : g < w1.heap.size := hl1.lt
  clear b0 c1 hl1 hg1 HG1 HG2
  -- Join
  go_wp2_with fail
  refine (join_c ls vv w1 (HV.out.below B1.out) (by omega) HLS.out).mono ?_
  rintro e w2 ⟨vj, rfl, r2, c2⟩
  have HJ2 := Lib.hid r2
  have hjb := Lib.hid (own_in r2)
  have HL2 := Lib.hid (HL1.out.below c2)
  have B2 : Hid (Below w.heap.size w w2) := Lib.hid (Below.next B1.out c2)
  have s2 := c2.size
  clear r2 c2 HL1 B1
  -- Meet
  go_wp2_with fail
  refine (meet_c ls vv w2 (HV.out.below B2.out) (by omega) HLS.out).mono ?_
  rintro e w3 ⟨vm, rfl, r3, c3⟩
  have HM3 := Lib.hid r3
  have hmb := Lib.hid (own_in r3)
  have HJ3 := Lib.hid (HJ2.out.below c3)
  have HL3 := Lib.hid (HL2.out.below c3)
  have B3 : Hid (Below w.heap.size w w3) := Lib.hid (Below.next B2.out c3)
  have s3 := c3.size
  clear r3 c3 HL2 B2 HJ2
  -- Lack
  go_wp2_with fail
  refine (lack_c a b c _ _ _ w3 HL3.out.nl (HB.out.below B3.out) (HC.out.below B3.out) (by omega)).mono ?_
  rintro e w4 ⟨vk, rfl, r4, c4⟩
  have HK := Lib.hid r4
  have hkb := Lib.hid (own_in r4)
  have HJ := Lib.hid (HJ3.out.below c4)
  have HM := Lib.hid (HM3.out.below c4)
  have HL := Lib.hid (HL3.out.below c4)
  have B4 : Hid (Below w.heap.size w w4) := Lib.hid (Below.next B3.out c4)
  have s4 := c4.size
  clear r4 c4 HL3 B3 HJ3 HM3
  -- from here on: against w4
  go_wp2_with fail
  refine (refjoin_c ls vv w4 (HV.out.below B4.out) (by omega) HLS.out).mono ?_
  rintro e w5 ⟨v5, rfl, r5, c5⟩
  have H5 := Lib.hid r5.nl
  have b5 := c5
  clear r5 c5
  go_wp2_with fail
  refine (sameT_c (allF mx ls) vj v5 w5 (HJ.out.nl.below b5) H5.out (by have := HLJ.out; omega)).mono ?_
  rintro e w6 ⟨rfl, c6⟩
  have b6 := Below.next b5 c6
  clear c6 b5 H5
  go_wp2_with fail
  refine (refmeet_c ls vv w6 (HV.out.below (Below.next B4.out b6)) (by omega) HLS.out).mono ?_
  rintro e w7 ⟨v7, rfl, r7, c7⟩
  have H7 := Lib.hid r7.nl
  have b7 := Below.next b6 c7
  clear r7 c7 b6
  go_wp2_with fail
  refine (sameT_c (allF mn ls) vm v7 w7 (HM.out.nl.below b7) H7.out (by have := HLM.out; omega)).mono ?_
  rintro e w8 ⟨rfl, c8⟩
  have b8 := Below.next b7 c8
  clear c8 b7 H7
  -- May
  go_wp2_with fail
  refine (may_c a n _ w8 (HL.out.nl.below b8) (by omega)).mono ?_
  rintro e w9 ⟨rfl, c9⟩
  have b9 := Below.next b8 c9
  clear c9 b8
  go_wp2_with fail
  refine (refmay_c a n _ w9 (HA.out.below (Below.next B4.out b9)) (by omega)).mono ?_
  rintro e w10 ⟨rfl, c10⟩
  have b10 := Below.next b9 c10
  clear c10 b9
  generalize mayB a n = X
  have hXX : (X == X) = true := by simp
  -- Below
  go_wp2_with fail
  clear hXX
  refine (below_c a b _ _ w10 (HL.out.nl.below b10) (HB.out.below (Below.next B4.out b10)) (by omega)).mono ?_
  rintro e w11 ⟨rfl, c11⟩
  have b11 := Below.next b10 c11
  clear c11 b10
  go_wp2_with fail
  refine (refbelow_c a b _ _ w11 (HA.out.below (Below.next B4.out b11)) (HB.out.below (Below.next B4.out b11)) (by omega)).mono ?_
  rintro e w12 ⟨rfl, c12⟩
  have b12 := Below.next b11 c12
  clear c12 b11
  generalize leB a b = Y
  have hYY : (Y == Y) = true := by simp
  -- Lack
  go_wp2_with fail
  clear hYY
  refine (reflack_c a b c _ _ _ w12 (HA.out.below (Below.next B4.out b12)) (HB.out.below (Below.next B4.out b12)) (HC.out.below (Below.next B4.out b12)) (by omega)).mono ?_
  rintro e w13 ⟨v13, rfl, r13, c13⟩
  have H13 := Lib.hid r13.rd
  have b13 := Below.next b12 c13
  clear r13 c13 b12
  go_wp2_with fail
  refine (spans_c (lackL a b c) vk v13 w13 (HK.out.rd.below b13) H13.out (by have := HLK.out; omega)).mono ?_
  rintro e w14 ⟨rfl, c14⟩
  have b14 := Below.next b13 c14
  clear c14 b13 H13
  -- KeptInts
  go_wp2_with fail
  refine (kept_c a a g _ w14 (HL.out.below b14) (HA.out.below (Below.next B4.out b14)) (by omega)).mono ?_
  rw [sameB_self]
  rintro e w15 ⟨rfl, c15⟩
  have b15 := Below.next b14 c15
  clear c15 b14
  -- Join(in)
  go_wp2_with fail
  refine (join_c [a] _ _ (vl_new1 w15 _ rfl _ _ (HL.out.nl.below b15)) (by simp) (by simp; omega)).mono ?_
  rintro e w16 ⟨v16, rfl, r16, c16⟩
  have H16 : Hid (Row w16 (w15.alloc (.cells #[.slice (some ⟨g, 0, none⟩) a.length (a.length + 3)] 23)).heap.size v16 a) := Lib.hid r16
  have hob := Lib.hid (own_in r16)
  have b16 : Below w4.heap.size w4 w16 := Below.next (b15.alloc b15.size _) c16
  have s16 := c16.size
  have s15 := b15.size
  have sB4 := B4.out.size
  clear r16 c16 b15
  -- what stands when all is written over
  go_wp2_with fail
  refine (over_c a v16 w16 _ H16.out (by omega) (by exact s16)).mono ?_
  rintro e w17 ⟨rfl, g17⟩
  have HL17 : Hid (Lent w17 g a) := Lib.hid ((HL.out.below b16).far g17 (fun e => by have := (hob.out g e).1; simp at this; omega))
  have HJ17 : Hid (Row w17 _ vj (allF mx ls)) := Lib.hid ((HJ.out.below b16).far g17 (fun x hx y hy e => by have := (hob.out x hx).1; have := (hjb.out y hy).2; simp at *; omega))
  have HM17 : Hid (Row w17 _ vm (allF mn ls)) := Lib.hid ((HM.out.below b16).far g17 (fun x hx y hy e => by have := (hob.out x hx).1; have := (hmb.out y hy).2; simp at *; omega))
  have HK17 : Hid (SRow w17 _ vk (lackL a b c)) := Lib.hid ((HK.out.below b16).far g17 (fun x hx y hy e => by have := (hob.out x hx).1; have := (hkb.out y hy).2; simp at *; omega))
  have B17 : Hid (Below w.heap.size w w17) := Lib.hid ((Below.next B4.out b16).trans (below_of_grown g17 (by have := b16.size; omega) (fun x hx => by have := (hob.out x hx).1; simp at this; omega)))
  have s17 : w4.heap.size ≤ w17.heap.size := by have := b16.size; have := g17.size; omega
  clear HL HJ HM HK B4 H16 hob b16 g17 s16 s15
  go_wp2_with fail
  refine (over_c (allF mx ls) vj w17 _ HJ17.out (by have := HLJ.out; omega) (by omega)).mono ?_
  rintro e w18 ⟨rfl, g18⟩
  have HL18 : Hid (Lent w18 g a) := Lib.hid (HL17.out.far g18 (fun e => by have := (hjb.out g e).1; omega))
  have HM18 : Hid (Row w18 _ vm (allF mn ls)) := Lib.hid (HM17.out.far g18 (fun x hx y hy e => by have := (hjb.out x hx).2; have := (hmb.out y hy).1; omega))
  have HK18 : Hid (SRow w18 _ vk (lackL a b c)) := Lib.hid (HK17.out.far g18 (fun x hx y hy e => by have := (hjb.out x hx).2; have := (hkb.out y hy).1; omega))
  have B18 : Hid (Below w.heap.size w w18) := Lib.hid (B17.out.trans (below_of_grown g18 (by have := B17.out.size; omega) (fun x hx => by have := (hjb.out x hx).1; omega)))
  have s18 : w4.heap.size ≤ w18.heap.size := by have := g18.size; omega
  clear HL17 HJ17 HM17 HK17 B17 g18 s17
  go_wp2_with fail
  refine (over_c (allF mn ls) vm w18 _ HM18.out (by have := HLM.out; omega) (by omega)).mono ?_
  rintro e w19 ⟨rfl, g19⟩
  have HL19 : Hid (Lent w19 g a) := Lib.hid (HL18.out.far g19 (fun e => by have := (hmb.out g e).1; omega))
  have HK19 : Hid (SRow w19 _ vk (lackL a b c)) := Lib.hid (HK18.out.far g19 (fun x hx y hy e => by have := (hmb.out x hx).2; have := (hkb.out y hy).1; omega))
  have B19 : Hid (Below w.heap.size w w19) := Lib.hid (B18.out.trans (below_of_grown g19 (by have := B18.out.size; omega) (fun x hx => by have := (hmb.out x hx).1; omega)))
  have s19 : w4.heap.size ≤ w19.heap.size := by have := g19.size; omega
  clear HL18 HM18 HK18 B18 g19 s18
  go_wp2_with fail
  refine (overs_c (lackL a b c) vk w19 _ HK19.out (by have := HLK.out; omega) (by omega)).mono ?_
  rintro e w10' ⟨rfl, g10⟩
  have HL10 : Hid (Lent w10' g a) := Lib.hid (HL19.out.far g10 (fun e => by have := (hkb.out g e).1; omega))
  have B10 : Hid (Below w.heap.size w w10') := Lib.hid (B19.out.trans (below_of_grown g10 (by have := B19.out.size; omega) (fun x hx => by have := (hkb.out x hx).1; omega)))
  clear HL19 HK19 B19 g10 s19 hjb hmb hkb
  -- the sum
  go_wp2
  go_loopw [17, 18] (fun vs vi wr => ∃ (k : Nat) (s : Int), k ≤ a.length ∧ vi = .int .i64 (k : Int) ∧ vs = .int .i64 s ∧ wr = w10' ∧ Hid (sumL s (a.drop k) = sumL 0 a)) (fun _ vi _ => a.length - (intOf vi).toNat)
  case atStart => exact ⟨0, 0, by omega, rfl, rfl, rfl, Lib.hid rfl⟩
  case round =>
    obtain ⟨k, s, hk, rfl, rfl, rfl, hs⟩ := hrel
    by_cases hp : k < a.length
    · obtain ⟨g1, o1, rfl, c1⟩ := HAF.out (by omega)
      have c11 := (B10.out.cell (World.block_lt_of_cell? w _ (c1 k hp))).trans (c1 k hp)
      have hl11 := World.block_lt_of_cell? _ _ c11
      have hs' := hs.out
      rw [List.drop_eq_getElem_cons hp, sumL] at hs'
      simp only at hl11
      clear c1 hs
      generalize a[k] = x at c11 hs'
      have HS := Lib.hid hs'
      clear hs'
      go_wp2
      go_roundw
      case rel => exact ⟨k + 1, wrap64 (s + x), hp, by go_num, rfl, by trivial, HS⟩
      case measure => simp [intOf]; omega
    · have hs' := hs.out
      rw [List.drop_eq_nil_of_le (by omega), sumL] at hs'
      have HSUM : Hid (sumL 0 a = s) := Lib.hid hs'.symm
      clear hs' hs
      -- Zero
      go_wp2_with fail
      refine (HZ.out _).mono ?_
      rintro e w12 ⟨vz, rfl, r12, c12⟩
      have HL12 := Lib.hid (HL10.out.below c12)
      have B12 : Hid (Below w.heap.size w w12) := Lib.hid (Below.next B10.out c12)
      obtain ⟨adz, capz, rfl, hzf⟩ := r12.nl.form
      have HZF := Lib.hid hzf
      clear r12 c12 hzf HL10 B10
      go_wp2
      go_loopw [15, 20] (fun vo vi wr => ∃ (k : Nat), k ≤ zl.length ∧ vi = .int .i64 (k : Int) ∧ vo = .bool true ∧ wr = w12) (fun _ vi _ => zl.length - (intOf vi).toNat)
      case atStart => exact ⟨0, by omega, rfl, rfl, rfl⟩
      case round =>
        obtain ⟨k2, hk2, rfl, rfl, rfl⟩ := hrel
        by_cases hq : k2 < zl.length
        · obtain ⟨g2, o2, rfl, c2⟩ := HZF.out (by omega)
          have c21 := c2 k2 hq
          rw [HZ0.out k2 hq] at c21
          have hl21 := World.block_lt_of_cell? _ _ c21
          simp only at hl21
          clear c2
          go_wp2
          go_roundw
          case rel => exact ⟨k2 + 1, hq, by go_num, by trivial, by trivial⟩
          case measure => simp [intOf]; omega
        · have HL13 := HL12
          have B13 := B12
          clear HL12 B12 HZF
          have cM := refmany_c n wr
          have hzl := HZL.out
          cases hM : manyB n
          · rw [hM] at cM hzl
            have hzl2 : zl.length = 0 := by simpa using hzl
            have hzz : ((zl.length : Int) == 0) = true := by rw [hzl2]; rfl
            have CM := Lib.hid cM
            clear cM hzl hM hzl2
            go_wp2_with fail
            refine CM.out.mono ?_
            rintro e w13' ⟨rfl, rfl⟩
            go_wp2_with fail
            refine (kept_c a a g _ wr HL13.out (HA.out.below B13.out) (by omega)).mono ?_
            rw [sameB_self]
            rintro e w14 ⟨rfl, c14⟩
            have B14 : Hid (Below w.heap.size w w14) := Lib.hid (Below.next B13.out c14)
            clear c14
            go_wp2_with fail
            refine (sum_c a _ w14 (HA.out.below B14.out) (by omega)).mono ?_
            rw [HSUM.out]
            rintro e w15 ⟨rfl, rfl⟩
            go_wp2_with fail
            refine (awake_c w14).mono ?_
            rintro e w15 ⟨rfl, c15⟩
            go_wp2
            go_ret
            exact ⟨rfl, Below.next B14.out c15⟩
          · rw [hM] at cM hzl
            have hzz : ((zl.length : Int) == n) = true := by rw [hzl]; simp
            have CM := Lib.hid cM
            clear cM hzl hM
            go_wp2_with fail
            refine CM.out.mono ?_
            rintro e w13' ⟨rfl, rfl⟩
            go_wp2_with fail
            refine (kept_c a a g _ wr HL13.out (HA.out.below B13.out) (by omega)).mono ?_
            rw [sameB_self]
            rintro e w14 ⟨rfl, c14⟩
            have B14 : Hid (Below w.heap.size w w14) := Lib.hid (Below.next B13.out c14)
            clear c14
            go_wp2_with fail
            refine (sum_c a _ w14 (HA.out.below B14.out) (by omega)).mono ?_
            rw [HSUM.out]
            rintro e w15 ⟨rfl, rfl⟩
            go_wp2_with fail
            refine (awake_c w14).mono ?_
            rintro e w15 ⟨rfl, c15⟩
            go_wp2
            go_ret
            exact ⟨rfl, Below.next B14.out c15⟩

end Go.Proofs.Ytmdojflpnikhnaa
