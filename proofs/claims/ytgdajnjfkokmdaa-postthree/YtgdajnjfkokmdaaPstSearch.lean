/-
  slices.BinarySearchFunc at Posts, by contract.
-/
import Derived.Test.YtgdajnjfkokmdaaPstPMay
import Derived.IntWalk
namespace Go.Proofs.Ytgdajnjfkokmdaa
open Go.RowKit Go.Lib
set_option maxRecDepth 100000

/-- Where a Key stands, or would. -/
def placeP (l : List Pv) (k : Ky) (i : Nat) : Prop := i ≤ l.length ∧ (∀ t (ht : t < l.length), t < i → kLt (l[t].o, l[t].s) k = true) ∧ (∀ t (ht : t < l.length), i ≤ t → kLt (l[t].o, l[t].s) k = false)
def thereP (l : List Pv) (k : Ky) (i : Nat) : Bool := if h : i < l.length then (l[i].o, l[i].s) == k else false
theorem rise_at {l : List Pv} (h : Rise ((ps l).map Po.k)) {i j : Nat} (hi : i < l.length) (hj : j < l.length) (hij : i < j) : kLt (l[i].o, l[i].s) (l[j].o, l[j].s) = true := by
  have h2 : (l.map fun x => ((x.o, x.s) : Ky)).Pairwise fun a b => kLt a b = true := by
    have e : (ps l).map Po.k = l.map fun x => ((x.o, x.s) : Ky) := by simp [ps, Pv.p]
    rw [e] at h
    exact h
  have h3 := List.pairwise_iff_getElem.1 h2 i j (by simpa using hi) (by simpa using hj) hij
  simpa using h3
set_option maxHeartbeats 8000000 in
theorem search_c (l : List Pv) (ko ks : Int) (v : Value) (w : World) (h : PRd w v l) (hn : l.length ≤ 100000) (hr : Rise ((ps l).map Po.k)) :
    Calls Try.prog 58 #[v, .agg #[.int .i64 ko, .int .i64 ks, .slice none 0 0], .func (.func 59) #[] #[]] w fun e w' => ∃ i, placeP l (ko, ks) i ∧ e = .returned (.tuple #[.int .i64 (i : Int), .bool (thereP l (ko, ks) i)]) ∧ Below w.heap.size w w' := by
  have HR := Lib.hid hr
  have HPR := Lib.hid h
  obtain ⟨ad, cap, rfl, _, k1⟩ := h
  have H1 := Lib.hid k1
  have eg : ∀ args w, (callFunc 59 args).run Try.prog w = .ok (.enter 59 args) w := enters_of Try.func59 (by kernel_rfl) rfl
  obtain ⟨W1, hW1⟩ : ∃ W1, W1 = w.alloc (.cells #[.int .i64 ko, .int .i64 ks, .slice none 0 0] 37) := ⟨_, rfl⟩
  have hal : Below w.heap.size w W1 := by rw [hW1]; exact alloc_below _ _
  have bx : Bx 37 W1 w.heap.size #[.int .i64 ko, .int .i64 ks, .slice none 0 0] := by rw [hW1]; exact Bx.new _ w _
  have HW1 := Lib.hid hW1
  have HB1 := Lib.hid hal
  have BX := Lib.hid bx
  clear k1 hr hW1 hal bx
  go_enter Try.func58, Try.ntmps58
  go_wp2
  go_loopw [9, 10] (fun v9 v10 wr => ∃ lo hi : Nat, v9 = .int .i64 (lo : Int) ∧ v10 = .int .i64 (hi : Int) ∧ lo ≤ hi ∧ hi ≤ l.length ∧ Hid (Below W1.heap.size W1 wr) ∧ Hid (∀ t (ht : t < l.length), t < lo → kLt (l[t].o, l[t].s) (ko, ks) = true) ∧ Hid (∀ t (ht : t < l.length), hi ≤ t → kLt (l[t].o, l[t].s) (ko, ks) = false)) (fun v9 v10 _ => (intOf v10).toNat - (intOf v9).toNat)
  case atStart => exact ⟨0, l.length, rfl, rfl, by omega, by omega, Lib.hid (by rw [HW1.out]; exact Below.refl _ _), Lib.hid (fun t ht h => by omega), Lib.hid (fun t ht h => by omega)⟩
  case round =>
    obtain ⟨lo, hi, rfl, rfl, hlh, hin, HB, HLO, HHI⟩ := hrel
    by_cases hlt : lo < hi
    · obtain ⟨m, hm⟩ : ∃ m, m = (lo + hi) / 2 := ⟨_, rfl⟩
      have hml : m < l.length := by omega
      have hm1 : lo ≤ m := by omega
      have hm2 : m < hi := by omega
      have hmm : ((lo : Int) + (hi : Int)) / 2 = (m : Int) := by omega
      obtain ⟨g1, o1, rfl, cc⟩ := H1.out (by omega)
      have c1 := (cc m hml).below (bn HB1.out HB.out)
      have HM := Lib.hid (And.intro hml (And.intro hm1 hm2))
      clear hm cc
      generalize hz : l[m] = z at c1
      have HZ := Lib.hid hz
      clear hz
      obtain ⟨zo, zs, za, zn⟩ := z
      obtain ⟨ZA, ZC, ez, _⟩ := c1.nl.form
      simp only at ez
      subst ez
      have C1 := Lib.hid c1
      have HSC : Hid (∀ w', Below wr.heap.size wr w' → w'.cell? ⟨g1, o1 + m * 3, none⟩ = some (.int .i64 zo) ∧ w'.cell? ⟨g1, o1 + m * 3 + 1, none⟩ = some (.int .i64 zs) ∧ w'.cell? ⟨g1, o1 + m * 3 + 2, none⟩ = some (.slice ZA zn.length ZC) ∧ w'.cell? ⟨w.heap.size, 0, none⟩ = some (.int .i64 ko) ∧ w'.cell? ⟨w.heap.size, 1, none⟩ = some (.int .i64 ks) ∧ w'.cell? ⟨w.heap.size, 2, none⟩ = some (.slice none 0 0)) := Lib.hid (fun w' hb => ⟨(C1.out.below hb).c0, (C1.out.below hb).c1, (C1.out.below hb).c2, ((BX.out.below HB.out).below hb).cell 0, ((BX.out.below HB.out).below hb).cell 1, ((BX.out.below HB.out).below hb).cell 2⟩)
      have CK : Hid (∀ W, Calls Try.prog 59 #[.agg #[.int .i64 zo, .int .i64 zs, .slice ZA zn.length ZC], .agg #[.int .i64 ko, .int .i64 ks, .slice none 0 0]] W fun e w' => e = .returned (.int .i64 (cmpK (zo, zs) (ko, ks))) ∧ Below W.heap.size W w') := Lib.hid (fun W => bykey_c (zo, zs) (ko, ks) _ _ W)
      clear c1
      have HLT := Lib.hid hlt
      have hmono1 : kLt (zo, zs) (ko, ks) = true → ∀ t (ht : t < l.length), t < m + 1 → kLt (l[t].o, l[t].s) (ko, ks) = true := fun hk t ht htm => by
        have hz := HZ.out
        rcases Nat.lt_or_ge t m with h | h
        · have h1 := rise_at HR.out ht HM.out.1 h
          rw [hz] at h1
          exact kLt_trans h1 hk
        · obtain rfl : t = m := by omega
          rw [hz]
          exact hk
      have hmono2 : kLt (zo, zs) (ko, ks) = false → ∀ t (ht : t < l.length), m ≤ t → kLt (l[t].o, l[t].s) (ko, ks) = false := fun hk t ht htm => by
        have hz := HZ.out
        rcases Nat.lt_or_ge m t with h | h
        · have h1 := rise_at HR.out HM.out.1 ht h
          rw [hz] at h1
          cases hc : kLt (l[t].o, l[t].s) (ko, ks) with
          | false => rfl
          | true => exact absurd (kLt_trans h1 hc) (by rw [hk]; simp)
        · obtain rfl : t = m := by omega
          rw [hz]
          exact hk
      have HM1 := Lib.hid hmono1
      have HM2 := Lib.hid hmono2
      have hneg := cmpK_lt (zo, zs) (ko, ks)
      clear hmono1 hmono2
      generalize cmpK (zo, zs) (ko, ks) = c at CK hneg
      cases hk : kLt (zo, zs) (ko, ks) with
      | true =>
        rw [hk] at hneg
        have HM3 := Lib.hid (HM1.out hk)
        clear hk
        go_wp2_with fail
        refine wp_region_held_drew (S := fun w' => w'.cell? ⟨g1, o1 + m * 3, none⟩ = some (.int .i64 zo) ∧ w'.cell? ⟨g1, o1 + m * 3 + 1, none⟩ = some (.int .i64 zs) ∧ w'.cell? ⟨g1, o1 + m * 3 + 2, none⟩ = some (.slice ZA zn.length ZC) ∧ w'.cell? ⟨w.heap.size, 0, none⟩ = some (.int .i64 ko) ∧ w'.cell? ⟨w.heap.size, 1, none⟩ = some (.int .i64 ks) ∧ w'.cell? ⟨w.heap.size, 2, none⟩ = some (.slice none 0 0)) (by kernel_rfl) (HSC.out _ (Below.refl _ _).drew) (fun hHeld => ?_)
        refine take_ok (i := 0) (d := 24) (v := ?_) rfl rfl (by kernel_rfl) (by kernel_rfl) (by kernel_rfl) (fun _ _ _ h => h) (Or.inl ⟨by rfl, ?_⟩) (by assumption) ?_
        rotate_left
        · intro w9 hSw
          try dsimp only at hSw
          first | (go_simp; done) | (go_simp; with_reducible rfl)
        try simp only [Act.put, List.setIfInBounds_toArray, List.set_cons_zero, List.set_cons_succ]
        refine take_ok (i := 1) (d := 25) (v := ?_) rfl rfl (by kernel_rfl) (by kernel_rfl) (by kernel_rfl) (fun _ _ _ h => h) (Or.inl ⟨by rfl, ?_⟩) (by assumption) ?_
        rotate_left
        · intro w9 hSw
          try dsimp only at hSw
          first | (go_simp; done) | (go_simp; with_reducible rfl)
        try simp only [Act.put, List.setIfInBounds_toArray, List.set_cons_zero, List.set_cons_succ]
        refine take_ok (i := 2) (d := 26) (v := ?_) rfl rfl (by kernel_rfl) (by kernel_rfl) (by kernel_rfl) (fun _ _ _ h => h) (Or.inl ⟨by rfl, ?_⟩) (by assumption) ?_
        rotate_left
        · intro w9 hSw
          try dsimp only at hSw
          first | (go_simp; done) | (go_simp; with_reducible rfl)
        try simp only [Act.put, List.setIfInBounds_toArray, List.set_cons_zero, List.set_cons_succ]
        refine take_ok (i := 3) (d := 27) (v := ?_) rfl rfl (by kernel_rfl) (by kernel_rfl) (by kernel_rfl) (fun _ _ _ h => h) (Or.inl ⟨by rfl, ?_⟩) (by assumption) ?_
        rotate_left
        · intro w9 hSw
          try dsimp only at hSw
          first | (go_simp; done) | (go_simp; with_reducible rfl)
        try simp only [Act.put, List.setIfInBounds_toArray, List.set_cons_zero, List.set_cons_succ]
        refine take_ok (i := 4) (d := 28) (v := ?_) rfl rfl (by kernel_rfl) (by kernel_rfl) (by kernel_rfl) (fun _ _ _ h => h) (Or.inl ⟨by rfl, ?_⟩) (by assumption) ?_
        rotate_left
        · intro w9 hSw
          try dsimp only at hSw
          first | (go_simp; done) | (go_simp; with_reducible rfl)
        try simp only [Act.put, List.setIfInBounds_toArray, List.set_cons_zero, List.set_cons_succ]
        refine take_ok (i := 5) (d := 29) (v := ?_) rfl rfl (by kernel_rfl) (by kernel_rfl) (by kernel_rfl) (fun _ _ _ h => h) (Or.inl ⟨by rfl, ?_⟩) (by assumption) ?_
        rotate_left
        · intro w9 hSw
          try dsimp only at hSw
          first | (go_simp; done) | (go_simp; with_reducible rfl)
        try simp only [Act.put, List.setIfInBounds_toArray, List.set_cons_zero, List.set_cons_succ]
        refine wpAnyH_ready (rs := [6]) (by kernel_rfl) (by simp) ?_
        refine AllReadyH.cons rfl (fun K hK => ?_) AllReadyH.nil
        go_simp
        refine (CK.out _).mono ?_
        rintro e w2 ⟨rfl, b2⟩
        have b2' : Below wr.heap.size wr w2 := bn (by first | exact (Below.refl _ _).drew | exact Below.refl _ _) b2
        refine hK.out _ _ (HSC.out _ b2') (fun hHeld => ?_)
        clear hK K
        try simp only [Act.put, List.setIfInBounds_toArray, List.set_cons_zero, List.set_cons_succ]
        refine take_ok (i := 7) (d := 31) (v := ?_) rfl rfl (by kernel_rfl) (by kernel_rfl) (by kernel_rfl) (fun _ _ _ h => h) (Or.inl ⟨by rfl, ?_⟩) (by assumption) ?_
        rotate_left
        · intro w9 hSw
          try dsimp only at hSw
          first | (go_simp; done) | (go_simp; with_reducible rfl)
        try simp only [Act.put, List.setIfInBounds_toArray, List.set_cons_zero, List.set_cons_succ]
        refine wpAnyH_done (by kernel_rfl) ?_ _
        have HB2 := Lib.hid b2'
        clear b2 b2' hHeld CK HSC
        go_wp2
        go_roundw
        case rel => exact ⟨m + 1, hi, by go_num, rfl, HM.out.2.2, hin, Lib.hid (bn HB.out HB2.out), HM3, HHI⟩
        case measure => have := HM.out; simp [intOf]; omega
      | false =>
        rw [hk] at hneg
        have HM3 := Lib.hid (HM2.out hk)
        clear hk
        go_wp2_with fail
        refine wp_region_held_drew (S := fun w' => w'.cell? ⟨g1, o1 + m * 3, none⟩ = some (.int .i64 zo) ∧ w'.cell? ⟨g1, o1 + m * 3 + 1, none⟩ = some (.int .i64 zs) ∧ w'.cell? ⟨g1, o1 + m * 3 + 2, none⟩ = some (.slice ZA zn.length ZC) ∧ w'.cell? ⟨w.heap.size, 0, none⟩ = some (.int .i64 ko) ∧ w'.cell? ⟨w.heap.size, 1, none⟩ = some (.int .i64 ks) ∧ w'.cell? ⟨w.heap.size, 2, none⟩ = some (.slice none 0 0)) (by kernel_rfl) (HSC.out _ (Below.refl _ _).drew) (fun hHeld => ?_)
        refine take_ok (i := 0) (d := 24) (v := ?_) rfl rfl (by kernel_rfl) (by kernel_rfl) (by kernel_rfl) (fun _ _ _ h => h) (Or.inl ⟨by rfl, ?_⟩) (by assumption) ?_
        rotate_left
        · intro w9 hSw
          try dsimp only at hSw
          first | (go_simp; done) | (go_simp; with_reducible rfl)
        try simp only [Act.put, List.setIfInBounds_toArray, List.set_cons_zero, List.set_cons_succ]
        refine take_ok (i := 1) (d := 25) (v := ?_) rfl rfl (by kernel_rfl) (by kernel_rfl) (by kernel_rfl) (fun _ _ _ h => h) (Or.inl ⟨by rfl, ?_⟩) (by assumption) ?_
        rotate_left
        · intro w9 hSw
          try dsimp only at hSw
          first | (go_simp; done) | (go_simp; with_reducible rfl)
        try simp only [Act.put, List.setIfInBounds_toArray, List.set_cons_zero, List.set_cons_succ]
        refine take_ok (i := 2) (d := 26) (v := ?_) rfl rfl (by kernel_rfl) (by kernel_rfl) (by kernel_rfl) (fun _ _ _ h => h) (Or.inl ⟨by rfl, ?_⟩) (by assumption) ?_
        rotate_left
        · intro w9 hSw
          try dsimp only at hSw
          first | (go_simp; done) | (go_simp; with_reducible rfl)
        try simp only [Act.put, List.setIfInBounds_toArray, List.set_cons_zero, List.set_cons_succ]
        refine take_ok (i := 3) (d := 27) (v := ?_) rfl rfl (by kernel_rfl) (by kernel_rfl) (by kernel_rfl) (fun _ _ _ h => h) (Or.inl ⟨by rfl, ?_⟩) (by assumption) ?_
        rotate_left
        · intro w9 hSw
          try dsimp only at hSw
          first | (go_simp; done) | (go_simp; with_reducible rfl)
        try simp only [Act.put, List.setIfInBounds_toArray, List.set_cons_zero, List.set_cons_succ]
        refine take_ok (i := 4) (d := 28) (v := ?_) rfl rfl (by kernel_rfl) (by kernel_rfl) (by kernel_rfl) (fun _ _ _ h => h) (Or.inl ⟨by rfl, ?_⟩) (by assumption) ?_
        rotate_left
        · intro w9 hSw
          try dsimp only at hSw
          first | (go_simp; done) | (go_simp; with_reducible rfl)
        try simp only [Act.put, List.setIfInBounds_toArray, List.set_cons_zero, List.set_cons_succ]
        refine take_ok (i := 5) (d := 29) (v := ?_) rfl rfl (by kernel_rfl) (by kernel_rfl) (by kernel_rfl) (fun _ _ _ h => h) (Or.inl ⟨by rfl, ?_⟩) (by assumption) ?_
        rotate_left
        · intro w9 hSw
          try dsimp only at hSw
          first | (go_simp; done) | (go_simp; with_reducible rfl)
        try simp only [Act.put, List.setIfInBounds_toArray, List.set_cons_zero, List.set_cons_succ]
        refine wpAnyH_ready (rs := [6]) (by kernel_rfl) (by simp) ?_
        refine AllReadyH.cons rfl (fun K hK => ?_) AllReadyH.nil
        go_simp
        refine (CK.out _).mono ?_
        rintro e w2 ⟨rfl, b2⟩
        have b2' : Below wr.heap.size wr w2 := bn (by first | exact (Below.refl _ _).drew | exact Below.refl _ _) b2
        refine hK.out _ _ (HSC.out _ b2') (fun hHeld => ?_)
        clear hK K
        try simp only [Act.put, List.setIfInBounds_toArray, List.set_cons_zero, List.set_cons_succ]
        refine take_ok (i := 7) (d := 31) (v := ?_) rfl rfl (by kernel_rfl) (by kernel_rfl) (by kernel_rfl) (fun _ _ _ h => h) (Or.inl ⟨by rfl, ?_⟩) (by assumption) ?_
        rotate_left
        · intro w9 hSw
          try dsimp only at hSw
          first | (go_simp; done) | (go_simp; with_reducible rfl)
        try simp only [Act.put, List.setIfInBounds_toArray, List.set_cons_zero, List.set_cons_succ]
        refine wpAnyH_done (by kernel_rfl) ?_ _
        have HB2 := Lib.hid b2'
        clear b2 b2' hHeld CK HSC
        go_wp2
        go_roundw
        case rel => exact ⟨lo, m, rfl, by go_num, HM.out.2.1, by have := HM.out.1; omega, Lib.hid (bn HB.out HB2.out), HLO, HM3⟩
        case measure => have := HM.out; simp [intOf]; omega
    · obtain rfl : hi = lo := by omega
      have HPL : Hid (placeP l (ko, ks) hi) := Lib.hid ⟨hin, HLO.out, HHI.out⟩
      by_cases hp : hi < l.length
      · obtain ⟨g1, o1, rfl, cc⟩ := H1.out (by omega)
        have c1 := (cc hi hp).below (bn HB1.out HB.out)
        have HP := Lib.hid hp
        clear cc
        generalize hz : l[hi] = z at c1
        have HZ := Lib.hid hz
        clear hz
        obtain ⟨zo, zs, za, zn⟩ := z
        obtain ⟨ZA, ZC, ez, _⟩ := c1.nl.form
        simp only at ez
        subst ez
        have C1 := Lib.hid c1
        have HSC : Hid (∀ w', Below wr.heap.size wr w' → w'.cell? ⟨g1, o1 + hi * 3, none⟩ = some (.int .i64 zo) ∧ w'.cell? ⟨g1, o1 + hi * 3 + 1, none⟩ = some (.int .i64 zs) ∧ w'.cell? ⟨g1, o1 + hi * 3 + 2, none⟩ = some (.slice ZA zn.length ZC) ∧ w'.cell? ⟨w.heap.size, 0, none⟩ = some (.int .i64 ko) ∧ w'.cell? ⟨w.heap.size, 1, none⟩ = some (.int .i64 ks) ∧ w'.cell? ⟨w.heap.size, 2, none⟩ = some (.slice none 0 0)) := Lib.hid (fun w' hb => ⟨(C1.out.below hb).c0, (C1.out.below hb).c1, (C1.out.below hb).c2, ((BX.out.below HB.out).below hb).cell 0, ((BX.out.below HB.out).below hb).cell 1, ((BX.out.below HB.out).below hb).cell 2⟩)
        have CK : Hid (∀ W, Calls Try.prog 59 #[.agg #[.int .i64 zo, .int .i64 zs, .slice ZA zn.length ZC], .agg #[.int .i64 ko, .int .i64 ks, .slice none 0 0]] W fun e w' => e = .returned (.int .i64 (cmpK (zo, zs) (ko, ks))) ∧ Below W.heap.size W w') := Lib.hid (fun W => bykey_c (zo, zs) (ko, ks) _ _ W)
        clear c1
        have HTH : Hid (thereP l (ko, ks) hi = (((zo, zs) : Ky) == (ko, ks))) := Lib.hid ((dif_pos HP.out).trans (congrArg (fun q : Pv => (((q.o, q.s) : Ky) == (ko, ks))) HZ.out))
        have hzero : (cmpK (zo, zs) (ko, ks) == 0) = (((zo, zs) : Ky) == (ko, ks)) := by
          rw [Bool.eq_iff_iff, beq_iff_eq, beq_iff_eq]
          exact cmpK_zero
        have HZZ := Lib.hid hzero
        clear hzero
        generalize cmpK (zo, zs) (ko, ks) = c at CK HZZ
        go_wp2_with fail
        refine wp_region_held_drew (S := fun w' => w'.cell? ⟨g1, o1 + hi * 3, none⟩ = some (.int .i64 zo) ∧ w'.cell? ⟨g1, o1 + hi * 3 + 1, none⟩ = some (.int .i64 zs) ∧ w'.cell? ⟨g1, o1 + hi * 3 + 2, none⟩ = some (.slice ZA zn.length ZC) ∧ w'.cell? ⟨w.heap.size, 0, none⟩ = some (.int .i64 ko) ∧ w'.cell? ⟨w.heap.size, 1, none⟩ = some (.int .i64 ks) ∧ w'.cell? ⟨w.heap.size, 2, none⟩ = some (.slice none 0 0)) (by kernel_rfl) (HSC.out _ (Below.refl _ _).drew) (fun hHeld => ?_)
        refine take_ok (i := 0) (d := 35) (v := ?_) rfl rfl (by kernel_rfl) (by kernel_rfl) (by kernel_rfl) (fun _ _ _ h => h) (Or.inl ⟨by rfl, ?_⟩) (by assumption) ?_
        rotate_left
        · intro w9 hSw
          try dsimp only at hSw
          first | (go_simp; done) | (go_simp; with_reducible rfl)
        try simp only [Act.put, List.setIfInBounds_toArray, List.set_cons_zero, List.set_cons_succ]
        refine take_ok (i := 1) (d := 36) (v := ?_) rfl rfl (by kernel_rfl) (by kernel_rfl) (by kernel_rfl) (fun _ _ _ h => h) (Or.inl ⟨by rfl, ?_⟩) (by assumption) ?_
        rotate_left
        · intro w9 hSw
          try dsimp only at hSw
          first | (go_simp; done) | (go_simp; with_reducible rfl)
        try simp only [Act.put, List.setIfInBounds_toArray, List.set_cons_zero, List.set_cons_succ]
        refine take_ok (i := 2) (d := 37) (v := ?_) rfl rfl (by kernel_rfl) (by kernel_rfl) (by kernel_rfl) (fun _ _ _ h => h) (Or.inl ⟨by rfl, ?_⟩) (by assumption) ?_
        rotate_left
        · intro w9 hSw
          try dsimp only at hSw
          first | (go_simp; done) | (go_simp; with_reducible rfl)
        try simp only [Act.put, List.setIfInBounds_toArray, List.set_cons_zero, List.set_cons_succ]
        refine take_ok (i := 3) (d := 38) (v := ?_) rfl rfl (by kernel_rfl) (by kernel_rfl) (by kernel_rfl) (fun _ _ _ h => h) (Or.inl ⟨by rfl, ?_⟩) (by assumption) ?_
        rotate_left
        · intro w9 hSw
          try dsimp only at hSw
          first | (go_simp; done) | (go_simp; with_reducible rfl)
        try simp only [Act.put, List.setIfInBounds_toArray, List.set_cons_zero, List.set_cons_succ]
        refine take_ok (i := 4) (d := 39) (v := ?_) rfl rfl (by kernel_rfl) (by kernel_rfl) (by kernel_rfl) (fun _ _ _ h => h) (Or.inl ⟨by rfl, ?_⟩) (by assumption) ?_
        rotate_left
        · intro w9 hSw
          try dsimp only at hSw
          first | (go_simp; done) | (go_simp; with_reducible rfl)
        try simp only [Act.put, List.setIfInBounds_toArray, List.set_cons_zero, List.set_cons_succ]
        refine take_ok (i := 5) (d := 40) (v := ?_) rfl rfl (by kernel_rfl) (by kernel_rfl) (by kernel_rfl) (fun _ _ _ h => h) (Or.inl ⟨by rfl, ?_⟩) (by assumption) ?_
        rotate_left
        · intro w9 hSw
          try dsimp only at hSw
          first | (go_simp; done) | (go_simp; with_reducible rfl)
        try simp only [Act.put, List.setIfInBounds_toArray, List.set_cons_zero, List.set_cons_succ]
        refine take_ok (i := 6) (d := 41) (v := ?_) rfl rfl (by kernel_rfl) (by kernel_rfl) (by kernel_rfl) (fun _ _ _ h => h) (Or.inl ⟨by rfl, ?_⟩) (by assumption) ?_
        rotate_left
        · intro w9 hSw
          try dsimp only at hSw
          first | (go_simp; done) | (go_simp; with_reducible rfl)
        try simp only [Act.put, List.setIfInBounds_toArray, List.set_cons_zero, List.set_cons_succ]
        refine take_ok (i := 7) (d := 42) (v := ?_) rfl rfl (by kernel_rfl) (by kernel_rfl) (by kernel_rfl) (fun _ _ _ h => h) (Or.inl ⟨by rfl, ?_⟩) (by assumption) ?_
        rotate_left
        · intro w9 hSw
          try dsimp only at hSw
          first | (go_simp; done) | (go_simp; with_reducible rfl)
        try simp only [Act.put, List.setIfInBounds_toArray, List.set_cons_zero, List.set_cons_succ]
        refine take_ok (i := 8) (d := 43) (v := ?_) rfl rfl (by kernel_rfl) (by kernel_rfl) (by kernel_rfl) (fun _ _ _ h => h) (Or.inl ⟨by rfl, ?_⟩) (by assumption) ?_
        rotate_left
        · intro w9 hSw
          try dsimp only at hSw
          first | (go_simp; done) | (go_simp; with_reducible rfl)
        try simp only [Act.put, List.setIfInBounds_toArray, List.set_cons_zero, List.set_cons_succ]
        refine take_ok (i := 9) (d := 44) (v := ?_) rfl rfl (by kernel_rfl) (by kernel_rfl) (by kernel_rfl) (fun _ _ _ h => h) (Or.inl ⟨by rfl, ?_⟩) (by assumption) ?_
        rotate_left
        · intro w9 hSw
          try dsimp only at hSw
          first | (go_simp; done) | (go_simp; with_reducible rfl)
        try simp only [Act.put, List.setIfInBounds_toArray, List.set_cons_zero, List.set_cons_succ]
        refine take_ok (i := 10) (d := 45) (v := ?_) rfl rfl (by kernel_rfl) (by kernel_rfl) (by kernel_rfl) (fun _ _ _ h => h) (Or.inl ⟨by rfl, ?_⟩) (by assumption) ?_
        rotate_left
        · intro w9 hSw
          try dsimp only at hSw
          first | (go_simp; done) | (go_simp; with_reducible rfl)
        try simp only [Act.put, List.setIfInBounds_toArray, List.set_cons_zero, List.set_cons_succ]
        refine wpAnyH_ready (rs := [11]) (by kernel_rfl) (by simp) ?_
        refine AllReadyH.cons rfl (fun K hK => ?_) AllReadyH.nil
        go_simp
        refine (CK.out _).mono ?_
        rintro e w2 ⟨rfl, b2⟩
        have b2' : Below wr.heap.size wr w2 := bn (by first | exact (Below.refl _ _).drew | exact Below.refl _ _) b2
        refine hK.out _ _ (HSC.out _ b2') (fun hHeld => ?_)
        clear hK K
        try simp only [Act.put, List.setIfInBounds_toArray, List.set_cons_zero, List.set_cons_succ]
        refine take_ok (i := 12) (d := 47) (v := ?_) rfl rfl (by kernel_rfl) (by kernel_rfl) (by kernel_rfl) (fun _ _ _ h => h) (Or.inl ⟨by rfl, ?_⟩) (by assumption) ?_
        rotate_left
        · intro w9 hSw
          try dsimp only at hSw
          first | (go_simp; done) | (go_simp; with_reducible rfl)
        try simp only [Act.put, List.setIfInBounds_toArray, List.set_cons_zero, List.set_cons_succ]
        refine take_ok (i := 13) (d := 48) (v := ?_) rfl rfl (by kernel_rfl) (by kernel_rfl) (by kernel_rfl) (fun _ _ _ h => h) (Or.inl ⟨by rfl, ?_⟩) (by assumption) ?_
        rotate_left
        · intro w9 hSw
          try dsimp only at hSw
          first | (go_simp; done) | (go_simp; with_reducible rfl)
        try simp only [Act.put, List.setIfInBounds_toArray, List.set_cons_zero, List.set_cons_succ]
        refine take_ok (i := 14) (d := 6) (v := ?_) rfl rfl (by kernel_rfl) (by kernel_rfl) (by kernel_rfl) (fun _ _ _ h => h) (Or.inl ⟨by rfl, ?_⟩) (by assumption) ?_
        rotate_left
        · intro w9 hSw
          try dsimp only at hSw
          first | (go_simp; done) | (go_simp; with_reducible rfl)
        try simp only [Act.put, List.setIfInBounds_toArray, List.set_cons_zero, List.set_cons_succ]
        refine take_ok (i := 15) (d := 7) (v := ?_) rfl rfl (by kernel_rfl) (by kernel_rfl) (by kernel_rfl) (fun _ _ _ h => h) (Or.inl ⟨by rfl, ?_⟩) (by assumption) ?_
        rotate_left
        · intro w9 hSw
          try dsimp only at hSw
          first | (go_simp; done) | (go_simp; with_reducible rfl)
        try simp only [Act.put, List.setIfInBounds_toArray, List.set_cons_zero, List.set_cons_succ]
        refine wpAnyH_done (by kernel_rfl) ?_ _
        have HB2 := Lib.hid b2'
        clear b2 b2' hHeld CK HSC
        go_wp2
        go_ret2
        exact ⟨hi, HPL.out, by rw [HTH.out, ← HZZ.out]; first | rfl | simp, bn HB1.out (bn HB.out HB2.out)⟩
      · have HTH : Hid (thereP l (ko, ks) hi = false) := Lib.hid (by unfold thereP; rw [dif_neg hp])
        go_wp2_with fail
        go_quiet (fail)
        go_wp2
        go_ret2
        exact ⟨hi, HPL.out, by rw [HTH.out]; first | rfl | simp, bn HB1.out (below_drewN HB.out _)⟩
end Go.Proofs.Ytgdajnjfkokmdaa
