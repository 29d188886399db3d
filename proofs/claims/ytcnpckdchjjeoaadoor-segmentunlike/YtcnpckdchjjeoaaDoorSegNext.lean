/-
  next, by contract: the entry that stands at a place.
-/
import Derived.Test.YtcnpckdchjjeoaaDoorSegUnpack
import Derived.Test.YtcnpckdchjjeoaaDoorMFrmRefNext
namespace Go.Proofs.YtcnpckdchjjeoaaDoor
open Go.RowKit Go.Lib
set_option maxRecDepth 100000

/-- The entry at place a, one that may be for n, and the place behind it. -/
def nextE (l : List Int) (a : Int) (n : Int) : Option (En × Int) :=
  match nxT l a with
  | none => none
  | some (k, m) => match unE k (nxL l a (some (k, m))) with
    | none => none
    | some e => if mayE e n = true then some (e, a + ((m : Int) + 12)) else none
def nexT (l : List Int) (a : Int) (n : Int) (w : World) (x : Ending) (w' : World) : Prop :=
  ∃ d A B E, x = .returned (.tuple #[.agg #[.int .i64 d.k, A, B, .int .i64 d.r.o, .int .i64 d.r.s, .int .i64 d.r.w, .int .i64 d.r.c, .string d.r.t], .int .i64 E, .bool (nextE l a n).isSome]) ∧ (∀ e E', nextE l a n = some (e, E') → d = e ∧ E = E') ∧ Row w' w.heap.size A d.v ∧ Row w' w.heap.size B d.w ∧ apart A B ∧ Below w.heap.size w w'
theorem nexT_no {l : List Int} {a n : Int} {w w' : World} (h : nextE l a n = none) (hB : Below w.heap.size w w') :
    nexT l a n w (.returned (.tuple #[.agg #[.int .i64 0, .slice none 0 0, .slice none 0 0, .int .i64 0, .int .i64 0, .int .i64 0, .int .i64 0, .string ⟨#[]⟩], .int .i64 0, .bool false])) w' := by
  unfold nexT
  rw [h]
  exact ⟨⟨0, [], [], zeroR⟩, _, _, _, rfl, (fun _ _ h => by cases h), Row.nil _ _, Row.nil _ _, apart_nil _, hB⟩
theorem nexT_yes {l : List Int} {a n E : Int} {d : En} {A B : Value} {w w' : World} (h : nextE l a n = some (d, E)) (ha : Row w' w.heap.size A d.v) (hb : Row w' w.heap.size B d.w) (hp : apart A B) (hB : Below w.heap.size w w') :
    nexT l a n w (.returned (.tuple #[.agg #[.int .i64 d.k, A, B, .int .i64 d.r.o, .int .i64 d.r.s, .int .i64 d.r.w, .int .i64 d.r.c, .string d.r.t], .int .i64 E, .bool true])) w' := by
  unfold nexT
  rw [h]
  exact ⟨d, A, B, E, rfl, (fun _ _ h => by cases h; exact ⟨rfl, rfl⟩), ha, hb, hp, hB⟩

theorem unE_bounds {k : Int} {l : List Int} {e : En} (h : unE k l = some e) : e.v.length ≤ l.length ∧ e.w.length ≤ l.length ∧ e.r.t.size ≤ 120 ∧ e.k = k := by
  have hv : ∀ {l x r : List Int}, tvT l = some (x, r) → x.length ≤ l.length ∧ r.length ≤ l.length := by
    intro l x r h
    cases l with
    | nil => cases h
    | cons c t =>
      by_cases hp : 2 * c.toNat ≤ t.length
      · rw [tvT_cons c t hp] at h
        simp only [Option.some.injEq, Prod.mk.injEq] at h
        obtain ⟨rfl, rfl⟩ := h
        rw [unV_len]
        simp
        omega
      · rw [tvT_short c t hp] at h
        cases h
  unfold unE at h
  split at h
  · split at h
    · cases h
    · rename_i v r h1
      split at h
      · cases h
      · rename_i w q h2
        split at h
        · simp only [Option.some.injEq] at h
          subst h
          have := hv h1
          have := hv h2
          exact ⟨by simp; omega, by simp; omega, (show (0 : Nat) ≤ 120 from by decide), rfl⟩
        · cases h
  · split at h
    · split at h
      · rename_i h3
        simp only [Option.some.injEq] at h
        subst h
        refine ⟨by simp, by simp, ?_, rfl⟩
        have h4 := h3.1
        unfold atOk rdOk at h4
        simp only [Bool.and_eq_true] at h4
        exact mayR_size (by simpa using h4.2.2.2.2)
      · cases h
    · split at h
      · split at h
        · cases h
        · rename_i w q h1
          split at h
          · simp only [Option.some.injEq] at h
            subst h
            have := hv h1
            exact ⟨by simp, by simp; omega, (show (0 : Nat) ≤ 120 from by decide), rfl⟩
          · cases h
      · cases h
theorem nxL_ok {l : List Int} (h : OkB l) (a : Int) (p : Option (Int × Nat)) : OkB (nxL l a p) ∧ (nxL l a p).length ≤ l.length := by
  cases p with
  | none => exact ⟨(fun x hx => by cases hx), Nat.zero_le _⟩
  | some p => exact ⟨((h.drop _).drop _).take _, by simp [nxL]; omega⟩

set_option maxHeartbeats 8000000 in
theorem nexte_c (l : List Int) (v : Value) (a n : Int) (w : World) (h : Bc w v l) (ho : OkB l) (hl : l.length ≤ 1000000) (hT : Tabs w) :
    Calls Tryd.prog 45 #[v, .int .i64 a, .int .i64 n] w (nexT l a n w) := by
  have HX := Lib.hid (Bx.new 30 w #[.int .i64 0, .slice none 0 0, .slice none 0 0, .int .i64 0, .int .i64 0, .int .i64 0, .int .i64 0, .string ⟨#[]⟩])
  have hA := Lib.hid (alloc_below w (.cells #[.int .i64 0, .slice none 0 0, .slice none 0 0, .int .i64 0, .int .i64 0, .int .i64 0, .int .i64 0, .string ⟨#[]⟩] 30))
  obtain ⟨W1, hW1⟩ : ∃ W1, W1 = w.alloc (.cells #[.int .i64 0, .slice none 0 0, .slice none 0 0, .int .i64 0, .int .i64 0, .int .i64 0, .int .i64 0, .string ⟨#[]⟩] 30) := ⟨_, rfl⟩
  rw [← hW1] at HX hA
  have hz : W1.heap.size = w.heap.size + 1 := by rw [hW1]; simp
  have CN := Lib.hid (next_c l v a W1 (h.below hA.out) ho hl)
  have HT := Lib.hid hT
  have HO := Lib.hid ho
  obtain ⟨ad, cap, rfl, hcap⟩ := h.2
  clear h hT ho
  unfold nextT at CN
  cases hn : nxT l a with
  | none =>
    rw [hn] at CN
    have HE : Hid (nextE l a n = none) := Lib.hid (by unfold nextE; rw [hn])
    clear hn
    go_enter Tryd.func45, Tryd.ntmps45
    go_wp2_with fail
    rw [← hW1]
    refine CN.out.mono ?_
    rintro x w2 ⟨V2, rfl, h2, b2⟩
    have hx2 := HX.out.below b2
    have HX2 := Lib.hid hx2
    have HB2 := Lib.hid (bn hA.out b2)
    have hl2 := hx2.lt
    clear b2 CN HX
    obtain ⟨c0, c1, c2, c3, c4, c5, c6, c7⟩ := hx2.eight
    have s0 := hx2.soft 0
    have s1 := hx2.soft 1
    have s2 := hx2.soft 2
    have s3 := hx2.soft 3
    have s4 := hx2.soft 4
    have s5 := hx2.soft 5
    have s6 := hx2.soft 6
    have s7 := hx2.soft 7
    clear hx2
    go_wp2
    exact bodyPost_ret (res_e3 Tryd.results45 _ w.heap.size rfl _ _ _ _ _ _ _ _ _ (HX2.out.set8 _ _ _ _ _ _ _ _)) rfl (nexT_no HE.out (below_set8 HB2.out (Nat.le_refl _) _ _ _ _ _ _ _ _ _))
  | some p =>
    obtain ⟨k, m⟩ := p
    rw [hn] at CN
    have HNE : Hid (nextE l a n = match unE k (nxL l a (some (k, m))) with
      | none => none
      | some e => if mayE e n = true then some (e, a + ((m : Int) + 12)) else none) := Lib.hid (by unfold nextE; rw [hn])
    obtain ⟨ok2, len2⟩ := nxL_ok HO.out a (some (k, m))
    have HO2 := Lib.hid ok2
    have hl2 : (nxL l a (some (k, m))).length ≤ 1000000 := by omega
    simp only [nxK, nxE, Option.isSome] at CN
    generalize nxL l a (some (k, m)) = L2 at CN HNE HO2 hl2
    generalize a + ((m : Int) + 12) = E at CN HNE
    clear ok2 len2 hn
    go_enter Tryd.func45, Tryd.ntmps45
    go_wp2_with fail
    rw [← hW1]
    refine CN.out.mono ?_
    rintro x w2 ⟨V2, rfl, h2, b2⟩
    have HX2 := Lib.hid (HX.out.below b2)
    have HB2 := Lib.hid (bn hA.out b2)
    have hz2 := b2.size
    have CU := Lib.hid (unpack_c k L2 V2 w2 h2.bc HO2.out hl2 (HT.out.below HB2.out))
    obtain ⟨ad2, cap2, rfl, _⟩ := h2.nl.form
    clear b2 CN HX h2
    unfold unpT at CU
    cases hu : unE k L2 with
    | none =>
      rw [hu] at CU
      have HE : Hid (nextE l a n = none) := Lib.hid (by have := HNE.out; rw [hu] at this; exact this)
      clear hu HNE
      go_wp2_with fail
      refine CU.out.mono ?_
      rintro x w3 ⟨d, A, B, rfl, hd, hA3, hB3, hap, b3⟩
      obtain ⟨adA, capA, rfl, _⟩ := hA3.nl.form
      obtain ⟨adB, capB, rfl, _⟩ := hB3.nl.form
      have hx3 := HX2.out.below b3
      have HX3 := Lib.hid hx3
      have HB3 := Lib.hid (bn HB2.out b3)
      have hl3 := hx3.lt
      clear b3 CU HX2 hd hA3 hB3 hap
      obtain ⟨c0, c1, c2, c3, c4, c5, c6, c7⟩ := hx3.eight
      have s0 := hx3.soft 0
      have s1 := hx3.soft 1
      have s2 := hx3.soft 2
      have s3 := hx3.soft 3
      have s4 := hx3.soft 4
      have s5 := hx3.soft 5
      have s6 := hx3.soft 6
      have s7 := hx3.soft 7
      clear hx3
      go_wp2
      exact bodyPost_ret (res_e3 Tryd.results45 _ w.heap.size rfl _ _ _ _ _ _ _ _ _ ((HX3.out.set8 _ _ _ _ _ _ _ _).alloc _)) rfl (nexT_no HE.out ((below_set8 HB3.out (Nat.le_refl _) _ _ _ _ _ _ _ _ _).alloc (below_set8 HB3.out (Nat.le_refl _) _ _ _ _ _ _ _ _ _).size _))
    | some e =>
      rw [hu] at CU
      obtain ⟨q1, q2, q3, q4⟩ := unE_bounds hu
      have HNE' : Hid (nextE l a n = if mayE e n = true then some (e, E) else none) := Lib.hid (by have := HNE.out; rw [hu] at this; exact this)
      clear hu HNE
      go_wp2_with fail
      refine CU.out.mono ?_
      rintro x w3 ⟨d, A, B, rfl, hd, hA3, hB3, hap, b3⟩
      obtain rfl := hd e rfl
      have hq3 : d.r.t.size ≤ 9223372036854775807 := by omega
      have HB3 := Lib.hid (bn HB2.out b3)
      obtain ⟨W4, hW4⟩ : ∃ W4, W4 = w3.alloc (.cells #[.int .i64 d.k, A, B, .int .i64 d.r.o, .int .i64 d.r.s, .int .i64 d.r.w, .int .i64 d.r.c, .string d.r.t] 30) := ⟨_, rfl⟩
      have hb4 : Below w3.heap.size w3 W4 := by rw [hW4]; exact alloc_below _ _
      have HX4 := Lib.hid ((HX2.out.below b3).below hb4)
      have HD4 : Hid (Bx 30 W4 w3.heap.size #[.int .i64 d.k, A, B, .int .i64 d.r.o, .int .i64 d.r.s, .int .i64 d.r.w, .int .i64 d.r.c, .string d.r.t]) := Lib.hid (by rw [hW4]; exact Bx.new _ _ _)
      have HB4 := Lib.hid (bn HB3.out hb4)
      have HA4 := Lib.hid (hA3.below hb4)
      have HBB4 := Lib.hid (hB3.below hb4)
      have hz3 := b3.size
      have hz4 := hb4.size
      have CM := Lib.hid (maye_c d A B n W4 HA4.out.nl HBB4.out.nl (by omega) (by omega) hq3 (HT.out.below HB4.out))
      have HAP := Lib.hid hap
      obtain ⟨adA, capA, rfl, _⟩ := hA3.nl.form
      obtain ⟨adB, capB, rfl, _⟩ := hB3.nl.form
      have hl4 := HX4.out.lt
      have hl5 := HD4.out.lt
      clear b3 CU HX2 hd hA3 hB3 hap hb4 q1 q2 q3 q4
      cases hm : mayE d n with
      | false =>
        rw [hm] at CM HNE'
        have HE : Hid (nextE l a n = none) := Lib.hid (by have := HNE'.out; rwa [if_neg (by decide)] at this)
        clear hm HNE'
        go_wp2_with fail
        rw [← hW4]
        refine CM.out.mono ?_
        rintro x w5 ⟨rfl, b5⟩
        have hx5 := HX4.out.below b5
        have HX5 := Lib.hid hx5
        have HB5 := Lib.hid (bn HB4.out b5)
        have hl6 := hx5.lt
        clear b5 CM HX4
        obtain ⟨c0, c1, c2, c3, c4, c5, c6, c7⟩ := hx5.eight
        have s0 := hx5.soft 0
        have s1 := hx5.soft 1
        have s2 := hx5.soft 2
        have s3 := hx5.soft 3
        have s4 := hx5.soft 4
        have s5 := hx5.soft 5
        have s6 := hx5.soft 6
        have s7 := hx5.soft 7
        clear hx5
        go_wp2
        exact bodyPost_ret (res_e3 Tryd.results45 _ w.heap.size rfl _ _ _ _ _ _ _ _ _ (HX5.out.set8 _ _ _ _ _ _ _ _)) rfl (nexT_no HE.out (below_set8 HB5.out (Nat.le_refl _) _ _ _ _ _ _ _ _ _))
      | true =>
        rw [hm] at CM HNE'
        have HE : Hid (nextE l a n = some (d, E)) := Lib.hid (by have := HNE'.out; rwa [if_pos rfl] at this)
        clear hm HNE'
        go_wp2_with fail
        rw [← hW4]
        refine CM.out.mono ?_
        rintro x w5 ⟨rfl, b5⟩
        have hx5 := HX4.out.below b5
        have HX5 := Lib.hid hx5
        have hd5 := HD4.out.below b5
        have HB5 := Lib.hid (bn HB4.out b5)
        have HA5 := Lib.hid (HA4.out.below b5)
        have HBB5 := Lib.hid (HBB4.out.below b5)
        have hl6 := hx5.lt
        have hl7 := hd5.lt
        clear b5 CM HX4 HD4 HA4 HBB4
        obtain ⟨c0, c1, c2, c3, c4, c5, c6, c7⟩ := hx5.eight
        obtain ⟨d0, d1, d2, d3, d4, d5, d6, d7⟩ := hd5.eight
        have s0 := hx5.soft 0
        have s1 := hx5.soft 1
        have s2 := hx5.soft 2
        have s3 := hx5.soft 3
        have s4 := hx5.soft 4
        have s5 := hx5.soft 5
        have s6 := hx5.soft 6
        have s7 := hx5.soft 7
        clear hx5 hd5
        go_wp2
        exact bodyPost_ret (res_e3 Tryd.results45 _ w.heap.size rfl _ _ _ _ _ _ _ _ _ (HX5.out.set8 _ _ _ _ _ _ _ _)) rfl (nexT_yes HE.out (row_set8 (HA5.out.mono (by omega)) (HA5.out.off (by omega)) _ _ _ _ _ _ _ _) (row_set8 (HBB5.out.mono (by omega)) (HBB5.out.off (by omega)) _ _ _ _ _ _ _ _) HAP.out (below_set8 HB5.out (Nat.le_refl _) _ _ _ _ _ _ _ _ _))
end Go.Proofs.YtcnpckdchjjeoaaDoor
