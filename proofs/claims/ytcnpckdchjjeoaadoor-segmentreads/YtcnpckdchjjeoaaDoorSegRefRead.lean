/-
  Chapter 8's own Read, by contract.
-/
import Derived.Test.YtcnpckdchjjeoaaDoorSegRead
import Derived.Test.YtcnpckdchjjeoaaDoorSegRefEnt2
namespace Go.Proofs.YtcnpckdchjjeoaaDoor
open Go.RowKit Go.Lib
set_option maxRecDepth 100000

theorem nextE_no {l : List Int} {a n : Int} (h : nxT l a = none) : nextE l a n = none := by unfold nextE; rw [h]
theorem nextE_ref {l : List Int} {a n : Int} {k : Int} {m : Nat} (h : nxT l a = some (k, m)) : nextE l a n = (refE k (nxL l a (some (k, m))) n).map fun e => (e, a + ((m : Int) + 12)) := by
  unfold nextE refE
  rw [h]
  simp only
  cases unE k (nxL l a (some (k, m))) with
  | none => rfl
  | some e =>
    simp only
    by_cases hm : mayE e n = true
    · rw [if_pos hm, if_pos hm]; rfl
    · rw [if_neg hm, if_neg hm]; rfl
theorem refE_kind {k : Int} {l : List Int} {n : Int} {e : En} (h : refE k l n = some e) : e.k = k := by
  unfold refE at h
  split at h
  · cases h
  · rename_i d hd
    split at h
    · simp only [Option.some.injEq] at h
      subst h
      exact (unE_bounds hd).2.2.2
    · cases h

set_option maxHeartbeats 8000000 in
theorem refreade_c (l : List Int) (v : Value) (n : Int) (w : World) (h : Bc w v l) (ho : OkB l) (hl : l.length ≤ 1000000) (hT : Tabs w) :
    Calls Tryd.prog 20 #[v, .int .i64 n] w (readT8 l n w) := by
  have CN : Hid (∀ W (a : Nat), Below w.heap.size w W → Calls Tryd.prog 25 #[v, .int .i64 (a : Int)] W (nextT l (a : Int) W)) := Lib.hid (fun W a hW => rnext_c l v (a : Int) W (h.below hW) ho hl)
  obtain ⟨ad, cap, rfl, hcap⟩ := h.2
  obtain ⟨i0, hi, hz0, hz1, hz2⟩ := info_parts entryInfo
  have HI := Lib.hid hi
  have HZ0 := Lib.hid hz0
  have HZ1 := Lib.hid hz1
  have HZ2 := Lib.hid hz2
  have HT := Lib.hid hT
  have HOk := Lib.hid ho
  clear h ho hT hi hz0 hz1 hz2
  go_enter Tryd.func20, Tryd.ntmps20
  go_wp2
  go_loopw [6, 7] (fun v6 v7 wr => ∃ (a f : Nat) (xs : List Ev), v7 = .int .i64 (a : Int) ∧ a ≤ l.length ∧ l.length + 1 ≤ f + a ∧ xs.length ≤ a ∧ Hid ((xs.map Ev.e ++ (rdE l n f a xs.isEmpty).1, (rdE l n f a xs.isEmpty).2) = readE l n) ∧ Hid (EOwn wr w.heap.size v6 xs) ∧ Hid (Below w.heap.size w wr)) (fun _ v7 _ => l.length - (RowKit.intOf v7).toNat)
  case atStart => exact ⟨0, l.length + 1, [], rfl, by omega, by omega, by simp, Lib.hid rfl, Lib.hid (EOwn.nil _ _), Lib.hid (Below.refl _ _)⟩
  case round =>
    obtain ⟨a, f, xs, rfl, ha, hf, hxs, HE, HO, HB⟩ := hrel
    have hsz := HB.out.size
    cases f with
    | zero => omega
    | succ f =>
    obtain ⟨adx, capx, rfl, hxc, _⟩ := HO.out.er
    have he := HE.out
    rw [rdE] at he
    have emp : ((xs.length : Int) == 0) = xs.isEmpty := by cases xs <;> simp; omega
    clear HE
    by_cases hal : a < l.length
    · have e0 : decide ((a : Int) < (l.length : Int)) = true := by simpa using hal
      have HC := Lib.hid (CN.out wr a HB.out)
      unfold nextT at HC
      cases hn : nxT l (a : Int) with
      | none =>
        rw [hn] at HC
        rw [nextE_no hn] at he
        have HF := Lib.hid he
        clear he hn emp
        go_wp2_with fail
        refine HC.out.mono ?_
        rintro x w2 ⟨V2, rfl, h2, b2⟩
        have HO2 := Lib.hid (HO.out.below b2)
        have HB2 := Lib.hid (bn HB.out b2)
        clear b2 h2
        go_wp2
        go_ret2
        exact ⟨_, xs, by rw [← HF.out]; rfl, by rw [← HF.out]; simp, HO2.out, HB2.out⟩
      | some p =>
        obtain ⟨k, m⟩ := p
        rw [hn] at HC
        have hne := nextE_ref (n := n) hn
        obtain ⟨ok2, len2⟩ := nxL_ok HOk.out (a : Int) (some (k, m))
        have HO2 := Lib.hid ok2
        have hl2 : (nxL l (a : Int) (some (k, m))).length ≤ 1000000 := by omega
        simp only [nxK, nxE, Option.isSome] at HC
        have hE : (a : Int) + ((m : Int) + 12) ≤ (l.length : Int) := by
          unfold nxT at hn
          split at hn
          · have := (fsT_len hn).1
            rw [List.length_drop, Int.toNat_natCast] at this
            omega
          · cases hn
        clear ok2 len2 hn
        generalize nxL l (a : Int) (some (k, m)) = L2 at HC HO2 hl2 hne
        obtain ⟨F, hF⟩ : ∃ F : Nat, (a : Int) + ((m : Int) + 12) = (F : Int) := ⟨a + (m + 12), by omega⟩
        have hF1 : a + 12 ≤ F := by omega
        have hF2 : F ≤ l.length := by omega
        rw [hF] at hne HC
        clear hE hF
        cases hr : refE k L2 n with
        | none =>
          rw [hr] at hne
          rw [hne] at he
          clear hne emp
          have HF := Lib.hid he
          clear he
          go_wp2_with fail
          refine HC.out.mono ?_
          rintro x w2 ⟨V2, rfl, h2, b2⟩
          obtain ⟨ad2, cap2, rfl, _⟩ := h2.nl.form
          have CE := Lib.hid (entry_c k L2 _ n w2 h2.bc HO2.out hl2 (HT.out.below (bn HB.out b2)))
          have HBw2 := Lib.hid b2
          clear b2 h2
          unfold entT at CE
          rw [hr] at CE
          go_wp2_with fail
          refine CE.out.mono ?_
          rintro x w3 ⟨d, A, B, rfl, hd, hA2, hB2, hap, b3⟩
          obtain ⟨adA, capA, rfl, _⟩ := hA2.nl.form
          obtain ⟨adB, capB, rfl, _⟩ := hB2.nl.form
          have HB2 := Lib.hid (bn (bn HB.out (bn HBw2.out b3)) (alloc_below _ (.cells #[.int .i64 d.k, .slice adA d.v.length capA, .slice adB d.w.length capB, .int .i64 d.r.o, .int .i64 d.r.s, .int .i64 d.r.w, .int .i64 d.r.c, .string d.r.t] 30)))
          have HO3 := Lib.hid ((HO.out.below (bn HBw2.out b3)).below (alloc_below _ (.cells #[.int .i64 d.k, .slice adA d.v.length capA, .slice adB d.w.length capB, .int .i64 d.r.o, .int .i64 d.r.s, .int .i64 d.r.w, .int .i64 d.r.c, .string d.r.t] 30)))
          clear hA2 hB2 b3 hap hd CE HBw2
          go_wp2
          go_ret2
          exact ⟨_, xs, by rw [← HF.out]; rfl, by rw [← HF.out]; simp, HO3.out, HB2.out⟩
        | some e =>
          rw [hr] at hne
          rw [hne] at he
          simp only [Option.map_some, Int.toNat_natCast] at he
          have hek := refE_kind hr
          rw [hek] at he
          have HEK := Lib.hid hek
          clear hne hek
          cases hI : xs.isEmpty with
          | true =>
            cases hK : (k == 1) with
            | true =>
              rw [hI, hK, if_pos rfl] at he
              rw [hI] at emp
              have HF := Lib.hid he
              clear he hI
              go_wp2_with fail
              refine HC.out.mono ?_
              rintro x w2 ⟨V2, rfl, h2, b2⟩
              obtain ⟨ad2, cap2, rfl, _⟩ := h2.nl.form
              have CE := Lib.hid (entry_c k L2 _ n w2 h2.bc HO2.out hl2 (HT.out.below (bn HB.out b2)))
              have HBw2 := Lib.hid b2
              clear b2 h2
              unfold entT at CE
              rw [hr] at CE
              go_wp2_with fail
              refine CE.out.mono ?_
              rintro x w3 ⟨d, A, B, rfl, hd, hA2, hB2, hap, b3⟩
              obtain rfl := hd e rfl
              have HA2 := Lib.hid (hA2.mono HBw2.out.size)
              have HB2' := Lib.hid (hB2.mono HBw2.out.size)
              have HAP := Lib.hid hap
              obtain ⟨adA, capA, rfl, _⟩ := hA2.nl.form
              obtain ⟨adB, capB, rfl, _⟩ := hB2.nl.form
              have HB2 := Lib.hid (bn HBw2.out b3)
              have hz2 := HB2.out.size
              have hr2 := Lib.hid (World.ownsRow.alloc (World.ownsRow.alloc (HO.out.below HB2.out).row (.cells #[.int .i64 d.k, .slice adA d.v.length capA, .slice adB d.w.length capB, .int .i64 d.r.o, .int .i64 d.r.s, .int .i64 d.r.w, .int .i64 d.r.c, .string d.r.t] 30)) (.cells #[.int .i64 d.k, .slice adA d.v.length capA, .slice adB d.w.length capB, .int .i64 d.r.o, .int .i64 d.r.s, .int .i64 d.r.w, .int .i64 d.r.c, .string d.r.t] 30))
              clear hA2 hB2 b3 hap hd CE HBw2
              go_wp2_with (at_builtin; refine wpList_append_own _ rfl _ _ 47 rfl w.heap.size 30 i0 _ 8 104 Tryd.underlying47 HI.out HZ0.out HZ1.out HZ2.out rfl (by decide) _ _ _ rfl hr2.out ⟨w3.heap.size + 1, 0, none⟩ 1 1 (cs8 [⟨d, .slice adA d.v.length capA, .slice adB d.w.length capB⟩]) rfl rfl (by exact cells_one_new _ _ (by simp) ⟨d, .slice adA d.v.length capA, .slice adB d.w.length capB⟩ _) (cs8_slices _ _ _ _ _ _ _) (by unfold maxLen; omega) (by omega) (by simp; omega) ?_; intro v' w4 hown3 hgrow3 hnil3)
              go_roundw
              case rel => exact ⟨F, f, xs ++ [⟨d, .slice adA d.v.length capA, .slice adB d.w.length capB⟩], rfl, by omega, by omega, by simp; omega, Lib.hid (by
                  rw [← HF.out, isE_push]
                  simp), Lib.hid (EOwn.push HO.out ⟨d, _, _⟩ (bn (bn HB2.out (alloc_below _ _)) (alloc_below _ _)) (by omega) ((HA2.out.below (alloc_below _ _)).below (alloc_below _ _)) ((HB2'.out.below (alloc_below _ _)).below (alloc_below _ _)) HAP.out hown3 hgrow3), Lib.hid ((bn (bn (bn HB.out HB2.out) (alloc_below _ _)) (alloc_below _ _)).trans (below_of_grown hgrow3 (by simp; omega) (fun g hg => (World.ownsRow.lt hr2.out g hg).1)))⟩
              case measure => simp [RowKit.intOf]; omega
            | false =>
              rw [hI, hK, if_neg (by decide)] at he
              rw [hI] at emp
              clear hI
              have HF := Lib.hid he
              clear he
              go_wp2_with fail
              refine HC.out.mono ?_
              rintro x w2 ⟨V2, rfl, h2, b2⟩
              obtain ⟨ad2, cap2, rfl, _⟩ := h2.nl.form
              have CE := Lib.hid (entry_c k L2 _ n w2 h2.bc HO2.out hl2 (HT.out.below (bn HB.out b2)))
              have HBw2 := Lib.hid b2
              clear b2 h2
              unfold entT at CE
              rw [hr] at CE
              go_wp2_with fail
              refine CE.out.mono ?_
              rintro x w3 ⟨d, A, B, rfl, hd, hA2, hB2, hap, b3⟩
              obtain ⟨adA, capA, rfl, _⟩ := hA2.nl.form
              obtain ⟨adB, capB, rfl, _⟩ := hB2.nl.form
              have HB2 := Lib.hid (bn (bn HB.out (bn HBw2.out b3)) (alloc_below _ (.cells #[.int .i64 d.k, .slice adA d.v.length capA, .slice adB d.w.length capB, .int .i64 d.r.o, .int .i64 d.r.s, .int .i64 d.r.w, .int .i64 d.r.c, .string d.r.t] 30)))
              have HO3 := Lib.hid ((HO.out.below (bn HBw2.out b3)).below (alloc_below _ (.cells #[.int .i64 d.k, .slice adA d.v.length capA, .slice adB d.w.length capB, .int .i64 d.r.o, .int .i64 d.r.s, .int .i64 d.r.w, .int .i64 d.r.c, .string d.r.t] 30)))
              clear hA2 hB2 b3 hap hd CE HBw2
              go_wp2
              go_ret2
              exact ⟨_, xs, by rw [← HF.out]; rfl, by rw [← HF.out]; simp, HO3.out, HB2.out⟩
          | false =>
            cases hK : (k == 1) with
            | true =>
              rw [hI, hK, if_neg (by decide)] at he
              rw [hI] at emp
              clear hI
              have HF := Lib.hid he
              clear he
              go_wp2_with fail
              refine HC.out.mono ?_
              rintro x w2 ⟨V2, rfl, h2, b2⟩
              obtain ⟨ad2, cap2, rfl, _⟩ := h2.nl.form
              have CE := Lib.hid (entry_c k L2 _ n w2 h2.bc HO2.out hl2 (HT.out.below (bn HB.out b2)))
              have HBw2 := Lib.hid b2
              clear b2 h2
              unfold entT at CE
              rw [hr] at CE
              go_wp2_with fail
              refine CE.out.mono ?_
              rintro x w3 ⟨d, A, B, rfl, hd, hA2, hB2, hap, b3⟩
              obtain ⟨adA, capA, rfl, _⟩ := hA2.nl.form
              obtain ⟨adB, capB, rfl, _⟩ := hB2.nl.form
              have HB2 := Lib.hid (bn (bn HB.out (bn HBw2.out b3)) (alloc_below _ (.cells #[.int .i64 d.k, .slice adA d.v.length capA, .slice adB d.w.length capB, .int .i64 d.r.o, .int .i64 d.r.s, .int .i64 d.r.w, .int .i64 d.r.c, .string d.r.t] 30)))
              have HO3 := Lib.hid ((HO.out.below (bn HBw2.out b3)).below (alloc_below _ (.cells #[.int .i64 d.k, .slice adA d.v.length capA, .slice adB d.w.length capB, .int .i64 d.r.o, .int .i64 d.r.s, .int .i64 d.r.w, .int .i64 d.r.c, .string d.r.t] 30)))
              clear hA2 hB2 b3 hap hd CE HBw2
              go_wp2
              go_ret2
              exact ⟨_, xs, by rw [← HF.out]; rfl, by rw [← HF.out]; simp, HO3.out, HB2.out⟩
            | false =>
              rw [hI, hK, if_pos rfl] at he
              rw [hI] at emp
              have HF := Lib.hid he
              clear he hI
              go_wp2_with fail
              refine HC.out.mono ?_
              rintro x w2 ⟨V2, rfl, h2, b2⟩
              obtain ⟨ad2, cap2, rfl, _⟩ := h2.nl.form
              have CE := Lib.hid (entry_c k L2 _ n w2 h2.bc HO2.out hl2 (HT.out.below (bn HB.out b2)))
              have HBw2 := Lib.hid b2
              clear b2 h2
              unfold entT at CE
              rw [hr] at CE
              go_wp2_with fail
              refine CE.out.mono ?_
              rintro x w3 ⟨d, A, B, rfl, hd, hA2, hB2, hap, b3⟩
              obtain rfl := hd e rfl
              have HA2 := Lib.hid (hA2.mono HBw2.out.size)
              have HB2' := Lib.hid (hB2.mono HBw2.out.size)
              have HAP := Lib.hid hap
              obtain ⟨adA, capA, rfl, _⟩ := hA2.nl.form
              obtain ⟨adB, capB, rfl, _⟩ := hB2.nl.form
              have HB2 := Lib.hid (bn HBw2.out b3)
              have hz2 := HB2.out.size
              have hr2 := Lib.hid (World.ownsRow.alloc (World.ownsRow.alloc (HO.out.below HB2.out).row (.cells #[.int .i64 d.k, .slice adA d.v.length capA, .slice adB d.w.length capB, .int .i64 d.r.o, .int .i64 d.r.s, .int .i64 d.r.w, .int .i64 d.r.c, .string d.r.t] 30)) (.cells #[.int .i64 d.k, .slice adA d.v.length capA, .slice adB d.w.length capB, .int .i64 d.r.o, .int .i64 d.r.s, .int .i64 d.r.w, .int .i64 d.r.c, .string d.r.t] 30))
              clear hA2 hB2 b3 hap hd CE HBw2
              go_wp2_with (at_builtin; refine wpList_append_own _ rfl _ _ 47 rfl w.heap.size 30 i0 _ 8 104 Tryd.underlying47 HI.out HZ0.out HZ1.out HZ2.out rfl (by decide) _ _ _ rfl hr2.out ⟨w3.heap.size + 1, 0, none⟩ 1 1 (cs8 [⟨d, .slice adA d.v.length capA, .slice adB d.w.length capB⟩]) rfl rfl (by exact cells_one_new _ _ (by simp) ⟨d, .slice adA d.v.length capA, .slice adB d.w.length capB⟩ _) (cs8_slices _ _ _ _ _ _ _) (by unfold maxLen; omega) (by omega) (by simp; omega) ?_; intro v' w4 hown3 hgrow3 hnil3)
              go_roundw
              case rel => exact ⟨F, f, xs ++ [⟨d, .slice adA d.v.length capA, .slice adB d.w.length capB⟩], rfl, by omega, by omega, by simp; omega, Lib.hid (by
                  rw [← HF.out, isE_push]
                  simp), Lib.hid (EOwn.push HO.out ⟨d, _, _⟩ (bn (bn HB2.out (alloc_below _ _)) (alloc_below _ _)) (by omega) ((HA2.out.below (alloc_below _ _)).below (alloc_below _ _)) ((HB2'.out.below (alloc_below _ _)).below (alloc_below _ _)) HAP.out hown3 hgrow3), Lib.hid ((bn (bn (bn HB.out HB2.out) (alloc_below _ _)) (alloc_below _ _)).trans (below_of_grown hgrow3 (by simp; omega) (fun g hg => (World.ownsRow.lt hr2.out g hg).1)))⟩
              case measure => simp [RowKit.intOf]; omega
    · have e0 : decide ((a : Int) < (l.length : Int)) = false := by simpa using hal
      have hnn : nxT l (a : Int) = none := by
        unfold nxT
        rw [if_pos ⟨by omega, by omega⟩, Int.toNat_natCast, List.drop_eq_nil_of_le (by omega)]
        rfl
      rw [nextE_no hnn] at he
      have HF := Lib.hid he
      clear he hnn emp
      go_wp2
      go_ret2
      exact ⟨_, xs, by rw [← HF.out]; rfl, by rw [← HF.out]; simp, HO.out, HB.out⟩
end Go.Proofs.YtcnpckdchjjeoaaDoor
