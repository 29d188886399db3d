/-
  Read, by contract.
-/
import Derived.Test.YtcnpckdchjjeoaaDoorSegNext
import Derived.Test.YtcnpckdchjjeoaaDoorSegRow
namespace Go.Proofs.YtcnpckdchjjeoaaDoor
open Go.RowKit Go.Lib
set_option maxRecDepth 100000

/-- The entries from place a on, and how far they reach; c: they begin with a base. (f: at most so many.) -/
def rdE (l : List Int) (n : Int) : Nat → Nat → Bool → List En × Nat
  | 0, a, _ => ([], a)
  | f + 1, a, c => match nextE l (a : Int) n with
    | none => ([], a)
    | some (e, E) => if c = (e.k == 1) then (e :: (rdE l n f E.toNat false).1, (rdE l n f E.toNat false).2) else ([], a)
def readE (l : List Int) (n : Int) : List En × Nat := rdE l n (l.length + 1) 0 true
theorem nextE_bound {l : List Int} {a : Nat} {n : Int} {e : En} {E : Int} (h : nextE l (a : Int) n = some (e, E)) : (a : Int) + 12 ≤ E ∧ E ≤ (l.length : Int) := by
  unfold nextE at h
  split at h
  · cases h
  · rename_i k m hx
    split at h
    · cases h
    · split at h
      · simp only [Option.some.injEq, Prod.mk.injEq] at h
        obtain ⟨_, rfl⟩ := h
        unfold nxT at hx
        split at hx
        · rename_i hq
          have := (fsT_len hx).1
          rw [List.length_drop, Int.toNat_natCast] at this
          omega
        · cases hx
      · cases h
def readT8 (l : List Int) (n : Int) (w : World) (x : Ending) (w' : World) : Prop :=
  ∃ v xs, x = .returned (.tuple #[v, .int .i64 ((readE l n).2 : Int)]) ∧ xs.map Ev.e = (readE l n).1 ∧ EOwn w' w.heap.size v xs ∧ Below w.heap.size w w'

theorem isE_push (xs : List Ev) (y : Ev) : (xs ++ [y]).isEmpty = false := by cases xs <;> rfl
theorem cells_one_new (w : World) (g : Nat) (hg : g = w.heap.size) (x : Ev) (T : TypeId) : ∀ k u, (cs8 [x])[k]? = some u → (w.alloc (.cells #[.int .i64 x.e.k, x.a, x.b, .int .i64 x.e.r.o, .int .i64 x.e.r.s, .int .i64 x.e.r.w, .int .i64 x.e.r.c, .string x.e.r.t] T)).cell? ((⟨g, 0, none⟩ : Addr).add k) = some u := by
  subst hg
  exact cell_eight_new w _ _ _ _ _ _ _ _ T
theorem cs8_slices (d : En) (ad1 ad2 : Option Addr) (n1 n2 c1 c2 : Nat) : ∀ u ∈ cs8 [⟨d, .slice ad1 n1 c1, .slice ad2 n2 c2⟩], u.oneCell' = true := by
  intro u hu
  simp only [cs8, List.mem_cons, List.not_mem_nil, or_false] at hu
  rcases hu with rfl | rfl | rfl | rfl | rfl | rfl | rfl | rfl <;> rfl
set_option maxHeartbeats 8000000 in
theorem reade_c (l : List Int) (v : Value) (n : Int) (w : World) (h : Bc w v l) (ho : OkB l) (hl : l.length ≤ 1000000) (hT : Tabs w) :
    Calls Tryd.prog 19 #[v, .int .i64 n] w (readT8 l n w) := by
  have CN : Hid (∀ W (a : Nat), Below w.heap.size w W → Calls Tryd.prog 45 #[v, .int .i64 (a : Int), .int .i64 n] W (nexT l (a : Int) n W)) := Lib.hid (fun W a hW => nexte_c l v (a : Int) n W (h.below hW) ho hl (hT.below hW))
  obtain ⟨ad, cap, rfl, hcap⟩ := h.2
  obtain ⟨i0, hi, hz0, hz1, hz2⟩ := info_parts entryInfo
  have HI := Lib.hid hi
  have HZ0 := Lib.hid hz0
  have HZ1 := Lib.hid hz1
  have HZ2 := Lib.hid hz2
  clear h ho hT hi hz0 hz1 hz2
  go_enter Tryd.func19, Tryd.ntmps19
  go_wp2
  go_loopw [6, 7] (fun v6 v7 wr => ∃ (a f : Nat) (xs : List Ev), v7 = .int .i64 (a : Int) ∧ a ≤ l.length ∧ l.length + 1 ≤ f + a ∧ xs.length ≤ a ∧ Hid ((xs.map Ev.e ++ (rdE l n f a xs.isEmpty).1, (rdE l n f a xs.isEmpty).2) = readE l n) ∧ Hid (EOwn wr w.heap.size v6 xs) ∧ Hid (Below w.heap.size w wr)) (fun _ v7 _ => l.length - (RowKit.intOf v7).toNat)
  case atStart => exact ⟨0, l.length + 1, [], rfl, by omega, by omega, by simp, Lib.hid rfl, Lib.hid (EOwn.nil _ _), Lib.hid (Below.refl _ _)⟩
  case round =>
    obtain ⟨a, f, xs, rfl, ha, hf, hxs, HE, HO, HB⟩ := hrel
    have hsz := HB.out.size
    cases f with
    | zero => omega
    | succ f =>
    have HC := Lib.hid (CN.out wr a HB.out)
    unfold nexT at HC
    obtain ⟨adx, capx, rfl, hxc, _⟩ := HO.out.er
    have he := HE.out
    rw [rdE] at he
    have emp : ((xs.length : Int) == 0) = xs.isEmpty := by cases xs <;> simp; omega
    clear HE
    cases hn : nextE l (a : Int) n with
    | none =>
      rw [hn] at HC he
      have HF := Lib.hid he
      clear he hn emp
      generalize xs.isEmpty = I
      go_wp2_with fail
      refine HC.out.mono ?_
      rintro x w2 ⟨d, A, B, E, rfl, _, hA2, hB2, _, b2⟩
      obtain ⟨adA, capA, rfl, _⟩ := hA2.nl.form
      obtain ⟨adB, capB, rfl, _⟩ := hB2.nl.form
      have HO2 := Lib.hid ((HO.out.below b2).below (alloc_below _ (.cells #[.int .i64 d.k, .slice adA d.v.length capA, .slice adB d.w.length capB, .int .i64 d.r.o, .int .i64 d.r.s, .int .i64 d.r.w, .int .i64 d.r.c, .string d.r.t] 30)))
      have HB2 := Lib.hid (bn (bn HB.out b2) (alloc_below _ (.cells #[.int .i64 d.k, .slice adA d.v.length capA, .slice adB d.w.length capB, .int .i64 d.r.o, .int .i64 d.r.s, .int .i64 d.r.w, .int .i64 d.r.c, .string d.r.t] 30)))
      clear hA2 hB2 b2
      go_wp2
      go_ret2
      refine ⟨_, xs, by rw [← HF.out]; rfl, by rw [← HF.out]; simp, HO2.out, HB2.out⟩
    | some p =>
      obtain ⟨e, E⟩ := p
      rw [hn] at HC he
      obtain ⟨hE1, hE2⟩ := nextE_bound hn
      simp only at he
      cases hI : xs.isEmpty with
      | true =>
        cases hK : (e.k == 1) with
        | true =>
          rw [hI, hK, if_pos rfl] at he
          rw [hI] at emp
          have HF := Lib.hid he
          obtain ⟨F, rfl⟩ := Int.eq_ofNat_of_zero_le (show 0 ≤ E by omega)
          clear he hn hI
          go_wp2_with fail
          refine HC.out.mono ?_
          rintro x w2 ⟨d, A, B, E', rfl, hd, hA2, hB2, hap, b2⟩
          obtain ⟨rfl, rfl⟩ := hd e (F : Int) rfl
          have HA2 := Lib.hid hA2
          have HB2' := Lib.hid hB2
          have HAP := Lib.hid hap
          obtain ⟨adA, capA, rfl, _⟩ := hA2.nl.form
          obtain ⟨adB, capB, rfl, _⟩ := hB2.nl.form
          have HB2 := Lib.hid b2
          have hz2 := b2.size
          have hr2 := Lib.hid (World.ownsRow.alloc (World.ownsRow.alloc (HO.out.below b2).row (.cells #[.int .i64 d.k, .slice adA d.v.length capA, .slice adB d.w.length capB, .int .i64 d.r.o, .int .i64 d.r.s, .int .i64 d.r.w, .int .i64 d.r.c, .string d.r.t] 30)) (.cells #[.int .i64 d.k, .slice adA d.v.length capA, .slice adB d.w.length capB, .int .i64 d.r.o, .int .i64 d.r.s, .int .i64 d.r.w, .int .i64 d.r.c, .string d.r.t] 30))
          clear hA2 hB2 b2 hap hd
          go_wp2_with (at_builtin; refine wpList_append_own _ rfl _ _ 47 rfl w.heap.size 30 i0 _ 8 104 Tryd.underlying47 HI.out HZ0.out HZ1.out HZ2.out rfl (by decide) _ _ _ rfl hr2.out ⟨w2.heap.size + 1, 0, none⟩ 1 1 (cs8 [⟨d, .slice adA d.v.length capA, .slice adB d.w.length capB⟩]) rfl rfl (by exact cells_one_new _ _ (by simp) ⟨d, .slice adA d.v.length capA, .slice adB d.w.length capB⟩ _) (cs8_slices _ _ _ _ _ _ _) (by unfold maxLen; omega) (by omega) (by simp; omega) ?_; intro v' w3 hown3 hgrow3 hnil3)
          go_roundw
          case rel => exact ⟨F, f, xs ++ [⟨d, .slice adA d.v.length capA, .slice adB d.w.length capB⟩], rfl, by omega, by omega, by simp; omega, Lib.hid (by
              rw [← HF.out, isE_push]
              simp), Lib.hid (EOwn.push HO.out ⟨d, _, _⟩ (bn (bn HB2.out (alloc_below _ _)) (alloc_below _ _)) (by omega) ((HA2.out.below (alloc_below _ _)).below (alloc_below _ _)) ((HB2'.out.below (alloc_below _ _)).below (alloc_below _ _)) HAP.out hown3 hgrow3), Lib.hid ((bn (bn (bn HB.out HB2.out) (alloc_below _ _)) (alloc_below _ _)).trans (below_of_grown hgrow3 (by simp; omega) (fun g hg => (World.ownsRow.lt hr2.out g hg).1)))⟩
          case measure => simp [RowKit.intOf]; omega
        | false =>
          rw [hI, hK, if_neg (by decide)] at he
          rw [hI] at emp
          have HF := Lib.hid he
          clear he hn hI
          go_wp2_with fail
          refine HC.out.mono ?_
          rintro x w2 ⟨d, A, B, E', rfl, hd, hA2, hB2, hap, b2⟩
          obtain ⟨rfl, rfl⟩ := hd e E rfl
          obtain ⟨adA, capA, rfl, _⟩ := hA2.nl.form
          obtain ⟨adB, capB, rfl, _⟩ := hB2.nl.form
          have HO2 := Lib.hid ((HO.out.below b2).below (alloc_below _ (.cells #[.int .i64 d.k, .slice adA d.v.length capA, .slice adB d.w.length capB, .int .i64 d.r.o, .int .i64 d.r.s, .int .i64 d.r.w, .int .i64 d.r.c, .string d.r.t] 30)))
          have HB2 := Lib.hid (bn (bn HB.out b2) (alloc_below _ (.cells #[.int .i64 d.k, .slice adA d.v.length capA, .slice adB d.w.length capB, .int .i64 d.r.o, .int .i64 d.r.s, .int .i64 d.r.w, .int .i64 d.r.c, .string d.r.t] 30)))
          clear hA2 hB2 b2 hap hd
          go_wp2
          go_ret2
          refine ⟨_, xs, by rw [← HF.out]; rfl, by rw [← HF.out]; simp, HO2.out, HB2.out⟩
      | false =>
        cases hK : (e.k == 1) with
        | true =>
          rw [hI, hK, if_neg (by decide)] at he
          rw [hI] at emp
          have HF := Lib.hid he
          clear he hn hI
          go_wp2_with fail
          refine HC.out.mono ?_
          rintro x w2 ⟨d, A, B, E', rfl, hd, hA2, hB2, hap, b2⟩
          obtain ⟨rfl, rfl⟩ := hd e E rfl
          obtain ⟨adA, capA, rfl, _⟩ := hA2.nl.form
          obtain ⟨adB, capB, rfl, _⟩ := hB2.nl.form
          have HO2 := Lib.hid ((HO.out.below b2).below (alloc_below _ (.cells #[.int .i64 d.k, .slice adA d.v.length capA, .slice adB d.w.length capB, .int .i64 d.r.o, .int .i64 d.r.s, .int .i64 d.r.w, .int .i64 d.r.c, .string d.r.t] 30)))
          have HB2 := Lib.hid (bn (bn HB.out b2) (alloc_below _ (.cells #[.int .i64 d.k, .slice adA d.v.length capA, .slice adB d.w.length capB, .int .i64 d.r.o, .int .i64 d.r.s, .int .i64 d.r.w, .int .i64 d.r.c, .string d.r.t] 30)))
          clear hA2 hB2 b2 hap hd
          go_wp2
          go_ret2
          refine ⟨_, xs, by rw [← HF.out]; rfl, by rw [← HF.out]; simp, HO2.out, HB2.out⟩
        | false =>
          rw [hI, hK, if_pos rfl] at he
          rw [hI] at emp
          have HF := Lib.hid he
          obtain ⟨F, rfl⟩ := Int.eq_ofNat_of_zero_le (show 0 ≤ E by omega)
          clear he hn hI
          go_wp2_with fail
          refine HC.out.mono ?_
          rintro x w2 ⟨d, A, B, E', rfl, hd, hA2, hB2, hap, b2⟩
          obtain ⟨rfl, rfl⟩ := hd e (F : Int) rfl
          have HA2 := Lib.hid hA2
          have HB2' := Lib.hid hB2
          have HAP := Lib.hid hap
          obtain ⟨adA, capA, rfl, _⟩ := hA2.nl.form
          obtain ⟨adB, capB, rfl, _⟩ := hB2.nl.form
          have HB2 := Lib.hid b2
          have hz2 := b2.size
          have hr2 := Lib.hid (World.ownsRow.alloc (World.ownsRow.alloc (HO.out.below b2).row (.cells #[.int .i64 d.k, .slice adA d.v.length capA, .slice adB d.w.length capB, .int .i64 d.r.o, .int .i64 d.r.s, .int .i64 d.r.w, .int .i64 d.r.c, .string d.r.t] 30)) (.cells #[.int .i64 d.k, .slice adA d.v.length capA, .slice adB d.w.length capB, .int .i64 d.r.o, .int .i64 d.r.s, .int .i64 d.r.w, .int .i64 d.r.c, .string d.r.t] 30))
          clear hA2 hB2 b2 hap hd
          go_wp2_with (at_builtin; refine wpList_append_own _ rfl _ _ 47 rfl w.heap.size 30 i0 _ 8 104 Tryd.underlying47 HI.out HZ0.out HZ1.out HZ2.out rfl (by decide) _ _ _ rfl hr2.out ⟨w2.heap.size + 1, 0, none⟩ 1 1 (cs8 [⟨d, .slice adA d.v.length capA, .slice adB d.w.length capB⟩]) rfl rfl (by exact cells_one_new _ _ (by simp) ⟨d, .slice adA d.v.length capA, .slice adB d.w.length capB⟩ _) (cs8_slices _ _ _ _ _ _ _) (by unfold maxLen; omega) (by omega) (by simp; omega) ?_; intro v' w3 hown3 hgrow3 hnil3)
          go_roundw
          case rel => exact ⟨F, f, xs ++ [⟨d, .slice adA d.v.length capA, .slice adB d.w.length capB⟩], rfl, by omega, by omega, by simp; omega, Lib.hid (by
              rw [← HF.out, isE_push]
              simp), Lib.hid (EOwn.push HO.out ⟨d, _, _⟩ (bn (bn HB2.out (alloc_below _ _)) (alloc_below _ _)) (by omega) ((HA2.out.below (alloc_below _ _)).below (alloc_below _ _)) ((HB2'.out.below (alloc_below _ _)).below (alloc_below _ _)) HAP.out hown3 hgrow3), Lib.hid ((bn (bn (bn HB.out HB2.out) (alloc_below _ _)) (alloc_below _ _)).trans (below_of_grown hgrow3 (by simp; omega) (fun g hg => (World.ownsRow.lt hr2.out g hg).1)))⟩
          case measure => simp [RowKit.intOf]; omega
end Go.Proofs.YtcnpckdchjjeoaaDoor
