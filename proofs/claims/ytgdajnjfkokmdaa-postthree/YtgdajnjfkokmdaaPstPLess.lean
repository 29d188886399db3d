/-
  Less of the program, by contract.
-/
import Derived.Test.YtgdajnjfkokmdaaPstKeyMap
import Derived.Test.YtgdajnjfkokmdaaPstLess
namespace Go.Proofs.Ytgdajnjfkokmdaa
open Go.RowKit Go.Lib Go.Maps
set_option maxRecDepth 100000

set_option maxHeartbeats 8000000 in
theorem pless_c (all some : List Ky) (v1 v2 : Value) (w : World) (h1 : KRd w v1 all) (h2 : KRd w v2 some) (hn1 : all.length ≤ 10000) (hn2 : some.length ≤ 10000) (o1 : ∀ k ∈ all, okKy k) (o2 : ∀ k ∈ some, okKy k) :
    Calls Try.prog 22 #[v1, v2] w (keysT (lessK all some) w) := by
  obtain ⟨ad1, cap1, rfl, _, k1⟩ := h1
  obtain ⟨ad2, cap2, rfl, _, k2⟩ := h2
  have H1 := Lib.hid k1
  have H2 := Lib.hid k2
  have O1 := Lib.hid o1
  have O2 := Lib.hid o2
  have hmk := make_run some.length w
  have HM0 : Hid ((w.alloc (.map #[] 0)).ownsMap Try.prog 34 (unitElem (H := Unit)) w.heap.size 0 (.map [])) := Lib.hid (World.ownsMap_made w _ _ _)
  have HB0 : Hid (Below w.heap.size w (w.alloc (.map #[] 0))) := Lib.hid (alloc_below _ _)
  unfold keysT
  clear k1 k2 o1 o2
  go_enter Try.func22, Try.ntmps22
  go_wp2
  go_loopw [18] (fun v18 wr => ∃ (i : Nat) (D : DataW Unit), i ≤ some.length ∧ v18 = .int .i64 (i : Int) ∧ Hid (wr.ownsMap Try.prog 34 unitElem w.heap.size i D) ∧ Hid (HasD D (some.take i)) ∧ Hid (Below w.heap.size w wr)) (fun v18 _ => some.length - (intOf v18).toNat)
  case atStart => exact ⟨0, _, by omega, rfl, HM0, Lib.hid HasD.nil, HB0⟩
  case round =>
    obtain ⟨i, D, hi, rfl, HM, HD, HB⟩ := hrel
    by_cases hp : i < some.length
    · obtain ⟨g2, o2, rfl, c2⟩ := H2.out (by omega)
      obtain ⟨a0, a1⟩ := (c2 i hp).below HB.out
      have hok := O2.out _ (List.getElem_mem hp)
      have hT : some.take (i + 1) = some.take i ++ [some[i]] := List.take_succ_eq_append_getElem hp
      generalize some[i] = k at a0 a1 hok hT
      obtain ⟨kl, hkl⟩ := key_lit k hok
      obtain ⟨ko, ks⟩ := k
      simp only at a0 a1 hkl
      have hgl := World.block_lt_of_cell? _ _ a0
      have HP := Lib.hid hp
      have HKL := Lib.hid hkl
      have HT := Lib.hid hT
      clear c2 hok hT hkl
      go_wp2_with (refine wpList_mapUpdate_own (H := Unit) _ rfl _ _ _ 63 rfl 34 64 lawKey Try.underlying63 unitElem w.heap.size i D rfl (ownsMap_below HM.out (alloc_below _ _)) (by unfold maxLen; omega) _ _ kl rfl rfl HKL.out (.agg []) [] unitElem_mk ?_; intro w5 hown5 hg5)
      have HM5 := Lib.hid hown5
      have HB5 := Lib.hid (HB.out.trans (((alloc_below wr _).mono HB.out.size).trans (below_of_grown hg5 (Nat.le_trans HB.out.size (alloc_below wr _).size) (fun g hg => by cases hg; exact Nat.le_refl _))))
      clear hown5 hg5
      go_roundw
      case rel => exact ⟨i + 1, _, HP.out, by go_num, HM5, Lib.hid (by rw [HT.out]; exact HD.out.put (ko, ks) kl _ HKL.out (HD.out.1.put _ _)), HB5⟩
      case measure => have := HP.out; simp [intOf]; omega
    · have HDD : Hid (HasD D some) := Lib.hid (by have := HD.out; rw [List.take_of_length_le (by omega)] at this; exact this)
      obtain ⟨w0, rfl⟩ : ∃ w0, w0 = wr := ⟨_, rfl⟩
      have HM0' := HM
      have HB0' := HB
      have HIL := Lib.hid hi
      clear HM0 HB0 HD hmk
      go_wp2
      go_loopw [8, 28] (fun v8 v28 wr => ∃ j : Nat, j ≤ all.length ∧ v28 = .int .i64 (j : Int) ∧ Hid (KRow wr w0.heap.size v8 (lessK (all.take j) some)) ∧ Hid (Below w0.heap.size w0 wr)) (fun _ v28 _ => all.length - (intOf v28).toNat)
      case atStart => exact ⟨0, by omega, rfl, Lib.hid (by rw [List.take_zero]; exact KRow.nil _ _), Lib.hid (Below.refl _ _)⟩
      case round =>
        obtain ⟨j, hj, rfl, HR, HB⟩ := hrel
        have HBW := Lib.hid (bn HB0'.out HB.out)
        by_cases hq : j < all.length
        · obtain ⟨g1, o1, rfl, c1⟩ := H1.out (by omega)
          obtain ⟨a0, a1⟩ := (c1 j hq).below HBW.out
          have hok := O1.out _ (List.getElem_mem hq)
          have hT : all.take (j + 1) = all.take j ++ [all[j]] := List.take_succ_eq_append_getElem hq
          generalize all[j] = k at a0 a1 hok hT
          obtain ⟨kl, hkl⟩ := key_lit k hok
          have hhas := HDD.out.2 k kl hkl
          have hls := lessK_snoc (all.take j) k some
          rw [← hT] at hls
          obtain ⟨ko, ks⟩ := k
          simp only at a0 a1 hkl
          have hgl := World.block_lt_of_cell? _ _ a0
          have HQ := Lib.hid hq
          have HKL := Lib.hid hkl
          have HM2 := Lib.hid (ownsMap_below HM0'.out HB.out)
          have HLEN : Hid ((lessK (all.take j) some).length ≤ 10000) := Lib.hid (by
            have h1 := List.length_filter_le (fun k => !some.contains k) (all.take j)
            rw [List.length_take] at h1
            unfold lessK
            omega)
          obtain ⟨L, hL⟩ : ∃ L, L = lessK (all.take j) some := ⟨_, rfl⟩
          rw [← hL] at HR HLEN hls
          generalize hcc : some.contains (ko, ks) = c at hhas hls
          have HHAS := Lib.hid hhas
          have HLS := Lib.hid hls
          clear c1 hok hT hkl hhas hls hcc hL
          have hz63 := Try.zeroValue64
          cases c with
          | true =>
            rw [if_pos rfl] at HLS
            have hal := below_two wr (.cells #[.int .i64 ko, .int .i64 ks] 34) (.cells #[] 64)
            have HAL := Lib.hid hal
            clear hal
            go_wp2_with (refine wpList_lookup_own_unit (H := Unit) _ rfl _ _ 63 rfl 34 64 lawKey Try.underlying63 (Try.zeroValue64 _) w.heap.size i D rfl (ownsMap_below HM2.out (alloc_below _ _)) _ kl rfl HKL.out ?_; rw [HHAS.out])
            go_roundw
            case rel => exact ⟨j + 1, HQ.out, by go_num, Lib.hid (by rw [HLS.out]; exact KRow.below HR.out HAL.out), Lib.hid (bn HB.out HAL.out)⟩
            case measure => have := HQ.out; simp [intOf]; omega
          | false =>
            rw [if_neg (by simp)] at HLS
            have hal := below_two wr (.cells #[.int .i64 ko, .int .i64 ks] 34) (.cells #[] 64)
            obtain ⟨A, C, w1, h1, h2, h3⟩ := (KRow.below HR.out hal).push ko ks (by have := HLEN.out; omega) (Nat.le_trans HB.out.size hal.size) 25 34
            rw [World.size_alloc, World.size_alloc] at h1
            have HR5 := Lib.hid h1
            have HR6 := Lib.hid h2
            have HB7 : Hid (Below w0.heap.size w0 w1) := Lib.hid (HB.out.trans ((hal.mono HB.out.size).trans h3))
            clear h1 h2 h3 hal
            go_wp2_with (first
              | (refine wpList_lookup_own_unit (H := Unit) _ rfl _ _ 63 rfl 34 64 lawKey Try.underlying63 (Try.zeroValue64 _) w.heap.size i D rfl (ownsMap_below HM2.out (alloc_below _ _)) _ kl rfl HKL.out ?_; rw [HHAS.out])
              | (at_builtin; refine wpList_append_run rfl _ _ 25 rfl _ _ HR5.out ?_; clear HR5))
            go_roundw
            case rel => exact ⟨j + 1, HQ.out, by go_num, Lib.hid (by rw [HLS.out]; exact HR6.out), HB7⟩
            case measure => have := HQ.out; simp [intOf]; omega
        · have HE : Hid (lessK (all.take j) some = lessK all some) := Lib.hid (by rw [List.take_of_length_le (show all.length ≤ j by omega)])
          obtain ⟨A, C, ev, _⟩ := own_form HR.out
          rw [ev] at HR
          subst ev
          go_wp2
          go_ret
          exact ⟨_, rfl, by rw [← HE.out]; exact own_mono HR.out HB0'.out.size, HBW.out⟩
end Go.Proofs.Ytgdajnjfkokmdaa
