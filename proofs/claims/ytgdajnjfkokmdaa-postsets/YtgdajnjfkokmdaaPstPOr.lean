/-
  Or of the program, by contract.
-/
import Derived.Test.YtgdajnjfkokmdaaPstCompC
import Derived.Test.YtgdajnjfkokmdaaPstPKeys
import Derived.Test.YtgdajnjfkokmdaaPstPAll
import Derived.Test.YtgdajnjfkokmdaaPstNew
namespace Go.Proofs.Ytgdajnjfkokmdaa
open Go.RowKit Go.Lib
set_option maxRecDepth 100000

theorem cF_mem : ∀ (r : List Ky) (a x : Ky), x ∈ a :: cF a r ↔ x ∈ a :: r
  | [], a, x => Iff.rfl
  | b :: r, a, x => by
    have ih1 := cF_mem r a x
    have ih2 := cF_mem r b x
    rw [cF]
    split
    · rename_i e
      subst e
      rw [ih1]
      simp
    · rw [List.mem_cons, ih2, List.mem_cons (a := x) (b := a)]
theorem cmpct_mem (l : List Ky) (x : Ky) : x ∈ cmpct l ↔ x ∈ l := by
  cases l with
  | nil => exact Iff.rfl
  | cons a r => exact cF_mem r a x
theorem cF_rise : ∀ (r : List Ky) (a : Ky), (a :: r).Pairwise (fun x y => kLt y x = false) → Rise (a :: cF a r)
  | [], a, _ => List.pairwise_singleton _ _
  | b :: r, a, h => by
    obtain ⟨h1, h2⟩ := List.pairwise_cons.1 h
    rw [cF]
    split
    · rename_i e
      subst e
      exact cF_rise r b h2
    · rename_i hne
      have ih := cF_rise r b h2
      have hab : kLt a b = true := by
        rcases kLt_tri a b with k | k | k
        · exact k
        · exact absurd k.symm hne
        · rw [h1 b (by simp)] at k; cases k
      refine List.pairwise_cons.2 ⟨fun z hz => ?_, ih⟩
      rcases List.mem_cons.1 hz with rfl | hz
      · exact hab
      · exact kLt_trans hab (ih.head z hz)
theorem cmpct_rise {l : List Ky} (h : l.Pairwise fun x y => kLt y x = false) : Rise (cmpct l) := by
  cases l with
  | nil => exact List.Pairwise.nil
  | cons a r => exact cF_rise r a h
theorem or_sorted {ls : List Lv} (h : allMay (pls ls) = true) : cmpct (srtK (kysOf ls)) = orK (pls ls) := by
  rw [orK_yes h]
  refine Rise.ext (cmpct_rise (srtK_pair _)) (fold_rise _ List.Pairwise.nil) (fun k => ?_)
  rw [cmpct_mem, (srtK_perm _).mem_iff, fold_mem]
  simp only [List.not_mem_nil, false_or]
  exact Iff.rfl
set_option maxHeartbeats 4000000 in
theorem por_c : lsC 11 orK := by
  intro ls v w h hs _
  have HM1 : Hid (∀ y ∈ ls, y.l.length ≤ 1000000 ∧ ∀ x ∈ y.l, x.ns.length ≤ 1000000) := Lib.hid (fun y hy => ⟨by have := (hs.2 y hy).1; omega, fun x hx => by have := (hs.2 y hy).2 x hx; omega⟩)
  have hl6 := hs.1
  have HS := Lib.hid hs
  have CM := Lib.hid (pall_c ls _ w h (by omega) HM1.out)
  have HL := Lib.hid h
  obtain ⟨⟨ad, cap, rfl, _, _⟩, _⟩ := h
  unfold keysT
  cases hmay : allMay (pls ls) with
  | false =>
    rw [hmay] at CM
    have HE : Hid (orK (pls ls) = []) := Lib.hid (orK_no hmay)
    clear hmay
    go_enter Try.func11, Try.ntmps11
    go_wp2_with fail
    refine CM.out.mono ?_
    rintro e w2 ⟨rfl, b2⟩
    have HB2 := Lib.hid b2
    clear b2 CM
    go_wp2
    go_ret
    exact ⟨_, rfl, by rw [HE.out]; exact KRow.nil _ _, HB2.out⟩
  | true =>
    rw [hmay] at CM
    have HE := Lib.hid (or_sorted hmay)
    have HLEN : Hid ((kysOf ls).length ≤ 10000) := Lib.hid (by
      have h1 := kysOf_len ls 40 (fun y hy => (HS.out.2 y hy).1)
      omega)
    clear hmay
    go_enter Try.func11, Try.ntmps11
    go_wp2_with fail
    refine CM.out.mono ?_
    rintro e w2 ⟨rfl, b2⟩
    have HB2 := Lib.hid b2
    have CK := Lib.hid (pkeys_c ls _ w2 (HL.out.below b2) (by omega) (fun y hy => by have := (HS.out.2 y hy).1; omega))
    unfold keysR at CK
    clear b2 CM
    go_wp2_with fail
    refine CK.out.mono ?_
    rintro e w3 ⟨v3, rfl, hr3, b3⟩
    obtain ⟨A3, C3, ek, _⟩ := own_form hr3
    subst ek
    have HB3 := Lib.hid (bn HB2.out b3)
    have HR3 := Lib.hid (own_mono hr3 HB2.out.size)
    have CB := Lib.hid (by_g w3)
    clear hr3 b3 CK
    go_wp2_with fail
    refine CB.out.mono ?_
    rintro e w31 ⟨rfl, hw31⟩
    have HR31 : Hid (KRow w31 w.heap.size (.slice A3 (kysOf ls).length C3) (kysOf ls)) := Lib.hid (by rw [hw31]; exact World.ownsRow.alloc HR3.out _)
    have HB31 : Hid (Below w.heap.size w w31) := Lib.hid (by rw [hw31]; exact HB3.out.trans ((alloc_below w3 _).mono HB3.out.size))
    have CS := Lib.hid (sortf_c w3.heap.size _ _ w31 w.heap.size HR31.out (by have := HLEN.out; omega) (by_box hw31) (fun g hg => by have := (World.ownsRow.lt HR3.out g hg).2; omega))
    clear hw31 CB
    go_wp2_with fail
    refine CS.out.mono ?_
    rintro e w4 ⟨rfl, hr4, g4⟩
    have HO : Hid (∀ g, (Value.slice A3 (kysOf ls).length C3).ownBlock = some g → w.heap.size ≤ g) := Lib.hid (fun g hg => (World.ownsRow.lt HR3.out g hg).1)
    have HB4 := Lib.hid (HB31.out.trans (below_of_grown g4 HB31.out.size (fun g hg => HO.out g hg)))
    have CC := Lib.hid (compact_c _ _ w4 w.heap.size hr4 (by rw [srtK_len]; have := HLEN.out; omega))
    rw [HE.out] at CC
    clear hr4 g4 CS
    go_wp2_with fail
    refine CC.out.mono ?_
    rintro e w5 ⟨v5, rfl, hr5, g5⟩
    obtain ⟨A5, C5, ek, _⟩ := own_form hr5
    subst ek
    have HR5 := Lib.hid hr5
    have HB5 := Lib.hid (HB4.out.trans (below_of_grown g5 HB4.out.size (fun g hg => HO.out g hg)))
    clear hr5 g5 CC
    go_wp2
    go_ret
    exact ⟨_, rfl, HR5.out, HB5.out⟩
end Go.Proofs.Ytgdajnjfkokmdaa
