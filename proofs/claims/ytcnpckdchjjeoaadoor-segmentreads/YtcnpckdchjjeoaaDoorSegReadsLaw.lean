/-
  SegmentReads, by contract.
-/
import Derived.Test.YtcnpckdchjjeoaaDoorSegAwake
import Derived.Test.YtcnpckdchjjeoaaDoorSegRefRead
import Derived.Test.YtcnpckdchjjeoaaDoorSegSame
import Derived.Test.YtcnpckdchjjeoaaDoorSegOver
namespace Go.Proofs.YtcnpckdchjjeoaaDoor
open Go.RowKit Go.Lib
set_option maxRecDepth 100000

theorem rdE_may (l : List Int) (n : Int) : ∀ (f a : Nat) (c : Bool), (∀ e ∈ (rdE l n f a c).1, mayE e n = true) ∧ (rdE l n f a c).1.length ≤ f
  | 0, a, c => ⟨(fun e he => by cases he), Nat.le_refl _⟩
  | f + 1, a, c => by
    rw [rdE]
    split
    · exact ⟨(fun e he => by cases he), Nat.zero_le _⟩
    · rename_i d E hd
      split
      · have ih := rdE_may l n f E.toNat false
        refine ⟨fun e he => ?_, by simp; exact ih.2⟩
        rcases List.mem_cons.1 he with rfl | he
        · unfold nextE at hd
          split at hd
          · cases hd
          · split at hd
            · cases hd
            · split at hd
              · rename_i hm
                simp only [Option.some.injEq, Prod.mk.injEq] at hd
                rw [← hd.1]
                exact hm
              · cases hd
        · exact ih.1 e he
      · exact ⟨(fun e he => by cases he), Nat.zero_le _⟩
theorem mayE_lens {e : En} {n : Int} (h : mayE e n = true) : e.v.length ≤ 8 ∧ e.w.length ≤ 8 := by
  have := someE_len (mayE_some h)
  exact ⟨this.1, this.2.1⟩
theorem read_bounds {l : List Int} {n : Int} {xs : List Ev} (h : xs.map Ev.e = (readE l n).1) : xs.length ≤ l.length + 1 ∧ ∀ x ∈ xs, x.e.v.length ≤ 1000000 ∧ x.e.w.length ≤ 1000000 := by
  obtain ⟨h1, h2⟩ := rdE_may l n (l.length + 1) 0 true
  refine ⟨by have := congrArg List.length h; rw [List.length_map] at this; rw [this]; exact h2, fun x hx => ?_⟩
  have hm : x.e ∈ (readE l n).1 := by rw [← h]; exact List.mem_map_of_mem hx
  have := mayE_lens (h1 _ hm)
  omega

set_option maxHeartbeats 4000000 in
theorem reads_law (l : List Int) (v : Value) (n : Int) (w : World) (h : Bc w v l) (ho : OkB l) (hT : Tabs w) :
    Calls Tryd.prog 4 #[v, .int .i64 n] w fun x w' => x = .returned (.bool true) ∧ Below w.heap.size w w' := by
  have HT := Lib.hid hT
  have H := Lib.hid h
  have HO := Lib.hid ho
  obtain ⟨ad, cap, rfl, hcap⟩ := h.2
  clear h ho hT
  by_cases hl : l.length ≤ 2000
  · have e0 : decide ((2000 : Int) < (l.length : Int)) = false := by simp; omega
    have CL := Lib.hid (blend_c l _ w H.out.1 (by omega))
    go_enter Tryd.func4, Tryd.ntmps4
    go_wp2_with fail
    refine CL.out.mono ?_
    rintro x w1 ⟨g, rfl, hL, hg, b1⟩
    have HL := Lib.hid hL
    have HB1 := Lib.hid b1
    have hgl := hL.lt
    clear hL b1 CL
    have CR := Lib.hid (reade_c l (.slice (some ⟨g, 0, none⟩) l.length (l.length + 3)) n w1 ⟨HL.out.nl, _, _, rfl, by omega⟩ HO.out (by omega) (HT.out.below HB1.out))
    go_wp2_with fail
    refine CR.out.mono ?_
    rintro x w2 ⟨v2, xs, rfl, hxs, h2, b2⟩
    obtain ⟨q1, q2⟩ := read_bounds hxs
    have HX := Lib.hid hxs
    have HE2 := Lib.hid h2
    have HQ2 := Lib.hid q2
    have HB2 := Lib.hid b2
    have hB12 := Lib.hid (bn HB1.out b2)
    obtain ⟨adx, capx, rfl, _, _⟩ := h2.er
    clear h2 b2 CR hxs q2
    have CR2 := Lib.hid (refreade_c l (.slice ad l.length cap) n w2 (H.out.below hB12.out) HO.out (by omega) (HT.out.below hB12.out))
    generalize hk : ((readE l n).2 : Int) = K at CR2
    unfold readT8 at CR2
    rw [hk] at CR2
    go_wp2_with fail
    refine CR2.out.mono ?_
    rintro x w3 ⟨v3, ys, rfl, hys, h3, b3⟩
    have HE3 := Lib.hid h3
    obtain ⟨ady, capy, rfl, _, _⟩ := h3.er
    have HB23 := Lib.hid (bn HB2.out b3)
    have HE23 := Lib.hid (HE2.out.below b3)
    have CS := Lib.hid (sames_c xs ys _ _ w3 HE23.out.er HE3.out.er (HX.out.trans hys.symm) (by omega) HQ2.out)
    have eK : (K == K) = true := by simp
    clear h3 b3 CR2 hys
    go_wp2_with fail
    refine CS.out.mono ?_
    rintro x w4 ⟨rfl, b4⟩
    have HB24 := Lib.hid (bn HB23.out b4)
    have HE4 := Lib.hid (HE23.out.below b4)
    have CK : Hid (∀ W, Below w1.heap.size w1 W → Calls Tryd.prog 22 #[.slice (some ⟨g, 0, none⟩) l.length (l.length + 3), .slice ad l.length cap] W fun x w' => x = .returned (.bool true) ∧ Below W.heap.size W w') := Lib.hid (fun W hW => by
      have h5 := bkept_c l l g _ W (HL.out.below hW) ((H.out.below (bn HB1.out hW)).1) (by omega)
      rw [sameB_self] at h5
      exact h5)
    clear b4 CS
    go_wp2_with fail
    refine (CK.out _ HB24.out).mono ?_
    rintro x w5 ⟨rfl, b5⟩
    have HB25 := Lib.hid (bn HB24.out b5)
    have HE5 := Lib.hid (HE4.out.below b5)
    have CO := Lib.hid (overs_c xs _ w5 w1.heap.size HE5.out (by omega) HQ2.out HB25.out.size)
    clear b5
    go_wp2_with fail
    refine CO.out.mono ?_
    rintro x w6 ⟨rfl, b6⟩
    have HB26 := Lib.hid (HB25.out.trans b6)
    clear b6 CO
    go_wp2_with fail
    refine (CK.out _ HB26.out).mono ?_
    rintro x w7 ⟨rfl, b7⟩
    have HB27 := Lib.hid (bn HB1.out (bn HB26.out b7))
    clear b7
    go_wp2_with fail
    refine (awake_c w7 (HT.out.below HB27.out)).mono ?_
    rintro x w8 ⟨rfl, b8⟩
    go_wp2
    go_ret
    exact ⟨rfl, bn HB27.out b8⟩
  · have e0 : decide ((2000 : Int) < (l.length : Int)) = true := by simp; omega
    go_enter Tryd.func4, Tryd.ntmps4
    go_wp2_with fail
    refine (awake_c w HT.out).mono ?_
    rintro x w1 ⟨rfl, b1⟩
    go_wp2
    go_ret
    exact ⟨rfl, b1⟩
end Go.Proofs.YtcnpckdchjjeoaaDoor
