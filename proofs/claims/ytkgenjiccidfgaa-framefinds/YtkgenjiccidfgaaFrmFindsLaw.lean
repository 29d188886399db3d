/-
  FrameFinds: the walk.
-/
import Derived.Test.YtkgenjiccidfgaaFrmAwake
namespace Go.Proofs.Ytkgenjiccidfgaa
open Go.RowKit Go.Lib

theorem nxL_len (l : List Int) (a : Int) (o : Option (Int × Nat)) : (nxL l a o).length ≤ l.length := by
  cases o with
  | none => simp [nxL]
  | some p => obtain ⟨k, n⟩ := p; simp [nxL]; omega
theorem BLent.bc {w : World} {g : Nat} {l : List Int} (h : BLent w g l) : Bc w (.slice (some ⟨g, 0, none⟩) l.length (l.length + 3)) l := ⟨h.nl, _, _, rfl, by omega⟩

set_option maxHeartbeats 8000000 in
theorem finds_c (l : List Int) (v : Value) (a : Int) (w : World) (hv : Bc w v l) (ho : OkB l) (hl : l.length ≤ maxLen) :
    Calls Try.prog 4 #[v, .int .i64 a] w fun e w' => e = .returned (.bool true) ∧ Below w.heap.size w w' := by
  have HV := Lib.hid hv
  obtain ⟨ad, cap, rfl, _⟩ := hv.2
  have HO := Lib.hid ho
  unfold maxLen at hl
  clear hv ho
  by_cases h2 : l.length ≤ 2000
  · have e1 : decide ((2000 : Int) < (l.length : Int)) = false := by simp; omega
    have e2 : decide (2000 < l.length) = false := by simp; omega
    obtain ⟨K, hK⟩ : ∃ K, nxK (nxT l a) = K := ⟨_, rfl⟩
    obtain ⟨E, hE⟩ : ∃ E, nxE a (nxT l a) = E := ⟨_, rfl⟩
    obtain ⟨B, hB⟩ : ∃ B, (nxT l a).isSome = B := ⟨_, rfl⟩
    obtain ⟨L, hL⟩ : ∃ L, nxL l a (nxT l a) = L := ⟨_, rfl⟩
    obtain ⟨P, hP⟩ : ∃ P : Int, ((cnt l).1 : Int) = P := ⟨_, rfl⟩
    obtain ⟨Q, hQ⟩ : ∃ Q : Int, ((cnt l).2 : Int) = Q := ⟨_, rfl⟩
    have HLL : Hid (L.length ≤ 2000) := Lib.hid (by rw [← hL]; have := nxL_len l a (nxT l a); omega)
    have HN : Hid (∀ W v, Bc W v l → Calls Try.prog 14 #[v, .int .i64 a] W fun e w' => ∃ A N C, e = .returned (.tuple #[.int .i64 K, .slice A N C, .int .i64 E, .bool B]) ∧ BRow w' W.heap.size (.slice A N C) L ∧ Below W.heap.size W w') := Lib.hid (fun W v h => by
      refine (next_c l v a W h HO.out (by omega)).mono ?_
      rintro e w' hT
      unfold nextT at hT
      rw [hK, hE, hB, hL] at hT
      obtain ⟨v, rfl, h1, h2⟩ := hT
      obtain ⟨A, C, rfl, _⟩ := h1.nl.form
      exact ⟨A, _, C, rfl, h1, h2⟩)
    have HR : Hid (∀ W v, Bc W v l → Calls Try.prog 15 #[v, .int .i64 a] W fun e w' => ∃ A N C, e = .returned (.tuple #[.int .i64 K, .slice A N C, .int .i64 E, .bool B]) ∧ BRow w' W.heap.size (.slice A N C) L ∧ Below W.heap.size W w') := Lib.hid (fun W v h => by
      refine (rnext_c l v a W h HO.out (by omega)).mono ?_
      rintro e w' hT
      unfold nextT at hT
      rw [hK, hE, hB, hL] at hT
      obtain ⟨v, rfl, h1, h2⟩ := hT
      obtain ⟨A, C, rfl, _⟩ := h1.nl.form
      exact ⟨A, _, C, rfl, h1, h2⟩)
    have HC : Hid (∀ W v, Bc W v l → Calls Try.prog 16 #[v] W fun e w' => e = .returned (.tuple #[.int .i64 P, .int .i64 Q]) ∧ Below W.heap.size W w') := Lib.hid (fun W v h => by
      have := count_c l v W h HO.out (by omega)
      unfold countT at this
      rw [hP, hQ] at this
      exact this)
    have HD : Hid (∀ W v, Bc W v l → Calls Try.prog 17 #[v] W fun e w' => e = .returned (.tuple #[.int .i64 P, .int .i64 Q]) ∧ Below W.heap.size W w') := Lib.hid (fun W v h => by
      have := rcount_c l v W h HO.out (by omega)
      unfold countT at this
      rw [hP, hQ] at this
      exact this)
    clear hK hE hB hL hP hQ
    go_enter Try.func4, Try.ntmps4
    go_wp2_with fail
    refine (blend_c l _ w HV.out.1 (by omega)).mono ?_
    rintro e w1 ⟨g, rfl, h1, hg1, b1⟩
    have H1 := Lib.hid h1
    have HB1 := Lib.hid b1
    have HG := Lib.hid hg1
    clear h1 b1 hg1
    go_wp2_with fail
    refine (HN.out w1 _ H1.out.bc).mono ?_
    rintro e w2 ⟨A2, N2, C2, rfl, h2, b2⟩
    have H2 := Lib.hid h2
    have HB2 : Hid (Below w.heap.size w w2) := Lib.hid (bn HB1.out b2)
    have H12 := Lib.hid (H1.out.below b2)
    have HXG : Hid (∀ q, (Value.slice A2 N2 C2).ownBlock = some q → w1.heap.size ≤ q) := Lib.hid (fun q hq => (World.ownsRow.lt h2 q hq).1)
    have HS1 : Hid (w1.heap.size ≤ w2.heap.size) := Lib.hid b2.size
    clear h2 b2
    go_wp2_with fail
    refine (HR.out w2 _ (HV.out.below HB2.out)).mono ?_
    rintro e w3 ⟨A3, N3, C3, rfl, h3, b3⟩
    have HB3 : Hid (Below w.heap.size w w3) := Lib.hid (bn HB2.out b3)
    have H13 := Lib.hid (H12.out.below b3)
    have H23 := Lib.hid (H2.out.below b3)
    have H3 := Lib.hid h3
    have HS2 : Hid (w1.heap.size ≤ w3.heap.size) := Lib.hid (Nat.le_trans HS1.out b3.size)
    clear h3 b3 HB2 H12 H2 HS1
    go_wp2_with fail
    refine (HC.out w3 _ H13.out.bc).mono ?_
    rintro e w4 ⟨rfl, b4⟩
    have HB4 : Hid (Below w.heap.size w w4) := Lib.hid (bn HB3.out b4)
    have H14 := Lib.hid (H13.out.below b4)
    have H24 := Lib.hid (H23.out.below b4)
    have H34 := Lib.hid (H3.out.below b4)
    have HS3 : Hid (w1.heap.size ≤ w4.heap.size) := Lib.hid (Nat.le_trans HS2.out b4.size)
    clear b4 HB3 H13 H23 H3 HS2
    go_wp2_with fail
    refine (HD.out w4 _ (HV.out.below HB4.out)).mono ?_
    rintro e w5 ⟨rfl, b5⟩
    have HB5 : Hid (Below w.heap.size w w5) := Lib.hid (bn HB4.out b5)
    have H15 := Lib.hid (H14.out.below b5)
    have H25 := Lib.hid (H24.out.below b5)
    have H35 := Lib.hid (H34.out.below b5)
    have HS4 : Hid (w1.heap.size ≤ w5.heap.size) := Lib.hid (Nat.le_trans HS3.out b5.size)
    clear b5 HB4 H14 H24 H34 HS3
    have HSM := Lib.hid (bsame_c L L _ _ w5 H25.out.nl H35.out.nl (by have := HLL.out; omega))
    rw [sameB_self] at HSM
    go_wp2_with fail
    refine HSM.out.mono ?_
    rintro e w6 ⟨rfl, b6⟩
    have HB6 : Hid (Below w.heap.size w w6) := Lib.hid (bn HB5.out b6)
    have H16 := Lib.hid (H15.out.below b6)
    have H26 := Lib.hid (H25.out.below b6)
    have HS5 : Hid (w1.heap.size ≤ w6.heap.size) := Lib.hid (Nat.le_trans HS4.out b6.size)
    clear b6 HB5 H15 H25 H35 HSM HS4
    have HK6 := Lib.hid (bkept_c l l g _ w6 H16.out (HV.out.below HB6.out).1 (by omega))
    rw [sameB_self] at HK6
    go_wp2_with fail
    refine HK6.out.mono ?_
    rintro e w7 ⟨rfl, b7⟩
    have HB7 : Hid (Below w.heap.size w w7) := Lib.hid (bn HB6.out b7)
    have H17 := Lib.hid (H16.out.below b7)
    have H27 := Lib.hid (H26.out.below b7)
    have HS6 : Hid (w1.heap.size ≤ w7.heap.size) := Lib.hid (Nat.le_trans HS5.out b7.size)
    clear b7 HB6 H16 H26 HK6 HS5
    go_wp2_with fail
    refine (bover_c L _ w7 w1.heap.size H27.out (by have := HLL.out; omega) HS6.out).mono ?_
    rintro e w8 ⟨rfl, hg8⟩
    have H18 : Hid (BLent w8 g l) := Lib.hid (H17.out.far hg8 (fun hh => by have h1 := HXG.out g hh; have h2 := H1.out.lt; omega))
    have HB8 : Hid (Below w.heap.size w w8) := Lib.hid (HB7.out.trans (below_of_grown hg8 HB7.out.size (fun q hq => Nat.le_trans HB1.out.size (HXG.out q hq))))
    clear hg8 HB7 H17 H27 HS6
    have HK8 := Lib.hid (bkept_c l l g _ w8 H18.out (HV.out.below HB8.out).1 (by omega))
    rw [sameB_self] at HK8
    go_wp2_with fail
    refine HK8.out.mono ?_
    rintro e w9 ⟨rfl, b9⟩
    have HB9 : Hid (Below w.heap.size w w9) := Lib.hid (bn HB8.out b9)
    clear b9 HB8 HK8 H18
    go_wp2_with fail
    refine (awake_c w9).mono ?_
    rintro e w10 ⟨rfl, b10⟩
    go_wp2
    go_ret
    exact ⟨rfl, bn HB9.out b10⟩
  · have e1 : decide ((2000 : Int) < (l.length : Int)) = true := by simp; omega
    have e2 : decide (2000 < l.length) = true := by simp; omega
    go_enter Try.func4, Try.ntmps4
    go_wp2_with fail
    refine (awake_c w).mono ?_
    rintro e w5 ⟨rfl, b5⟩
    go_wp2
    go_ret
    exact ⟨rfl, b5⟩
end Go.Proofs.Ytkgenjiccidfgaa
