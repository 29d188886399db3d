/-
  DigestTells: the walk.
-/
import Derived.Test.YtgiojpgdjbnbbaaDigGreat
namespace Go.Proofs.Ytgiojpgdjbnbbaa
open Go.RowKit Go.Lib

set_option maxHeartbeats 4000000 in
theorem tells_c (ps : List (List Int)) (ds : List Int) (v1 v2 : Value) (w : World) (h1 : Pl w v1 ps) (h2 : Dl w v2 ds) (hd : ds.length ≤ maxLen) :
    Calls Try.prog 3 #[v1, v2] w fun e w' => e = .returned (.bool true) ∧ Below w.heap.size w w' := by
  have H1 := Lib.hid h1
  have H2 := Lib.hid h2
  have HG := Lib.hid (great_c ps v1 w h1)
  obtain ⟨ad1, cap1, rfl, _⟩ := h1
  obtain ⟨ad2, cap2, rfl, _⟩ := h2
  unfold maxLen at hd
  cases hg : greatB ps
  · obtain ⟨hp1, hp2⟩ := greatB_no hg
    rw [hg] at HG
    by_cases hl : ds.length ≤ 60
    · have e1 : decide ((60 : Int) < (ds.length : Int)) = false := by simp; omega
      have e2 : decide (60 < ds.length) = false := by simp; omega
      have P1 := Lib.hid hp1
      have P2 := Lib.hid hp2
      clear hp1 hp2 hg
      go_enter Try.func3, Try.ntmps3
      go_wp2_with fail
      refine HG.out.mono ?_
      rintro e w1 ⟨rfl, rfl⟩
      go_wp2_with fail
      refine (of_c ps _ w H1.out (by have := P1.out; omega) (fun p hp => by have := P2.out p hp; omega)).mono ?_
      rintro e w1 ⟨rfl, rfl⟩
      go_wp2_with fail
      refine (refof_c ps _ w H1.out (by have := P1.out; omega) (fun p hp => by have := P2.out p hp; omega)).mono ?_
      rintro e w1 ⟨rfl, rfl⟩
      go_wp2_with fail
      refine (all_c ds _ w H2.out (by omega)).mono ?_
      rintro e w1 ⟨rfl, b1⟩
      have HB1 := Lib.hid b1
      clear b1
      go_wp2_with fail
      refine (refall_c ds _ w1 (H2.out.below HB1.out) (by omega)).mono ?_
      rintro e w2 ⟨rfl, b2⟩
      have HB2 := Lib.hid (HB1.out.trans (b2.mono HB1.out.size))
      clear b2 HB1
      go_wp2_with fail
      refine (awake_c w2).mono ?_
      rintro e w3 ⟨rfl, b3⟩
      go_wp2
      go_ret
      exact ⟨rfl, HB2.out.trans (b3.mono HB2.out.size)⟩
    · have e1 : decide ((60 : Int) < (ds.length : Int)) = true := by simp; omega
      have e2 : decide (60 < ds.length) = true := by simp; omega
      clear hp1 hp2 hg
      go_enter Try.func3, Try.ntmps3
      go_wp2_with fail
      refine HG.out.mono ?_
      rintro e w1 ⟨rfl, rfl⟩
      go_wp2_with fail
      refine (awake_c w).mono ?_
      rintro e w3 ⟨rfl, b3⟩
      go_wp2
      go_ret
      exact ⟨rfl, b3⟩
  · rw [hg] at HG
    clear hg
    go_enter Try.func3, Try.ntmps3
    go_wp2_with fail
    refine HG.out.mono ?_
    rintro e w1 ⟨rfl, rfl⟩
    go_wp2_with fail
    refine (awake_c w).mono ?_
    rintro e w3 ⟨rfl, b3⟩
    go_wp2
    go_ret
    exact ⟨rfl, b3⟩
end Go.Proofs.Ytgiojpgdjbnbbaa
