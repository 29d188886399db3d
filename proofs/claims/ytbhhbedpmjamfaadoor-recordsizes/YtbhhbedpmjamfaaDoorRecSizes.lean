/-
  PROVED: RecordSizes answers true, whatever two records it is given. Conditions: the library's two tables of UTF-8 hold what the program's text, and the pinned table, lay (the card ties them).
-/
import Derived.Test.YtbhhbedpmjamfaaDoorRecSizesLaw
import Derived.Test.YtbhhbedpmjamfaaDoorRecLift
namespace Go.Proofs.YtbhhbedpmjamfaaDoor
open Go.RowKit Go.ChangeShapes Go.WideShapes Go.ChangeAt Go.Deep

set_option maxRecDepth 100000 in
theorem sizes_lifted (os : Os) (started : os.Started) (H : Type) (enc : TypeId × Value → H) :
    ReturnsInHanded {} Tryd.checked os 8 .any (fun w args => (Rows.recordSizesSpec.pre enc Tryd.prog Tryd.f8 [] false w args ∧ laidMetH Tryd.prog Rows.recordSizesRow.laid w) ∧ sizedMet enc Tryd.prog Tryd.f8 (OpenSpec.ofChange Rows.recordSizesSpec) false w args)
      (Rows.recordSizesSpec.post enc Tryd.prog Tryd.f8 false true false false) := by
  refine laid_lift (C := Tryd.checked) (L := seatLaid) own started (by kernel_rfl) Tryd.func8
    (ChangeSpec.witness_shaped (enc := enc) (C := Tryd.checked) (os := os) (X := fun w _ => laidMetH Tryd.prog seatLaid w) false (World.laidAll Tryd.prog os seatLaid) #[.agg #[.int .i64 0, .int .i64 0, .int .i64 0, .int .i64 0, .string ⟨#[]⟩], .agg #[.int .i64 0, .int .i64 0, .int .i64 0, .int .i64 0, .string ⟨#[]⟩]] 8 (World.laidAll_os _ _ _)
      (World.shaped_of_ZipB (by kernel_rfl) (by kernel_rfl)) (by kernel_rfl) (by kernel_rfl) (by kernel_rfl) (laid_world os _)) laidOut
    (by rw [Tryd.params8]; exact of_decide_eq_true (by kernel_rfl)) rfl 4 Tryd.underlying4 (by kernel_rfl)
    (fun ds h => by
      rw [Tryd.params8] at h
      match ds, h with
      | [_, _], _ => rfl) ?_
  intro W base args ds ps hval hA hL
  rw [Tryd.params8] at hA hval
  have hT := tabs_of_laid W hL
  obtain ⟨v0, v1, d0, d1, p0, p1, rfl, rfl, rfl, h0, h1⟩ := trodAll_two hA
  obtain ⟨a, rfl, hz⟩ := open_rec (hval 0 27 v0 rfl rfl) h0
  obtain ⟨b, rfl, hy⟩ := open_rec (hval 1 27 v1 rfl rfl) h1
  by_cases g1 : 300 < (a.t.size : Int)
  · exact sizes_great a b W hT (.inl g1)
  · by_cases g2 : 300 < (b.t.size : Int)
    · exact sizes_great a b W hT (.inr g2)
    · cases ha : mayR a <;> cases hb : mayR b
      · exact sizes_nn a b W hT g1 g2 ha hb
      · exact sizes_ny a b W hT g1 g2 ha hb
      · exact sizes_yn a b W hT g1 g2 ha hb
      · exact sizes_yy a b W hT g1 g2 ha hb

theorem sizes_holds : Rows.RecordSizesSaid :=
  OpenClaim.holds_of_wide 8 Tryd.f8 rfl rfl rfl rfl rfl rfl rfl ⟨rfl, rfl, rfl, rfl, rfl⟩ rfl rfl rfl rfl rfl (by kernel_rfl) Tryd.func8 (by kernel_rfl)
    (of_decide_eq_true (by kernel_rfl)) (by unfold Func.isWrapper; first | (rw [if_pos (by decide +kernel)]; kernel_rfl) | (rw [if_neg (by decide +kernel)]; exact ⟨rfl, rfl⟩))
    (fun os started H enc _ => sizes_lifted os started H enc)

theorem sizes_card : Rows.RecordSizesCardSaid :=
  Claim7.holds_tied_plain_at .later [] _ _ _ _ sizes_holds (fun _ h => by cases h) (by kernel_rfl) (fun _ h => by cases h) recordSizes_row_tie rfl ⟨rfl, rfl⟩ (by kernel_rfl) rfl
    (fun f fn hf hfn => by
      obtain rfl : f = 8 := Option.some.inj ((show Tryd.prog.funcNamed Rows.recordSizesRow.func = some 8 by kernel_rfl).symm.trans hf) |>.symm
      obtain rfl : fn = Tryd.f8 := (Option.some.inj (Tryd.func8.symm.trans hfn)).symm
      exact ⟨by kernel_rfl, fun j t ht => by
        rw [Tryd.params8] at ht
        have hm : t ∈ [27, 27] := by simpa using Array.mem_of_getElem? ht
        have hall : ([27, 27].all fun u => !Tryd.prog.wantsStandIn u) = true := by kernel_rfl
        exact (show Tryd.prog.wantsStandIn t = false by simpa using List.all_eq_true.1 hall t hm)⟩)
    (by kernel_rfl)
#print axioms sizes_card
end Go.Proofs.YtbhhbedpmjamfaaDoor
