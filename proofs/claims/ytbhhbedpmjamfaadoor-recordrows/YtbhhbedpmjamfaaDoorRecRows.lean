/-
  PROVED: RecordRows answers true, whatever records it is given. Conditions: the library's two tables of UTF-8 hold what the program's text, and the pinned table, lay (the card ties them).
-/
import Derived.Test.YtbhhbedpmjamfaaDoorRecRowsLaw
import Derived.Test.YtbhhbedpmjamfaaDoorRecLift
namespace Go.Proofs.YtbhhbedpmjamfaaDoor
open Go.RowKit Go.ChangeShapes Go.WideShapes Go.ChangeAt Go.Deep

set_option maxRecDepth 100000 in
theorem rows_lifted (os : Os) (started : os.Started) (H : Type) (enc : TypeId × Value → H) :
    ReturnsInHanded {} Tryd.checked os 9 .any (fun w args => (Rows.recordRowsSpec.pre enc Tryd.prog Tryd.f9 [] false w args ∧ laidMetH Tryd.prog Rows.recordRowsRow.laid w) ∧ sizedMet enc Tryd.prog Tryd.f9 (OpenSpec.ofChange Rows.recordRowsSpec) false w args)
      (Rows.recordRowsSpec.post enc Tryd.prog Tryd.f9 false true false false) := by
  refine laid_lift (C := Tryd.checked) (L := seatLaid) own started (by kernel_rfl) Tryd.func9
    (ChangeSpec.witness_shaped (enc := enc) (C := Tryd.checked) (os := os) (X := fun w _ => laidMetH Tryd.prog seatLaid w) false (World.laidAll Tryd.prog os seatLaid) #[.slice none 0 0] 8 (World.laidAll_os _ _ _)
      (World.shaped_of_ZipB (by kernel_rfl) (by kernel_rfl)) (by kernel_rfl) (by kernel_rfl) (by kernel_rfl) (laid_world os _)) laidOut
    (by rw [Tryd.params9]; exact of_decide_eq_true (by kernel_rfl)) rfl 4 Tryd.underlying4 (by kernel_rfl)
    (fun ds h => by
      rw [Tryd.params9] at h
      match ds, h with
      | [_], _ => rfl) ?_
  intro W base args ds ps hval hA hL
  rw [Tryd.params9] at hA hval
  have hT := tabs_of_laid W hL
  obtain ⟨v0, d0, rfl, rfl, h0⟩ := trodAll_one hA
  obtain ⟨l, hR, hz, hl⟩ := open_recs (hval 0 28 v0 rfl rfl) h0
  cases hg : greatB l 20
  · exact rows_few l v0 W hT hR hg
  · exact rows_great l v0 W hT hR hl hg

theorem rows_holds : Rows.RecordRowsSaid :=
  OpenClaim.holds_of_wide 9 Tryd.f9 rfl rfl rfl rfl rfl rfl rfl ⟨rfl, rfl, rfl, rfl, rfl⟩ rfl rfl rfl rfl rfl (by kernel_rfl) Tryd.func9 (by kernel_rfl)
    (of_decide_eq_true (by kernel_rfl)) (by unfold Func.isWrapper; first | (rw [if_pos (by decide +kernel)]; kernel_rfl) | (rw [if_neg (by decide +kernel)]; exact ⟨rfl, rfl⟩))
    (fun os started H enc _ => rows_lifted os started H enc)

theorem rows_card : Rows.RecordRowsCardSaid :=
  Claim7.holds_tied_plain_at .later [] _ _ _ _ rows_holds (fun _ h => by cases h) (by kernel_rfl) (fun _ h => by cases h) recordRows_row_tie rfl ⟨rfl, rfl⟩ (by kernel_rfl) rfl
    (fun f fn hf hfn => by
      obtain rfl : f = 9 := Option.some.inj ((show Tryd.prog.funcNamed Rows.recordRowsRow.func = some 9 by kernel_rfl).symm.trans hf) |>.symm
      obtain rfl : fn = Tryd.f9 := (Option.some.inj (Tryd.func9.symm.trans hfn)).symm
      exact ⟨by kernel_rfl, fun j t ht => by
        rw [Tryd.params9] at ht
        have hm : t ∈ [28] := by simpa using Array.mem_of_getElem? ht
        have hall : ([28].all fun u => !Tryd.prog.wantsStandIn u) = true := by kernel_rfl
        exact (show Tryd.prog.wantsStandIn t = false by simpa using List.all_eq_true.1 hall t hm)⟩)
    (by kernel_rfl)
#print axioms rows_card
end Go.Proofs.YtbhhbedpmjamfaaDoor
