/-
  PROVED: LedgerSyncs answers true, whatever entries and numbers it is given. Conditions: the seven listed variables of the library hold what the program's text, and the pinned table, lay (the card ties them).
-/
import Derived.Test.YtjmkphnppegegaaGreatDoorPkLks
import Derived.Test.YtjmkphnppegegaaGreatDoorPkLn
import Derived.Test.YtjmkphnppegegaaGreatDoorPkLift
namespace Go.Proofs.YtjmkphnppegegaaGreatDoor
open Go.RowKit Go.ChangeShapes Go.WideShapes Go.ChangeAt Go.Deep

set_option maxRecDepth 100000 in
theorem syncs_lifted (os : Os) (started : os.Started) (H : Type) (enc : TypeId × Value → H) :
    ReturnsInHanded {} Tryz.checked os 8 .any (fun w args => (Rows.ledgerSyncsSpec.pre enc Tryz.prog Tryz.f8 [] false w args ∧ laidMetH Tryz.prog Rows.ledgerSyncsRow.laid w) ∧ sizedMet enc Tryz.prog Tryz.f8 (OpenSpec.ofChange Rows.ledgerSyncsSpec) false w args)
      (Rows.ledgerSyncsSpec.post enc Tryz.prog Tryz.f8 false true false false) := by
  refine laid_lift (C := Tryz.checked) (L := seatLaid) own started (by kernel_rfl) Tryz.func8
    (ChangeSpec.witness_shaped (enc := enc) (C := Tryz.checked) (os := os) (X := fun w _ => laidMetH Tryz.prog seatLaid w) false (World.laidAll Tryz.prog os seatLaid) #[.slice none 0 0, .int .i64 0, .int .i64 0] 8 (World.laidAll_os _ _ _)
      (World.shaped_of_ZipB (by kernel_rfl) (by kernel_rfl)) (by kernel_rfl) (by kernel_rfl) (by kernel_rfl) (laid_world os _)) laidOut
    (by rw [Tryz.params8]; exact of_decide_eq_true (by kernel_rfl)) rfl 4 Tryz.underlying4 (by kernel_rfl)
    (fun ds h => by
      rw [Tryz.params8] at h
      match ds, h with
      | [_, _, _], _ => rfl) ?_
  intro W base args ds ps hval hA hL
  rw [Tryz.params8] at hA hval
  have hT := tabs_of_laid W hL
  obtain ⟨v0, v1, v2, d0, d1, d2, p0, p1, p2, rfl, rfl, rfl, h0, h1, h2⟩ := trodAll_three hA
  obtain ⟨l, hE, hs⟩ := open_entries (hval 0 22 v0 rfl rfl) h0
  obtain ⟨n, rfl, rfl, rfl, _⟩ := open_int Tryz.underlying3 (hval 1 3 v1 rfl rfl) h1
  obtain ⟨c, rfl, rfl, rfl, _⟩ := open_int Tryz.underlying3 (hval 2 3 v2 rfl rfl) h2
  obtain ⟨ad, cap, rfl, _, _⟩ := id hE
  exact syncs_law ad cap l n c W hE hs hT

theorem syncs_holds : Rows.LedgerSyncsSaid :=
  OpenClaim.holds_of_wide 8 Tryz.f8 rfl rfl rfl rfl rfl rfl rfl ⟨rfl, rfl, rfl, rfl, rfl⟩ rfl rfl rfl rfl rfl (by kernel_rfl) Tryz.func8 (by kernel_rfl)
    (of_decide_eq_true (by kernel_rfl)) (by unfold Func.isWrapper; first | (rw [if_pos (by decide +kernel)]; kernel_rfl) | (rw [if_neg (by decide +kernel)]; exact ⟨rfl, rfl⟩))
    (fun os started H enc _ => syncs_lifted os started H enc)

theorem syncs_card : Rows.LedgerSyncsCardSaid :=
  Claim7.holds_tied_plain_at .later [] _ _ _ _ syncs_holds (fun _ h => by cases h) (by kernel_rfl) (fun _ h => by cases h) ledgerSyncs_row_tie rfl ⟨rfl, rfl⟩ (by kernel_rfl) rfl
    (fun f fn hf hfn => by
      obtain rfl : f = 8 := Option.some.inj ((show Tryz.prog.funcNamed Rows.ledgerSyncsRow.func = some 8 by kernel_rfl).symm.trans hf) |>.symm
      obtain rfl : fn = Tryz.f8 := (Option.some.inj (Tryz.func8.symm.trans hfn)).symm
      exact ⟨by kernel_rfl, fun j t ht => by
        rw [Tryz.params8] at ht
        have hm : t ∈ [22, 3, 3] := by simpa using Array.mem_of_getElem? ht
        have hall : ([22, 3, 3].all fun u => !Tryz.prog.wantsStandIn u) = true := by kernel_rfl
        exact (show Tryz.prog.wantsStandIn t = false by simpa using List.all_eq_true.1 hall t hm)⟩)
    (by kernel_rfl)
#print axioms syncs_card
end Go.Proofs.YtjmkphnppegegaaGreatDoor
