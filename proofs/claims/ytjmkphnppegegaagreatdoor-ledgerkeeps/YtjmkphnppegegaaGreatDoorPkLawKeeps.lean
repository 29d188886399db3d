/-
  PROVED: LedgerKeeps answers true, whatever number, entries and vectors it is given. Conditions: the seven listed variables of the library hold what the program's text, and the pinned table, lay (the card ties them).
-/
import Derived.Test.YtjmkphnppegegaaGreatDoorPkLkk
import Derived.Test.YtjmkphnppegegaaGreatDoorPkLn
import Derived.Test.YtjmkphnppegegaaGreatDoorPkLift
namespace Go.Proofs.YtjmkphnppegegaaGreatDoor
open Go.RowKit Go.ChangeShapes Go.WideShapes Go.ChangeAt Go.Deep

set_option maxRecDepth 100000 in
theorem keeps_lifted (os : Os) (started : os.Started) (H : Type) (enc : TypeId × Value → H) :
    ReturnsInHanded {} Tryz.checked os 3 .any (fun w args => (Rows.ledgerKeepsSpec.pre enc Tryz.prog Tryz.f3 [] false w args ∧ laidMetH Tryz.prog Rows.ledgerKeepsRow.laid w) ∧ sizedMet enc Tryz.prog Tryz.f3 (OpenSpec.ofChange Rows.ledgerKeepsSpec) false w args)
      (Rows.ledgerKeepsSpec.post enc Tryz.prog Tryz.f3 false true false false) := by
  refine laid_lift (C := Tryz.checked) (L := seatLaid) own started (by kernel_rfl) Tryz.func3
    (ChangeSpec.witness_shaped (enc := enc) (C := Tryz.checked) (os := os) (X := fun w _ => laidMetH Tryz.prog seatLaid w) false (World.laidAll Tryz.prog os seatLaid) #[.int .i64 0, .slice none 0 0, .slice none 0 0, .slice none 0 0] 8 (World.laidAll_os _ _ _)
      (World.shaped_of_ZipB (by kernel_rfl) (by kernel_rfl)) (by kernel_rfl) (by kernel_rfl) (by kernel_rfl) (laid_world os _)) laidOut
    (by rw [Tryz.params3]; exact of_decide_eq_true (by kernel_rfl)) rfl 4 Tryz.underlying4 (by kernel_rfl)
    (fun ds h => by
      rw [Tryz.params3] at h
      match ds, h with
      | [_, _, _, _], _ => rfl) ?_
  intro W base args ds ps hval hA hL
  rw [Tryz.params3] at hA hval
  have hT := tabs_of_laid W hL
  obtain ⟨v0, v1, v2, v3, d0, d1, d2, d3, p0, p1, p2, p3, rfl, rfl, rfl, h0, h1, h2, h3⟩ := trodAll_four hA
  obtain ⟨n, rfl, rfl, rfl, _⟩ := open_int Tryz.underlying3 (hval 0 3 v0 rfl rfl) h0
  obtain ⟨l, hE, hs⟩ := open_entries (hval 1 22 v1 rfl rfl) h1
  obtain ⟨vv, hv⟩ := open_nums (hval 2 23 v2 rfl rfl) h2
  obtain ⟨ww, hw⟩ := open_nums (hval 3 23 v3 rfl rfl) h3
  obtain ⟨ad, cap, rfl, _, _⟩ := id hE
  obtain ⟨av, cv, rfl, _⟩ := id hv.form
  obtain ⟨aw, cw, rfl, _⟩ := id hw.form
  exact keeps_law n ad cap l av cv vv aw cw ww W hE hs hv hw hT

theorem keeps_holds : Rows.LedgerKeepsSaid :=
  OpenClaim.holds_of_wide 3 Tryz.f3 rfl rfl rfl rfl rfl rfl rfl ⟨rfl, rfl, rfl, rfl, rfl⟩ rfl rfl rfl rfl rfl (by kernel_rfl) Tryz.func3 (by kernel_rfl)
    (of_decide_eq_true (by kernel_rfl)) (by unfold Func.isWrapper; first | (rw [if_pos (by decide +kernel)]; kernel_rfl) | (rw [if_neg (by decide +kernel)]; exact ⟨rfl, rfl⟩))
    (fun os started H enc _ => keeps_lifted os started H enc)

theorem keeps_card : Rows.LedgerKeepsCardSaid :=
  Claim7.holds_tied_plain_at .later [] _ _ _ _ keeps_holds (fun _ h => by cases h) (by kernel_rfl) (fun _ h => by cases h) ledgerKeeps_row_tie rfl ⟨rfl, rfl⟩ (by kernel_rfl) rfl
    (fun f fn hf hfn => by
      obtain rfl : f = 3 := Option.some.inj ((show Tryz.prog.funcNamed Rows.ledgerKeepsRow.func = some 3 by kernel_rfl).symm.trans hf) |>.symm
      obtain rfl : fn = Tryz.f3 := (Option.some.inj (Tryz.func3.symm.trans hfn)).symm
      exact ⟨by kernel_rfl, fun j t ht => by
        rw [Tryz.params3] at ht
        have hm : t ∈ [3, 22, 23, 23] := by simpa using Array.mem_of_getElem? ht
        have hall : ([3, 22, 23, 23].all fun u => !Tryz.prog.wantsStandIn u) = true := by kernel_rfl
        exact (show Tryz.prog.wantsStandIn t = false by simpa using List.all_eq_true.1 hall t hm)⟩)
    (by kernel_rfl)
#print axioms keeps_card
end Go.Proofs.YtjmkphnppegegaaGreatDoor
