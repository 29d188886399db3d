/-
  PROVED: SegmentTorn answers true, whatever entries, numbers and bytes it is given. Conditions: the library's two tables of UTF-8 hold what the program's text, and the pinned table, lay (the card ties them).
-/
import Derived.Test.YtcnpckdchjjeoaaDoorSegTornLaw
import Derived.Test.YtcnpckdchjjeoaaDoorSegLift
namespace Go.Proofs.YtcnpckdchjjeoaaDoor
open Go.RowKit Go.ChangeShapes Go.WideShapes Go.ChangeAt Go.Deep

set_option maxRecDepth 100000 in
theorem torn_lifted (os : Os) (started : os.Started) (H : Type) (enc : TypeId × Value → H) :
    ReturnsInHanded {} Tryd.checked os 5 .any (fun w args => (Rows.segmentTornSpec.pre enc Tryd.prog Tryd.f5 [] false w args ∧ laidMetH Tryd.prog Rows.segmentTornRow.laid w) ∧ sizedMet enc Tryd.prog Tryd.f5 (OpenSpec.ofChange Rows.segmentTornSpec) false w args)
      (Rows.segmentTornSpec.post enc Tryd.prog Tryd.f5 false true false false) := by
  refine laid_lift (C := Tryd.checked) (L := seatLaid) own started (by kernel_rfl) Tryd.func5
    (ChangeSpec.witness_shaped (enc := enc) (C := Tryd.checked) (os := os) (X := fun w _ => laidMetH Tryd.prog seatLaid w) false (World.laidAll Tryd.prog os seatLaid) #[.slice none 0 0, .int .i64 0, .int .i64 0, .slice none 0 0] 8 (World.laidAll_os _ _ _)
      (World.shaped_of_ZipB (by kernel_rfl) (by kernel_rfl)) (by kernel_rfl) (by kernel_rfl) (by kernel_rfl) (laid_world os _)) laidOut
    (by rw [Tryd.params5]; exact of_decide_eq_true (by kernel_rfl)) rfl 4 Tryd.underlying4 (by kernel_rfl)
    (fun ds h => by
      rw [Tryd.params5] at h
      match ds, h with
      | [_, _, _, _], _ => rfl) ?_
  intro W base args ds ps hval hA hL
  rw [Tryd.params5] at hA hval
  have hT := tabs_of_laid W hL
  obtain ⟨v0, v1, v2, v3, d0, d1, d2, d3, p0, p1, p2, p3, rfl, rfl, rfl, h0, h1, h2, h3⟩ := trodAll_four hA
  obtain ⟨l, he, hs⟩ := open_entries (hval 0 47 v0 rfl rfl) h0
  obtain ⟨n, rfl, rfl, rfl, _⟩ := open_int Tryd.underlying3 (hval 1 3 v1 rfl rfl) h1
  obtain ⟨c, rfl, rfl, rfl, _⟩ := open_int Tryd.underlying3 (hval 2 3 v2 rfl rfl) h2
  obtain ⟨m, hb, ho⟩ := open_bytes_c (hval 3 33 v3 rfl rfl) h3
  exact torn_law l v0 n c m v3 W he hb ho hs hT

theorem torn_holds : Rows.SegmentTornSaid :=
  OpenClaim.holds_of_wide 5 Tryd.f5 rfl rfl rfl rfl rfl rfl rfl ⟨rfl, rfl, rfl, rfl, rfl⟩ rfl rfl rfl rfl rfl (by kernel_rfl) Tryd.func5 (by kernel_rfl)
    (of_decide_eq_true (by kernel_rfl)) (by unfold Func.isWrapper; first | (rw [if_pos (by decide +kernel)]; kernel_rfl) | (rw [if_neg (by decide +kernel)]; exact ⟨rfl, rfl⟩))
    (fun os started H enc _ => torn_lifted os started H enc)

theorem torn_card : Rows.SegmentTornCardSaid :=
  Claim7.holds_tied_plain_at .later [] _ _ _ _ torn_holds (fun _ h => by cases h) (by kernel_rfl) (fun _ h => by cases h) segmentTorn_row_tie rfl ⟨rfl, rfl⟩ (by kernel_rfl) rfl
    (fun f fn hf hfn => by
      obtain rfl : f = 5 := Option.some.inj ((show Tryd.prog.funcNamed Rows.segmentTornRow.func = some 5 by kernel_rfl).symm.trans hf) |>.symm
      obtain rfl : fn = Tryd.f5 := (Option.some.inj (Tryd.func5.symm.trans hfn)).symm
      exact ⟨by kernel_rfl, fun j t ht => by
        rw [Tryd.params5] at ht
        have hm : t ∈ [47, 3, 3, 33] := by simpa using Array.mem_of_getElem? ht
        have hall : ([47, 3, 3, 33].all fun u => !Tryd.prog.wantsStandIn u) = true := by kernel_rfl
        exact (show Tryd.prog.wantsStandIn t = false by simpa using List.all_eq_true.1 hall t hm)⟩)
    (by kernel_rfl)
#print axioms torn_card
end Go.Proofs.YtcnpckdchjjeoaaDoor
