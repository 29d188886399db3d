/-
  PROVED: of several files as many loose bytes stay as are told, or all, those of the lesser names first; what was synced stays of each: for every input (no condition).
-/
import Derived.Test.YtmhmdnlkkpjdjaaDrvCrashesLaw
import Derived.Test.YtmhmdnlkkpjdjaaDrvArgQ
import Derived.Test.YtmhmdnlkkpjdjaaLift
namespace Go.Proofs.Ytmhmdnlkkpjdjaa
open Go.RowKit Go.ChangeShapes Go.WideShapes Go.ChangeAt Go.Deep

set_option maxRecDepth 100000 in
theorem crashes_lifted (os : Os) (started : os.Started) (H : Type) (enc : TypeId × Value → H) :
    ReturnsInHanded {} Try.checked os 7 .any (Rows.driveCrashesSpec.pre6 enc Try.prog Try.f7 [] false) (Rows.driveCrashesSpec.post enc Try.prog Try.f7 false true false false) := by
  refine law_lift (C := Try.checked) own started (by kernel_rfl) Try.func7
    (ChangeSpec.witness6 (enc := enc) (C := Try.checked) false ⟨#[], #[.slice none 0 0, .slice none 0 0, .int .i64 0], []⟩ 8 (by kernel_rfl) (by kernel_rfl) (by kernel_rfl) (by kernel_rfl)) laidOut
    (by rw [Try.params7]; exact of_decide_eq_true (by kernel_rfl)) rfl 4 Try.underlying4 (by kernel_rfl)
    (fun ds h => by
      rw [Try.params7] at h
      match ds, h with
      | [_, _, _], _ => rfl) ?_
  intro W base args ds ps hval hA _
  rw [Try.params7] at hA hval
  obtain ⟨v0, v1, v2, d0, d1, d2, p0, p1, p2, rfl, rfl, rfl, h0, h1, h2⟩ := trodAll_three hA
  obtain ⟨ls, hP0, hz0⟩ := open_partsq (hval 0 47 v0 rfl rfl) h0
  obtain ⟨ms, hP1, hz1⟩ := open_partsq (hval 1 47 v1 rfl rfl) h1
  obtain ⟨k, rfl, rfl, rfl, _⟩ := open_int Try.underlying3 (hval 2 3 v2 rfl rfl) h2
  exact crashes_c ls ms k v0 v1 W hP0 hP1 hz0 hz1

theorem crashes_holds : Rows.DriveCrashesSaid :=
  OpenClaim.holds_of_wide 7 Try.f7 rfl rfl rfl rfl rfl rfl rfl ⟨rfl, rfl, rfl, rfl, rfl⟩ rfl rfl rfl rfl rfl (by kernel_rfl) Try.func7 (by kernel_rfl)
    (of_decide_eq_true (by kernel_rfl)) (by unfold Func.isWrapper; first | (rw [if_pos (by decide +kernel)]; kernel_rfl) | (rw [if_neg (by decide +kernel)]; exact ⟨rfl, rfl⟩))
    (fun os started H enc _ => crashes_lifted os started H enc)
#print axioms crashes_holds
end Go.Proofs.Ytmhmdnlkkpjdjaa
