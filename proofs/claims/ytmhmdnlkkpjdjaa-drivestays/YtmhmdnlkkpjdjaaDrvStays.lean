/-
  PROVED: what was synced stays, whatever is appended behind it, and however it crashes; of what was not, a beginning: for every input (no condition).
-/
import Derived.Test.YtmhmdnlkkpjdjaaDrvStaysLaw
import Derived.Test.YtmhmdnlkkpjdjaaDrvArgs
import Derived.Test.YtmhmdnlkkpjdjaaLift
namespace Go.Proofs.Ytmhmdnlkkpjdjaa
open Go.RowKit Go.ChangeShapes Go.WideShapes Go.ChangeAt Go.Deep

set_option maxRecDepth 100000 in
theorem stays_lifted (os : Os) (started : os.Started) (H : Type) (enc : TypeId × Value → H) :
    ReturnsInHanded {} Try.checked os 3 .any (Rows.driveStaysSpec.pre6 enc Try.prog Try.f3 [] false) (Rows.driveStaysSpec.post enc Try.prog Try.f3 false true false false) := by
  refine law_lift (C := Try.checked) own started (by kernel_rfl) Try.func3
    (ChangeSpec.witness6 (enc := enc) (C := Try.checked) false ⟨#[], #[.slice none 0 0, .slice none 0 0, .int .i64 0], []⟩ 8 (by kernel_rfl) (by kernel_rfl) (by kernel_rfl) (by kernel_rfl)) laidOut
    (by rw [Try.params3]; exact of_decide_eq_true (by kernel_rfl)) rfl 4 Try.underlying4 (by kernel_rfl)
    (fun ds h => by
      rw [Try.params3] at h
      match ds, h with
      | [_, _, _], _ => rfl) ?_
  intro W base args ds ps hval hA _
  rw [Try.params3] at hA hval
  obtain ⟨v0, v1, v2, d0, d1, d2, p0, p1, p2, rfl, rfl, rfl, h0, h1, h2⟩ := trodAll_three hA
  obtain ⟨a, hB0, _, hl0, _⟩ := open_bytes (hval 0 22 v0 rfl rfl) h0
  obtain ⟨b, hB1, _, hl1, _⟩ := open_bytes (hval 1 22 v1 rfl rfl) h1
  obtain ⟨k, rfl, rfl, rfl, hk⟩ := open_int Try.underlying3 (hval 2 3 v2 rfl rfl) h2
  exact stays_c a b k (wf_i64 hk).2 v0 v1 W hB0 hB1 hl0 hl1

theorem stays_holds : Rows.DriveStaysSaid :=
  OpenClaim.holds_of_wide 3 Try.f3 rfl rfl rfl rfl rfl rfl rfl ⟨rfl, rfl, rfl, rfl, rfl⟩ rfl rfl rfl rfl rfl (by kernel_rfl) Try.func3 (by kernel_rfl)
    (of_decide_eq_true (by kernel_rfl)) (by unfold Func.isWrapper; first | (rw [if_pos (by decide +kernel)]; kernel_rfl) | (rw [if_neg (by decide +kernel)]; exact ⟨rfl, rfl⟩))
    (fun os started H enc _ => stays_lifted os started H enc)
#print axioms stays_holds
end Go.Proofs.Ytmhmdnlkkpjdjaa
