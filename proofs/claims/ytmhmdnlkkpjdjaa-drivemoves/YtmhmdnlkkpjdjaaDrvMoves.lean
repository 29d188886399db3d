/-
  PROVED: a file that is called otherwise has the same bytes, and the same that are synced; the one that was called so is no more: for every input (no condition).
-/
import Derived.Test.YtmhmdnlkkpjdjaaDrvMovesLaw
import Derived.Test.YtmhmdnlkkpjdjaaDrvArgs
import Derived.Test.YtmhmdnlkkpjdjaaLift
namespace Go.Proofs.Ytmhmdnlkkpjdjaa
open Go.RowKit Go.ChangeShapes Go.WideShapes Go.ChangeAt Go.Deep

set_option maxRecDepth 100000 in
theorem moves_lifted (os : Os) (started : os.Started) (H : Type) (enc : TypeId × Value → H) :
    ReturnsInHanded {} Try.checked os 6 .any (Rows.driveMovesSpec.pre6 enc Try.prog Try.f6 [] false) (Rows.driveMovesSpec.post enc Try.prog Try.f6 false true false false) := by
  refine law_lift (C := Try.checked) own started (by kernel_rfl) Try.func6
    (ChangeSpec.witness6 (enc := enc) (C := Try.checked) false ⟨#[], #[.slice none 0 0, .slice none 0 0, .slice none 0 0, .int .i64 0], []⟩ 8 (by kernel_rfl) (by kernel_rfl) (by kernel_rfl) (by kernel_rfl)) laidOut
    (by rw [Try.params6]; exact of_decide_eq_true (by kernel_rfl)) rfl 4 Try.underlying4 (by kernel_rfl)
    (fun ds h => by
      rw [Try.params6] at h
      match ds, h with
      | [_, _, _, _], _ => rfl) ?_
  intro W base args ds ps hval hA _
  rw [Try.params6] at hA hval
  obtain ⟨v0, v1, v2, v3, d0, d1, d2, d3, p0, p1, p2, p3, rfl, rfl, rfl, h0, h1, h2, h3⟩ := trodAll_four hA
  obtain ⟨a, hB0, _, hl0, _⟩ := open_bytes (hval 0 22 v0 rfl rfl) h0
  obtain ⟨b, hB1, _, hl1, _⟩ := open_bytes (hval 1 22 v1 rfl rfl) h1
  obtain ⟨c, hB2, _, hl2, _⟩ := open_bytes (hval 2 22 v2 rfl rfl) h2
  obtain ⟨k, rfl, rfl, rfl, hk⟩ := open_int Try.underlying3 (hval 3 3 v3 rfl rfl) h3
  exact moves_c a b c k (wf_i64 hk).2 v0 v1 v2 W hB0 hB1 hB2 hl0 hl1 hl2

theorem moves_holds : Rows.DriveMovesSaid :=
  OpenClaim.holds_of_wide 6 Try.f6 rfl rfl rfl rfl rfl rfl rfl ⟨rfl, rfl, rfl, rfl, rfl⟩ rfl rfl rfl rfl rfl (by kernel_rfl) Try.func6 (by kernel_rfl)
    (of_decide_eq_true (by kernel_rfl)) (by unfold Func.isWrapper; first | (rw [if_pos (by decide +kernel)]; kernel_rfl) | (rw [if_neg (by decide +kernel)]; exact ⟨rfl, rfl⟩))
    (fun os started H enc _ => moves_lifted os started H enc)
#print axioms moves_holds
end Go.Proofs.Ytmhmdnlkkpjdjaa
