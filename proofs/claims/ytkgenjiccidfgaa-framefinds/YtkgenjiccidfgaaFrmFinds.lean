/-
  PROVED: which frames stand in any bytes, at any place, and how many from the beginning on, is the document's, for every input (no condition).
-/
import Derived.Test.YtkgenjiccidfgaaFrmFindsLaw
import Derived.Test.YtkgenjiccidfgaaFrmArgs
import Derived.Test.YtkgenjiccidfgaaLift
namespace Go.Proofs.Ytkgenjiccidfgaa
open Go.RowKit Go.ChangeShapes Go.WideShapes Go.ChangeAt Go.Deep

set_option maxRecDepth 100000 in
theorem finds_lifted (os : Os) (started : os.Started) (H : Type) (enc : TypeId × Value → H) :
    ReturnsInHanded {} Try.checked os 4 .any (Rows.frameFindsSpec.pre6 enc Try.prog Try.f4 [] false) (Rows.frameFindsSpec.post enc Try.prog Try.f4 false true false false) := by
  refine law_lift (C := Try.checked) own started (by kernel_rfl) Try.func4
    (ChangeSpec.witness6 (enc := enc) (C := Try.checked) false ⟨#[], #[.slice none 0 0, .int .i64 0], []⟩ 8 (by kernel_rfl) (by kernel_rfl) (by kernel_rfl) (by kernel_rfl)) laidOut
    (by rw [Try.params4]; exact of_decide_eq_true (by kernel_rfl)) rfl 4 Try.underlying4 (by kernel_rfl)
    (fun ds h => by
      rw [Try.params4] at h
      match ds, h with
      | [_, _], _ => rfl) ?_
  intro W base args ds ps hval hA _
  rw [Try.params4] at hA hval
  obtain ⟨v0, v1, d0, d1, p0, p1, rfl, rfl, rfl, h0, h1⟩ := trodAll_two hA
  obtain ⟨l, hB, ok, hl, hc⟩ := open_bytes (hval 0 22 v0 rfl rfl) h0
  obtain ⟨a, rfl, rfl, rfl, _⟩ := open_int Try.underlying3 (hval 1 3 v1 rfl rfl) h1
  obtain ⟨ad, cap, rfl, _⟩ := hB.form
  exact finds_c l _ a W ⟨hB, ad, cap, rfl, hc _ _ _ rfl⟩ ok hl

theorem finds_holds : Rows.FrameFindsSaid :=
  OpenClaim.holds_of_wide 4 Try.f4 rfl rfl rfl rfl rfl rfl rfl ⟨rfl, rfl, rfl, rfl, rfl⟩ rfl rfl rfl rfl rfl (by kernel_rfl) Try.func4 (by kernel_rfl)
    (of_decide_eq_true (by kernel_rfl)) (by unfold Func.isWrapper; first | (rw [if_pos (by decide +kernel)]; kernel_rfl) | (rw [if_neg (by decide +kernel)]; exact ⟨rfl, rfl⟩))
    (fun os started H enc _ => finds_lifted os started H enc)
#print axioms finds_holds
end Go.Proofs.Ytkgenjiccidfgaa
