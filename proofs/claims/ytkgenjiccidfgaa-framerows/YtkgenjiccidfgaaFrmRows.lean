/-
  PROVED: as many frames as were laid one behind the other are counted, whatever stands behind that is no frame, for every input (no condition).
-/
import Derived.Test.YtkgenjiccidfgaaFrmRowsLaw
import Derived.Test.YtkgenjiccidfgaaFrmArgs
import Derived.Test.YtkgenjiccidfgaaLift
namespace Go.Proofs.Ytkgenjiccidfgaa
open Go.RowKit Go.ChangeShapes Go.WideShapes Go.ChangeAt Go.Deep

set_option maxRecDepth 100000 in
theorem rows_lifted (os : Os) (started : os.Started) (H : Type) (enc : TypeId × Value → H) :
    ReturnsInHanded {} Try.checked os 6 .any (Rows.frameRowsSpec.pre6 enc Try.prog Try.f6 [] false) (Rows.frameRowsSpec.post enc Try.prog Try.f6 false true false false) := by
  refine law_lift (C := Try.checked) own started (by kernel_rfl) Try.func6
    (ChangeSpec.witness6 (enc := enc) (C := Try.checked) false ⟨#[], #[.slice none 0 0, .int .i64 0, .slice none 0 0], []⟩ 8 (by kernel_rfl) (by kernel_rfl) (by kernel_rfl) (by kernel_rfl)) laidOut
    (by rw [Try.params6]; exact of_decide_eq_true (by kernel_rfl)) rfl 4 Try.underlying4 (by kernel_rfl)
    (fun ds h => by
      rw [Try.params6] at h
      match ds, h with
      | [_, _, _], _ => rfl) ?_
  intro W base args ds ps hval hA _
  rw [Try.params6] at hA hval
  obtain ⟨v0, v1, v2, d0, d1, d2, p0, p1, p2, rfl, rfl, rfl, h0, h1, h2⟩ := trodAll_three hA
  obtain ⟨bs, hP, hlb, hob⟩ := open_parts (hval 0 41 v0 rfl rfl) h0
  obtain ⟨k, rfl, rfl, rfl, _⟩ := open_int Try.underlying3 (hval 1 3 v1 rfl rfl) h1
  obtain ⟨t, hT, okt, hlt, hct⟩ := open_bytes (hval 2 22 v2 rfl rfl) h2
  obtain ⟨ad2, cap2, rfl, _⟩ := hT.form
  by_cases hlong : 12 < bs.length ∨ 100 < t.length
  · obtain ⟨ad1, cap1, rfl, _⟩ := hP
    exact rows_long bs k t ad1 ad2 cap1 cap2 W hlong hlb hlt
  · exact rows_some bs k t v0 _ W hP ⟨hT, ad2, cap2, rfl, hct _ _ _ rfl⟩ hob okt (by omega) (by omega)

theorem rows_holds : Rows.FrameRowsSaid :=
  OpenClaim.holds_of_wide 6 Try.f6 rfl rfl rfl rfl rfl rfl rfl ⟨rfl, rfl, rfl, rfl, rfl⟩ rfl rfl rfl rfl rfl (by kernel_rfl) Try.func6 (by kernel_rfl)
    (of_decide_eq_true (by kernel_rfl)) (by unfold Func.isWrapper; first | (rw [if_pos (by decide +kernel)]; kernel_rfl) | (rw [if_neg (by decide +kernel)]; exact ⟨rfl, rfl⟩))
    (fun os started H enc _ => rows_lifted os started H enc)
#print axioms rows_holds
end Go.Proofs.Ytkgenjiccidfgaa
