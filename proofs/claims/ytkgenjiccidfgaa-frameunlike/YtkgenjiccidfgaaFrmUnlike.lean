/-
  PROVED: two frames are the same only if their kinds and bodies are; one behind the other they are found each; of either without its first byte there is none that is all of it, for every input (no condition).
-/
import Derived.Test.YtkgenjiccidfgaaFrmUnlikeLaw
import Derived.Test.YtkgenjiccidfgaaFrmArgs
import Derived.Test.YtkgenjiccidfgaaLift
namespace Go.Proofs.Ytkgenjiccidfgaa
open Go.RowKit Go.ChangeShapes Go.WideShapes Go.ChangeAt Go.Deep

set_option maxRecDepth 100000 in
theorem unlike_lifted (os : Os) (started : os.Started) (H : Type) (enc : TypeId × Value → H) :
    ReturnsInHanded {} Try.checked os 7 .any (Rows.frameUnlikeSpec.pre6 enc Try.prog Try.f7 [] false) (Rows.frameUnlikeSpec.post enc Try.prog Try.f7 false true false false) := by
  refine law_lift (C := Try.checked) own started (by kernel_rfl) Try.func7
    (ChangeSpec.witness6 (enc := enc) (C := Try.checked) false ⟨#[], #[.int .i64 0, .slice none 0 0, .int .i64 0, .slice none 0 0], []⟩ 8 (by kernel_rfl) (by kernel_rfl) (by kernel_rfl) (by kernel_rfl)) laidOut
    (by rw [Try.params7]; exact of_decide_eq_true (by kernel_rfl)) rfl 4 Try.underlying4 (by kernel_rfl)
    (fun ds h => by
      rw [Try.params7] at h
      match ds, h with
      | [_, _, _, _], _ => rfl) ?_
  intro W base args ds ps hval hA _
  rw [Try.params7] at hA hval
  obtain ⟨v0, v1, v2, v3, d0, d1, d2, d3, p0, p1, p2, p3, rfl, rfl, rfl, h0, h1, h2, h3⟩ := trodAll_four hA
  obtain ⟨k, rfl, rfl, rfl, _⟩ := open_int Try.underlying3 (hval 0 3 v0 rfl rfl) h0
  obtain ⟨b, hB, okb, hlb, _⟩ := open_bytes (hval 1 22 v1 rfl rfl) h1
  obtain ⟨o, rfl, rfl, rfl, _⟩ := open_int Try.underlying3 (hval 2 3 v2 rfl rfl) h2
  obtain ⟨m, hM, okm, hlm, _⟩ := open_bytes (hval 3 22 v3 rfl rfl) h3
  by_cases hlong : 300 < b.length ∨ 300 < m.length
  · obtain ⟨ad1, cap1, rfl, _⟩ := hB.form
    obtain ⟨ad2, cap2, rfl, _⟩ := hM.form
    exact unlike_long k o b m ad1 ad2 cap1 cap2 W hlong hlb hlm
  · exact unlike_some k o b m v1 v3 W hB hM okb okm (by omega) (by omega)

theorem unlike_holds : Rows.FrameUnlikeSaid :=
  OpenClaim.holds_of_wide 7 Try.f7 rfl rfl rfl rfl rfl rfl rfl ⟨rfl, rfl, rfl, rfl, rfl⟩ rfl rfl rfl rfl rfl (by kernel_rfl) Try.func7 (by kernel_rfl)
    (of_decide_eq_true (by kernel_rfl)) (by unfold Func.isWrapper; first | (rw [if_pos (by decide +kernel)]; kernel_rfl) | (rw [if_neg (by decide +kernel)]; exact ⟨rfl, rfl⟩))
    (fun os started H enc _ => unlike_lifted os started H enc)
#print axioms unlike_holds
end Go.Proofs.Ytkgenjiccidfgaa
