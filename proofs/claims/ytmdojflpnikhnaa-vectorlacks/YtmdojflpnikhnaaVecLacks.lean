/-
  PROVED: VectorLacks answers true, whatever vectors and number it is given. Conditions: none.
-/
import Derived.Test.YtmdojflpnikhnaaVecLacksLaw
import Derived.Test.YtmdojflpnikhnaaVecArgs
import Derived.Test.YtmdojflpnikhnaaLift
namespace Go.Proofs.Ytmdojflpnikhnaa
open Go.RowKit Go.ChangeShapes Go.WideShapes Go.ChangeAt Go.Deep

set_option maxRecDepth 100000 in
theorem lacks_lifted (os : Os) (started : os.Started) (H : Type) (enc : TypeId × Value → H) :
    ReturnsInHanded {} Try.checked os 5 .any (Rows.vectorLacksSpec.pre6 enc Try.prog Try.f5 [] false) (Rows.vectorLacksSpec.post enc Try.prog Try.f5 false true false false) := by
  refine law_lift (C := Try.checked) own started (by kernel_rfl) Try.func5
    (ChangeSpec.witness6 (enc := enc) (C := Try.checked) false ⟨#[], #[.slice none 0 0, .slice none 0 0, .slice none 0 0, .int .i64 0], []⟩ 8 (by kernel_rfl) (by kernel_rfl) (by kernel_rfl) (by kernel_rfl)) laidOut
    (by rw [Try.params5]; exact of_decide_eq_true (by kernel_rfl)) rfl 4 Try.underlying4 (by kernel_rfl)
    (fun ds h => by
      rw [Try.params5] at h
      match ds, h with
      | [_, _, _, _], _ => rfl) ?_
  intro W base args ds ps hval hA _
  rw [Try.params5] at hA hval
  obtain ⟨v0, v1, v2, v3, d0, d1, d2, d3, p0, p1, p2, p3, rfl, rfl, rfl, h0, h1, h2, h3⟩ := trodAll_four hA
  obtain ⟨x, hX⟩ := open_nums (hval 0 23 v0 rfl rfl) h0
  obtain ⟨y, hY⟩ := open_nums (hval 1 23 v1 rfl rfl) h1
  obtain ⟨z, hZ⟩ := open_nums (hval 2 23 v2 rfl rfl) h2
  obtain ⟨n, rfl, rfl, rfl, _⟩ := open_int Try.underlying3 (hval 3 3 v3 rfl rfl) h3
  exact lacks_c x y z v0 v1 v2 n W hX hY hZ

theorem lacks_holds : Rows.VectorLacksSaid :=
  OpenClaim.holds_of_wide 5 Try.f5 rfl rfl rfl rfl rfl rfl rfl ⟨rfl, rfl, rfl, rfl, rfl⟩ rfl rfl rfl rfl rfl (by kernel_rfl) Try.func5 (by kernel_rfl)
    (of_decide_eq_true (by kernel_rfl)) (by unfold Func.isWrapper; first | (rw [if_pos (by decide +kernel)]; kernel_rfl) | (rw [if_neg (by decide +kernel)]; exact ⟨rfl, rfl⟩))
    (fun os started H enc _ => lacks_lifted os started H enc)
#print axioms lacks_holds
end Go.Proofs.Ytmdojflpnikhnaa
