/-
  PROVED: VectorTells answers true, whatever vectors and number it is given. Conditions: none.
-/
import Derived.Test.YtmdojflpnikhnaaVecTellsLaw
import Derived.Test.YtmdojflpnikhnaaVecArgs
import Derived.Test.YtmdojflpnikhnaaLift
namespace Go.Proofs.Ytmdojflpnikhnaa
open Go.RowKit Go.ChangeShapes Go.WideShapes Go.ChangeAt Go.Deep

set_option maxRecDepth 100000 in
theorem tells_lifted (os : Os) (started : os.Started) (H : Type) (enc : TypeId × Value → H) :
    ReturnsInHanded {} Try.checked os 3 .any (Rows.vectorTellsSpec.pre6 enc Try.prog Try.f3 [] false) (Rows.vectorTellsSpec.post enc Try.prog Try.f3 false true false false) := by
  refine law_lift (C := Try.checked) own started (by kernel_rfl) Try.func3
    (ChangeSpec.witness6 (enc := enc) (C := Try.checked) false ⟨#[], #[.slice none 0 0, .slice none 0 0, .slice none 0 0, .slice none 0 0, .int .i64 0], []⟩ 8 (by kernel_rfl) (by kernel_rfl) (by kernel_rfl) (by kernel_rfl)) laidOut
    (by rw [Try.params3]; exact of_decide_eq_true (by kernel_rfl)) rfl 4 Try.underlying4 (by kernel_rfl)
    (fun ds h => by
      rw [Try.params3] at h
      match ds, h with
      | [_, _, _, _, _], _ => rfl) ?_
  intro W base args ds ps hval hA _
  rw [Try.params3] at hA hval
  obtain ⟨v0, vs0, d0, ds0, p0, q0, ha, rfl, rfl, h0, hr0⟩ := trodAll_cons hA
  obtain ⟨v1, v2, v3, v4, d1, d2, d3, d4, p1, p2, p3, p4, hb, rfl, rfl, h1, h2, h3, h4⟩ := trodAll_four (args := vs0.toArray) hr0
  have hvs : args = #[v0, v1, v2, v3, v4] := by
    have e1 : vs0 = [v1, v2, v3, v4] := by simpa using congrArg Array.toList hb
    rw [e1] at ha
    cases args
    simp_all
  subst hvs
  obtain ⟨ls, hV⟩ := open_vecs (hval 0 22 v0 rfl rfl) h0
  obtain ⟨a, hA1⟩ := open_nums (hval 1 23 v1 rfl rfl) h1
  obtain ⟨b, hB1⟩ := open_nums (hval 2 23 v2 rfl rfl) h2
  obtain ⟨c, hC1⟩ := open_nums (hval 3 23 v3 rfl rfl) h3
  obtain ⟨n, rfl, rfl, rfl, _⟩ := open_int Try.underlying3 (hval 4 3 v4 rfl rfl) h4
  cases hg1 : greatB ls 12
  · cases hg2 : greatB [a, b, c] 3
    · exact tells_few ls a b c v0 v1 v2 v3 n W hV hA1 hB1 hC1 hg1 hg2
    · exact tells_great ls a b c v0 v1 v2 v3 n W hV hA1 hB1 hC1 (by rw [hg1, hg2]; rfl)
  · exact tells_great ls a b c v0 v1 v2 v3 n W hV hA1 hB1 hC1 (by rw [hg1]; rfl)

theorem tells_holds : Rows.VectorTellsSaid :=
  OpenClaim.holds_of_wide 3 Try.f3 rfl rfl rfl rfl rfl rfl rfl ⟨rfl, rfl, rfl, rfl, rfl⟩ rfl rfl rfl rfl rfl (by kernel_rfl) Try.func3 (by kernel_rfl)
    (of_decide_eq_true (by kernel_rfl)) (by unfold Func.isWrapper; first | (rw [if_pos (by decide +kernel)]; kernel_rfl) | (rw [if_neg (by decide +kernel)]; exact ⟨rfl, rfl⟩))
    (fun os started H enc _ => tells_lifted os started H enc)
#print axioms tells_holds
end Go.Proofs.Ytmdojflpnikhnaa
