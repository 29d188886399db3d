/-
  PROVED: a frame is found again, behind whatever stands ahead; cut short it is none; with one byte another one, that is not of its length, it is none, for every input (no condition).
-/
import Derived.Test.YtkgenjiccidfgaaFrmBackLaw
import Derived.Test.YtkgenjiccidfgaaFrmSix
import Derived.Test.YtkgenjiccidfgaaLift
namespace Go.Proofs.Ytkgenjiccidfgaa
open Go.RowKit Go.ChangeShapes Go.WideShapes Go.ChangeAt Go.Deep

set_option maxRecDepth 100000 in
theorem back_lifted (os : Os) (started : os.Started) (H : Type) (enc : TypeId × Value → H) :
    ReturnsInHanded {} Try.checked os 5 .any (Rows.frameBackSpec.pre6 enc Try.prog Try.f5 [] false) (Rows.frameBackSpec.post enc Try.prog Try.f5 false true false false) := by
  refine law_lift (C := Try.checked) own started (by kernel_rfl) Try.func5
    (ChangeSpec.witness6 (enc := enc) (C := Try.checked) false ⟨#[], #[.int .i64 0, .slice none 0 0, .slice none 0 0, .int .i64 0, .int .i64 0, .int .u8 0], []⟩ 8 (by kernel_rfl) (by kernel_rfl) (by kernel_rfl) (by kernel_rfl)) laidOut
    (by rw [Try.params5]; exact of_decide_eq_true (by kernel_rfl)) rfl 4 Try.underlying4 (by kernel_rfl)
    (fun ds h => by
      rw [Try.params5] at h
      match ds, h with
      | [_, _, _, _, _, _], _ => rfl) ?_
  intro W base args ds ps hval hA _
  rw [Try.params5] at hA hval
  obtain ⟨v0, v1, v2, v3, v4, v5, d0, d1, d2, d3, d4, d5, p0, p1, p2, p3, p4, p5, rfl, rfl, h0, h1, h2, h3, h4, h5⟩ := trodAll_six hA
  obtain ⟨k, rfl, rfl, rfl, _⟩ := open_int Try.underlying3 (hval 0 3 v0 rfl rfl) h0
  obtain ⟨b, hB, okb, hlb, _⟩ := open_bytes (hval 1 22 v1 rfl rfl) h1
  obtain ⟨a, hA2, oka, hla, _⟩ := open_bytes (hval 2 22 v2 rfl rfl) h2
  obtain ⟨c, rfl, rfl, rfl, _⟩ := open_int Try.underlying3 (hval 3 3 v3 rfl rfl) h3
  obtain ⟨n, rfl, rfl, rfl, _⟩ := open_int Try.underlying3 (hval 4 3 v4 rfl rfl) h4
  obtain ⟨y, rfl, rfl, rfl, hw⟩ := open_int Try.underlying5 (hval 5 5 v5 rfl rfl) h5
  by_cases hlong : 300 < b.length ∨ 300 < a.length
  · obtain ⟨ad1, cap1, rfl, _⟩ := hB.form
    obtain ⟨ad2, cap2, rfl, _⟩ := hA2.form
    exact back_long k b a ad1 ad2 cap1 cap2 c n y W hlong hlb hla
  · cases hok : okF k b
    · obtain ⟨ad2, cap2, rfl, _⟩ := hA2.form
      exact back_no k b a v1 ad2 cap2 c n y W hB (by omega) (by omega) hok
    · exact back_yes k b a v1 v2 c n y W hB hA2 okb oka (by omega) (by omega) (wf_u8 hw) hok

theorem back_holds : Rows.FrameBackSaid :=
  OpenClaim.holds_of_wide 5 Try.f5 rfl rfl rfl rfl rfl rfl rfl ⟨rfl, rfl, rfl, rfl, rfl⟩ rfl rfl rfl rfl rfl (by kernel_rfl) Try.func5 (by kernel_rfl)
    (of_decide_eq_true (by kernel_rfl)) (by unfold Func.isWrapper; first | (rw [if_pos (by decide +kernel)]; kernel_rfl) | (rw [if_neg (by decide +kernel)]; exact ⟨rfl, rfl⟩))
    (fun os started H enc _ => back_lifted os started H enc)
#print axioms back_holds
end Go.Proofs.Ytkgenjiccidfgaa
