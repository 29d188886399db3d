/-
  PROVED: StampMost answers true, whatever stamps and number it is given. Conditions: none.
-/
import Derived.Test.YtmhonaelkcllhaaStmMostLaw
import Derived.Test.YtmhonaelkcllhaaStmArgs
import Derived.Test.YtmhonaelkcllhaaLift
namespace Go.Proofs.Ytmhonaelkcllhaa
open Go.RowKit Go.ChangeShapes Go.WideShapes Go.ChangeAt Go.Deep

set_option maxRecDepth 100000 in
theorem most_lifted (os : Os) (started : os.Started) (H : Type) (enc : TypeId × Value → H) :
    ReturnsInHanded {} Try.checked os 7 .any (Rows.stampMostSpec.pre6 enc Try.prog Try.f7 [] false) (Rows.stampMostSpec.post enc Try.prog Try.f7 false true false false) := by
  refine law_lift (C := Try.checked) own started (by kernel_rfl) Try.func7
    (ChangeSpec.witness6 (enc := enc) (C := Try.checked) false ⟨#[], #[.slice none 0 0, .int .i64 0], []⟩ 8 (by kernel_rfl) (by kernel_rfl) (by kernel_rfl) (by kernel_rfl)) laidOut
    (by rw [Try.params7]; exact of_decide_eq_true (by kernel_rfl)) rfl 4 Try.underlying4 (by kernel_rfl)
    (fun ds h => by
      rw [Try.params7] at h
      match ds, h with
      | [_, _], _ => rfl) ?_
  intro W base args ds ps hval hA _
  rw [Try.params7] at hA hval
  obtain ⟨v0, v1, d0, d1, p0, p1, rfl, rfl, rfl, h0, h1⟩ := trodAll_two hA
  obtain ⟨l, hS⟩ := open_stamps (hval 0 24 v0 rfl rfl) h0
  obtain ⟨n, rfl, rfl, rfl, _⟩ := open_int Try.underlying3 (hval 1 3 v1 rfl rfl) h1
  obtain ⟨ad, cap, rfl, hc, hs⟩ := hS
  by_cases hn : l.length ≤ 30
  · cases l with
    | nil => exact most_none ad cap n W
    | cons p t =>
      obtain ⟨b, o, rfl, hst⟩ := hs (by simp)
      exact most_some (p :: t) b o cap n W hn (by simp) hc hst
  · exact most_many ad l.length cap n W (by omega)

theorem most_holds : Rows.StampMostSaid :=
  OpenClaim.holds_of_wide 7 Try.f7 rfl rfl rfl rfl rfl rfl rfl ⟨rfl, rfl, rfl, rfl, rfl⟩ rfl rfl rfl rfl rfl (by kernel_rfl) Try.func7 (by kernel_rfl)
    (of_decide_eq_true (by kernel_rfl)) (by unfold Func.isWrapper; first | (rw [if_pos (by decide +kernel)]; kernel_rfl) | (rw [if_neg (by decide +kernel)]; exact ⟨rfl, rfl⟩))
    (fun os started H enc _ => most_lifted os started H enc)
#print axioms most_holds
end Go.Proofs.Ytmhonaelkcllhaa
