/-
  PROVED: StampTwo answers true, whatever walls and number it is given. Conditions: none.
-/
import Derived.Test.YtmhonaelkcllhaaStmTwoLaw
import Derived.Test.YtmhonaelkcllhaaStmNums
import Derived.Test.YtmhonaelkcllhaaLift
namespace Go.Proofs.Ytmhonaelkcllhaa
open Go.RowKit Go.ChangeShapes Go.WideShapes Go.ChangeAt Go.Deep

set_option maxRecDepth 100000 in
theorem two_lifted (os : Os) (started : os.Started) (H : Type) (enc : TypeId × Value → H) :
    ReturnsInHanded {} Try.checked os 8 .any (Rows.stampTwoSpec.pre6 enc Try.prog Try.f8 [] false) (Rows.stampTwoSpec.post enc Try.prog Try.f8 false true false false) := by
  refine law_lift (C := Try.checked) own started (by kernel_rfl) Try.func8
    (ChangeSpec.witness6 (enc := enc) (C := Try.checked) false ⟨#[], #[.slice none 0 0, .int .i64 0], []⟩ 8 (by kernel_rfl) (by kernel_rfl) (by kernel_rfl) (by kernel_rfl)) laidOut
    (by rw [Try.params8]; exact of_decide_eq_true (by kernel_rfl)) rfl 4 Try.underlying4 (by kernel_rfl)
    (fun ds h => by
      rw [Try.params8] at h
      match ds, h with
      | [_, _], _ => rfl) ?_
  intro W base args ds ps hval hA _
  rw [Try.params8] at hA hval
  obtain ⟨v0, v1, d0, d1, p0, p1, rfl, rfl, rfl, h0, h1⟩ := trodAll_two hA
  obtain ⟨l, hS⟩ := open_nums (hval 0 52 v0 rfl rfl) h0
  obtain ⟨n, rfl, rfl, rfl, _⟩ := open_int Try.underlying3 (hval 1 3 v1 rfl rfl) h1
  by_cases hn : l.length ≤ 40
  · exact two_few l v0 n W hn hS
  · obtain ⟨ad, cap, rfl, _⟩ := hS
    exact two_many ad l.length cap n W (by omega)

theorem two_holds : Rows.StampTwoSaid :=
  OpenClaim.holds_of_wide 8 Try.f8 rfl rfl rfl rfl rfl rfl rfl ⟨rfl, rfl, rfl, rfl, rfl⟩ rfl rfl rfl rfl rfl (by kernel_rfl) Try.func8 (by kernel_rfl)
    (of_decide_eq_true (by kernel_rfl)) (by unfold Func.isWrapper; first | (rw [if_pos (by decide +kernel)]; kernel_rfl) | (rw [if_neg (by decide +kernel)]; exact ⟨rfl, rfl⟩))
    (fun os started H enc _ => two_lifted os started H enc)
#print axioms two_holds
end Go.Proofs.Ytmhonaelkcllhaa
