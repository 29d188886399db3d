/-
  PROVED: StampTells answers true, whatever two stamps and list of stamps it is given. Conditions: none.
-/
import Derived.Test.YtmhonaelkcllhaaStmTellsLaw
import Derived.Test.YtmhonaelkcllhaaStmArgs
import Derived.Test.YtmhonaelkcllhaaLift
namespace Go.Proofs.Ytmhonaelkcllhaa
open Go.RowKit Go.ChangeShapes Go.WideShapes Go.ChangeAt Go.Deep

set_option maxRecDepth 100000 in
theorem tells_lifted (os : Os) (started : os.Started) (H : Type) (enc : TypeId × Value → H) :
    ReturnsInHanded {} Try.checked os 3 .any (Rows.stampTellsSpec.pre6 enc Try.prog Try.f3 [] false) (Rows.stampTellsSpec.post enc Try.prog Try.f3 false true false false) := by
  refine law_lift (C := Try.checked) own started (by kernel_rfl) Try.func3
    (ChangeSpec.witness6 (enc := enc) (C := Try.checked) false ⟨#[], #[.agg #[.int .i64 0, .int .i64 0], .agg #[.int .i64 0, .int .i64 0], .slice none 0 0], []⟩ 8 (by kernel_rfl) (by kernel_rfl) (by kernel_rfl) (by kernel_rfl)) laidOut
    (by rw [Try.params3]; exact of_decide_eq_true (by kernel_rfl)) rfl 4 Try.underlying4 (by kernel_rfl)
    (fun ds h => by
      rw [Try.params3] at h
      match ds, h with
      | [_, _, _], _ => rfl) ?_
  intro W base args ds ps hval hA _
  rw [Try.params3] at hA hval
  obtain ⟨v0, v1, v2, d0, d1, d2, p0, p1, p2, rfl, rfl, rfl, h0, h1, h2⟩ := trodAll_three hA
  obtain ⟨a, c, rfl, _, _⟩ := open_stamp (hval 0 23 v0 rfl rfl) h0
  obtain ⟨b, d, rfl, _, _⟩ := open_stamp (hval 1 23 v1 rfl rfl) h1
  obtain ⟨l, hS⟩ := open_stamps (hval 2 24 v2 rfl rfl) h2
  by_cases hn : l.length ≤ 30
  · exact tells_few a c b d l v2 W hn hS
  · obtain ⟨ad, cap, rfl, _, _⟩ := hS
    exact tells_many a c b d ad l.length cap W (by omega)

theorem tells_holds : Rows.StampTellsSaid :=
  OpenClaim.holds_of_wide 3 Try.f3 rfl rfl rfl rfl rfl rfl rfl ⟨rfl, rfl, rfl, rfl, rfl⟩ rfl rfl rfl rfl rfl (by kernel_rfl) Try.func3 (by kernel_rfl)
    (of_decide_eq_true (by kernel_rfl)) (by unfold Func.isWrapper; first | (rw [if_pos (by decide +kernel)]; kernel_rfl) | (rw [if_neg (by decide +kernel)]; exact ⟨rfl, rfl⟩))
    (fun os started H enc _ => tells_lifted os started H enc)
#print axioms tells_holds
end Go.Proofs.Ytmhonaelkcllhaa
