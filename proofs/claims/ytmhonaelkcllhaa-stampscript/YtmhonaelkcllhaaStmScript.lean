/-
  PROVED: StampScript answers true, whatever stamp and acts it is given. Conditions: none.
-/
import Derived.Test.YtmhonaelkcllhaaStmScriptLaw
import Derived.Test.YtmhonaelkcllhaaStmActs
import Derived.Test.YtmhonaelkcllhaaLift
namespace Go.Proofs.Ytmhonaelkcllhaa
open Go.RowKit Go.ChangeShapes Go.WideShapes Go.ChangeAt Go.Deep

set_option maxRecDepth 100000 in
theorem script_lifted (os : Os) (started : os.Started) (H : Type) (enc : TypeId × Value → H) :
    ReturnsInHanded {} Try.checked os 4 .any (Rows.stampScriptSpec.pre6 enc Try.prog Try.f4 [] false) (Rows.stampScriptSpec.post enc Try.prog Try.f4 false true false false) := by
  refine law_lift (C := Try.checked) own started (by kernel_rfl) Try.func4
    (ChangeSpec.witness6 (enc := enc) (C := Try.checked) false ⟨#[], #[.agg #[.int .i64 0, .int .i64 0], .slice none 0 0], []⟩ 8 (by kernel_rfl) (by kernel_rfl) (by kernel_rfl) (by kernel_rfl)) laidOut
    (by rw [Try.params4]; exact of_decide_eq_true (by kernel_rfl)) rfl 4 Try.underlying4 (by kernel_rfl)
    (fun ds h => by
      rw [Try.params4] at h
      match ds, h with
      | [_, _], _ => rfl) ?_
  intro W base args ds ps hval hA _
  rw [Try.params4] at hA hval
  obtain ⟨v0, v1, d0, d1, p0, p1, rfl, rfl, rfl, h0, h1⟩ := trodAll_two hA
  obtain ⟨a, c, rfl, _, _⟩ := open_stamp (hval 0 23 v0 rfl rfl) h0
  obtain ⟨l, hS⟩ := open_acts (hval 1 33 v1 rfl rfl) h1
  by_cases hn : l.length ≤ 60
  · cases hm : mayB a c
    · obtain ⟨ad, cap, rfl, _⟩ := hS
      exact script_no a c ad l.length cap W hn hm
    · exact script_yes a c l v1 W hn hm hS
  · obtain ⟨ad, cap, rfl, _⟩ := hS
    exact script_many a c ad l.length cap W (by omega)

theorem script_holds : Rows.StampScriptSaid :=
  OpenClaim.holds_of_wide 4 Try.f4 rfl rfl rfl rfl rfl rfl rfl ⟨rfl, rfl, rfl, rfl, rfl⟩ rfl rfl rfl rfl rfl (by kernel_rfl) Try.func4 (by kernel_rfl)
    (of_decide_eq_true (by kernel_rfl)) (by unfold Func.isWrapper; first | (rw [if_pos (by decide +kernel)]; kernel_rfl) | (rw [if_neg (by decide +kernel)]; exact ⟨rfl, rfl⟩))
    (fun os started H enc _ => script_lifted os started H enc)
#print axioms script_holds
end Go.Proofs.Ytmhonaelkcllhaa
