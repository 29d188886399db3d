/-
  What keysOfAll hands to both, by contract: the places that are kept.
-/
import Derived.Test.YtgdajnjfkokmdaaPstBoth
namespace Go.Proofs.Ytgdajnjfkokmdaa
open Go.RowKit Go.Lib Go.Sort Go.Shelf
set_option maxRecDepth 100000

/-- A function that tells which places are kept. -/
def keepC (g : FuncId) (kf : Int → List Int → List Int → List Int) : Prop := ∀ (a b : Value) (la lb : List Int) (on : Int) (W0 W : World), Nl W0 a la → Nl W0 b lb → Below W0.heap.size W0 W → la.length ≤ 100000 → lb.length ≤ 100000 →
  Calls Try.prog g #[a, b, .int .i64 on] W fun e W' => ∃ v, e = .returned v ∧ AtOk W0 W' v (kf on la lb) ∧ Below W.heap.size W W'
theorem keep_and : keepC 31 (fun _ a _ => a) := by
  intro a b la lb on W0 W ha hb hB _ _
  obtain ⟨A, C, rfl, _⟩ := ha.form
  have HA := Lib.hid ha
  obtain ⟨A2, C2, rfl, _⟩ := hb.form
  clear ha hb
  go_enter Try.func31, Try.ntmps31
  go_wp2
  go_ret
  exact ⟨_, rfl, .inl HA.out, Below.refl _ _⟩
theorem keep_fol : keepC 38 folL := by
  intro a b la lb on W0 W ha hb hB h1 h2
  refine (followed_c la lb a b on W (ha.below hB) (hb.below hB) h1 h2).mono ?_
  rintro e w' ⟨v, rfl, hr, hb⟩
  exact ⟨v, rfl, .inr (hr.mono hB.size), hb⟩
set_option maxHeartbeats 2000000 in
theorem keepAnd_c (a b : Value) (la lb : List Int) (i : Nat) (B1 B2 : Nat) (W0 W : World) (ha : Nl W0 a la) (hb : Nl W0 b lb) (hB : Below W0.heap.size W0 W) (h1 : la.length ≤ 100000) (h2 : lb.length ≤ 100000) (hi : i ≤ 1000)
    (hk : W.cell? ⟨B1, 0, none⟩ = some (.func (.func 31) #[] #[])) (hn : W.cell? ⟨B2, 0, none⟩ = some (.int .i64 (i : Int))) :
    Calls Try.prog 49 #[a, b, .pointer (some ⟨B1, 0, none⟩), .pointer (some ⟨B2, 0, none⟩)] W fun e W' => ∃ v, e = .returned v ∧ AtOk W0 W' v la ∧ Below W.heap.size W W' := by
  have C := Lib.hid (keep_and a b la lb ((i : Int) + 1) W0 W ha hb hB h1 h2)
  obtain ⟨A, CA, rfl, _⟩ := ha.form
  obtain ⟨A2, C2, rfl, _⟩ := hb.form
  have eg : ∀ args w, (callFunc 31 args).run Try.prog w = .ok (.enter 31 args) w := enters_of Try.func31 (by kernel_rfl) rfl
  clear ha hb hB
  go_enter Try.func49, Try.ntmps49
  go_wp2_with fail
  refine C.out.mono ?_
  rintro e w2 ⟨v, rfl, hv, hb⟩
  obtain ⟨A3, C3, rfl⟩ := hv.form
  have HV := Lib.hid hv
  clear hv
  go_wp2
  go_ret
  exact ⟨_, rfl, HV.out, hb⟩
set_option maxHeartbeats 2000000 in
theorem keepFol_c (a b : Value) (la lb : List Int) (i : Nat) (B1 B2 : Nat) (W0 W : World) (ha : Nl W0 a la) (hb : Nl W0 b lb) (hB : Below W0.heap.size W0 W) (h1 : la.length ≤ 100000) (h2 : lb.length ≤ 100000) (hi : i ≤ 1000)
    (hk : W.cell? ⟨B1, 0, none⟩ = some (.func (.func 38) #[] #[])) (hn : W.cell? ⟨B2, 0, none⟩ = some (.int .i64 (i : Int))) :
    Calls Try.prog 49 #[a, b, .pointer (some ⟨B1, 0, none⟩), .pointer (some ⟨B2, 0, none⟩)] W fun e W' => ∃ v, e = .returned v ∧ AtOk W0 W' v (folL ((i : Int) + 1) la lb) ∧ Below W.heap.size W W' := by
  have C := Lib.hid (keep_fol a b la lb ((i : Int) + 1) W0 W ha hb hB h1 h2)
  obtain ⟨A, CA, rfl, _⟩ := ha.form
  obtain ⟨A2, C2, rfl, _⟩ := hb.form
  have eg : ∀ args w, (callFunc 38 args).run Try.prog w = .ok (.enter 38 args) w := enters_of Try.func38 (by kernel_rfl) rfl
  clear ha hb hB
  generalize folL ((i : Int) + 1) la lb = rl at C ⊢
  go_enter Try.func49, Try.ntmps49
  go_wp2_with fail
  refine C.out.mono ?_
  rintro e w2 ⟨v, rfl, hv, hb⟩
  obtain ⟨A3, C3, rfl⟩ := hv.form
  have HV := Lib.hid hv
  clear hv
  go_wp2
  go_ret
  exact ⟨_, rfl, HV.out, hb⟩
end Go.Proofs.Ytgdajnjfkokmdaa
