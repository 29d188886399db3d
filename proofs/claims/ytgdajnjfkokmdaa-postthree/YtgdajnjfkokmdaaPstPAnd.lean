/-
  And and Phrase of the program, by contract.
-/
import Derived.Test.YtgdajnjfkokmdaaPstKofB
import Derived.Test.YtgdajnjfkokmdaaPstKofC
namespace Go.Proofs.Ytgdajnjfkokmdaa
open Go.RowKit Go.Lib
set_option maxRecDepth 100000

theorem pand_c : lsC 10 andK := by
  intro ls v w h hs _
  have C := Lib.hid (kof_and ls v w h hs)
  obtain ⟨⟨ad, cap, rfl, _, _⟩, _⟩ := h
  generalize andK (pls ls) = K at C ⊢
  unfold keysT at C ⊢
  go_enter Try.func10, Try.ntmps10
  go_wp2_with fail
  refine C.out.mono ?_
  rintro e w2 ⟨v2, rfl, hr, hb⟩
  obtain ⟨A, CC, ek, _⟩ := own_form hr
  subst ek
  have HR := Lib.hid hr
  have HB := Lib.hid hb
  clear hr hb C
  go_wp2
  go_ret
  exact ⟨_, rfl, HR.out, HB.out⟩
theorem pphr_c : lsC 12 phK := by
  intro ls v w h hs hok
  have C := Lib.hid (kof_ph ls v w h hs hok)
  obtain ⟨⟨ad, cap, rfl, _, _⟩, _⟩ := h
  generalize phK (pls ls) = K at C ⊢
  unfold keysT at C ⊢
  go_enter Try.func12, Try.ntmps12
  go_wp2_with fail
  refine C.out.mono ?_
  rintro e w2 ⟨v2, rfl, hr, hb⟩
  obtain ⟨A, CC, ek, _⟩ := own_form hr
  subst ek
  have HR := Lib.hid hr
  have HB := Lib.hid hb
  clear hr hb C
  go_wp2
  go_ret
  exact ⟨_, rfl, HR.out, HB.out⟩
theorem pmay_all : mayC 17 := fun l v w h hs => pmay_c l v w h (by omega) (fun x hx => by have := hs.2 x hx; omega)
end Go.Proofs.Ytgdajnjfkokmdaa
