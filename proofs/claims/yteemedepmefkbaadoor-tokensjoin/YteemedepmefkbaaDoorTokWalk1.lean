/-
  The leaves of package tokens: letter, Norm, May, One, by contract.
-/
import Derived.Test.YteemedepmefkbaaDoorShelf
import Derived.Test.YteemedepmefkbaaDoorTokPlain
import Derived.Test.YteemedepmefkbaaDoorTokValid
import Derived.WalkKit
import Derived.WalkMore
import Derived.BigCall
import Derived.Below
import Derived.Lib.Hide
import Derived.Shelf.Unicode.PredsPay
namespace Go.Proofs.YteemedepmefkbaaDoor
open Go.RowKit Go.Shelf Go.Lib Go.Proofs.GvTok

theorem below_drewN {B : Nat} {a w : World} (h : Below B a w) (n : Nat) : Below B a (w.drewN n) := ⟨h.os, h.tape, h.output, h.size, h.block⟩

/-- The library's six tables are in place. -/
def Tabs (w : World) : Prop :=
  Lib.TabIs Tryd.prog w "unicode.properties" .u8 Lib.propertiesTab ∧ RVar (Tryd.lays200_ren.g 8) letterT w ∧ RVar (Tryd.lays198_ren.g 5) digitT w ∧ CaseVar (Tryd.lays204_ren.g 13) caseA w ∧ Lib.Utf8Tabs (Tryd.lays196_ren.g 3) (Tryd.lays196_ren.g 4) w

theorem caseVar_below {g : Nat} {T : Array CaseRow} {w w' : World} (h : CaseVar g T w) (hb : Below w.heap.size w w') : CaseVar g T w' := by
  have k : ∀ {a : Addr} {v : Value}, w.cell? a = some v → w'.cell? a = some v := fun {a v} hc => (hb.cell (World.block_lt_of_cell? w a hc)).trans hc
  obtain ⟨R, oR, cap, h1, h2⟩ := h
  exact ⟨R, oR, cap, k h1, fun i hi => ⟨k (h2 i hi).1, k (h2 i hi).2.1, k (h2 i hi).2.2.1, k (h2 i hi).2.2.2.1, k (h2 i hi).2.2.2.2⟩⟩
theorem utf8Tabs_below {g3 g4 : Nat} {w w' : World} (h : Lib.Utf8Tabs g3 g4 w) (hb : Below w.heap.size w w') : Lib.Utf8Tabs g3 g4 w' := by
  have k : ∀ {a : Addr} {v : Value}, w.cell? a = some v → w'.cell? a = some v := fun {a v} hc => (hb.cell (World.block_lt_of_cell? w a hc)).trans hc
  exact ⟨fun c hc => k (h.1 c hc), fun i hi => ⟨k (h.2 i hi).1, k (h.2 i hi).2⟩⟩
theorem Tabs.below {w w' : World} (h : Tabs w) (hb : Below w.heap.size w w') : Tabs w' :=
  ⟨TabIs_below (g := Tryd.lays200_ren.g 7) (by kernel_rfl) h.1 hb, RVar_below h.2.1 hb, RVar_below h.2.2.1 hb, caseVar_below h.2.2.2.1 hb, utf8Tabs_below h.2.2.2.2 hb⟩

theorem valid_c (s : ByteArray) (w : World) (hs : s.size ≤ 9223372036854775807) (hT : Tabs w) :
    Calls Tryd.prog 18 #[.string s] w fun e w' => e = .returned (.bool (Lib.validD s.data.toList)) ∧ Below w.heap.size w w' :=
  validString_c s w hs hT.2.2.2.2
theorem isLetter_c (r : Int) (w : World) (hlo : -2147483648 ≤ r) (hhi : r ≤ 2147483647) (hT : Tabs w) :
    Calls Tryd.prog 27 #[.int .i32 r] w fun e w' => e = .returned (.bool (isLetterU r)) ∧ Below w.heap.size w w' :=
  Any.unicode_IsLetter_all Tryd.lays200 (by kernel_rfl) r w hlo hhi hT.1 hT.2.1
theorem isDigit_c (r : Int) (w : World) (hlo : -2147483648 ≤ r) (hhi : r ≤ 2147483647) (hT : Tabs w) :
    Calls Tryd.prog 28 #[.int .i32 r] w fun e w' => e = .returned (.bool (isDigitU r)) ∧ Below w.heap.size w w' :=
  Any.unicode_IsDigit_all Tryd.lays198 r w hlo hhi hT.2.2.1
theorem toLower_c (r : Int) (w : World) (hT : Tabs w) :
    Calls Tryd.prog 24 #[.int .i32 r] w fun e w' => e = .returned (.int .i32 (toLowerU r)) ∧ ∃ q, w' = w.drewN q :=
  Any.unicode_ToLower_laid Tryd.lays204 r w hT.2.2.2.1

set_option maxHeartbeats 1000000 in
theorem letter_c (r : Nat) (w : World) (hhi : r ≤ 1114111) (hT : Tabs w) :
    Calls Tryd.prog 19 #[.int .i32 (r : Int)] w fun e w' => e = .returned (.bool (letter r)) ∧ Below w.heap.size w w' := by
  have cL := isLetter_c (r : Int) w (by omega) (by omega) hT
  have cD : ∀ W1, Below w.heap.size w W1 → Calls Tryd.prog 28 #[.int .i32 (r : Int)] W1 fun e w' => e = .returned (.bool (isDigitU (r : Int))) ∧ Below W1.heap.size W1 w' :=
    fun W1 h1 => isDigit_c (r : Int) W1 (by omega) (by omega) (hT.below h1)
  unfold letter
  clear hT
  cases hl : isLetterU (r : Int) <;> cases hd : isDigitU (r : Int) <;> rw [hl] at cL <;> simp only [hd] at cD
  all_goals (
    go_enter Tryd.func19, Tryd.ntmps19
    go_wp2_with (first
      | (go_at_call 27; refine cL.mono ?_; rintro e W1 ⟨rfl, hb1⟩)
      | (go_at_call 28; refine (cD _ hb1).mono ?_; rintro e W2 ⟨rfl, hb2⟩))
    go_ret
    first
      | exact ⟨rfl, hb1.trans (hb2.mono hb1.size)⟩
      | exact ⟨rfl, hb1⟩)

set_option maxHeartbeats 1000000 in
theorem refletter_c (r : Nat) (w : World) (hhi : r ≤ 1114111) (hT : Tabs w) :
    Calls Tryd.prog 22 #[.int .i32 (r : Int)] w fun e w' => e = .returned (.bool (letter r)) ∧ Below w.heap.size w w' := by
  have cL := isLetter_c (r : Int) w (by omega) (by omega) hT
  have cD : ∀ W1, Below w.heap.size w W1 → Calls Tryd.prog 28 #[.int .i32 (r : Int)] W1 fun e w' => e = .returned (.bool (isDigitU (r : Int))) ∧ Below W1.heap.size W1 w' :=
    fun W1 h1 => isDigit_c (r : Int) W1 (by omega) (by omega) (hT.below h1)
  unfold letter
  clear hT
  cases hl : isLetterU (r : Int) <;> cases hd : isDigitU (r : Int) <;> rw [hl] at cL <;> simp only [hd] at cD
  all_goals (
    go_enter Tryd.func22, Tryd.ntmps22
    go_wp2_with (first
      | (go_at_call 27; refine cL.mono ?_; rintro e W1 ⟨rfl, hb1⟩)
      | (go_at_call 28; refine (cD _ hb1).mono ?_; rintro e W2 ⟨rfl, hb2⟩))
    go_ret
    first
      | exact ⟨rfl, hb1.trans (hb2.mono hb1.size)⟩
      | exact ⟨rfl, hb1⟩)

end Go.Proofs.YteemedepmefkbaaDoor
