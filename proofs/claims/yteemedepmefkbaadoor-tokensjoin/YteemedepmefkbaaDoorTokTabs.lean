/-
  The six tables of Go's library, as the rows list them, are in place; the row's wrap.
-/
import Derived.Test.YteemedepmefkbaaDoorTokLaws
import Derived.Test.YteemedepmefkbaaDoorRows
import Derived.Test.YteemedepmefkbaaDoorTie
import Derived.Test.YteemedepmefkbaaDoorCards
import Derived.ProofKit
import Derived.PinnedBridge
import Derived.Lay
import Derived.LaidOnce
import Derived.SevenTiedAt
import Derived.Lib.LaidU8T
import Derived.Lib.LaidTab
namespace Go.Proofs.YteemedepmefkbaaDoor
open Go.RowKit Go.Shelf Go.Lib Go.Proofs.GvTok
open Go.ChangeShapes Go.WideShapes Go.ChangeAt
open Go.ChangeMaps (open_string shut_string)

def seatLaid : List (String × DataW Unit) := Rows.tokensTellRow.laid

theorem xD : RExtra Tryd.prog Tryd.lays198_ren := ⟨by kernel_rfl, by kernel_rfl, by kernel_rfl, by kernel_rfl, by kernel_rfl, by kernel_rfl, by kernel_rfl, by kernel_rfl⟩
theorem xL : RExtra Tryd.prog Tryd.lays200_ren := ⟨by kernel_rfl, by kernel_rfl, by kernel_rfl, by kernel_rfl, by kernel_rfl, by kernel_rfl, by kernel_rfl, by kernel_rfl⟩
theorem xC : CaseExtra Tryd.prog Tryd.lays204_ren := ⟨by kernel_rfl, by kernel_rfl, by kernel_rfl, by kernel_rfl, by kernel_rfl, by kernel_rfl⟩
theorem xU : U8Extra Tryd.prog Tryd.lays196_ren := ⟨by kernel_rfl, by kernel_rfl, by kernel_rfl, by kernel_rfl, by kernel_rfl, by kernel_rfl, by kernel_rfl⟩

theorem acc_eq : (Rows.laid_unicode_utf8_acceptRanges : DataW Unit) = acceptData := by kernel_rfl
theorem prop_eq : (Rows.laid_unicode_properties : DataW Unit) = tabData .u8 propertiesTab := by kernel_rfl

theorem tabs_of_laid (W : World) (hL : laidMet Tryd.prog Rows.tokensTellRow.laid W) : Tabs W := by
  have r0 := Lib.laidMet.reads hL (.head _)
  have r1 := Lib.laidMet.reads hL (.tail _ (.head _))
  have r2 := Lib.laidMet.reads hL (.tail _ (.tail _ (.head _)))
  have r3 := Lib.laidMet.reads hL (.tail _ (.tail _ (.tail _ (.head _))))
  have r4 := Lib.laidMet.reads hL (.tail _ (.tail _ (.tail _ (.tail _ (.head _)))))
  have r5 := Lib.laidMet.reads hL (.tail _ (.tail _ (.tail _ (.tail _ (.tail _ (.head _))))))
  rw [acc_eq] at r0
  rw [prop_eq] at r1
  rw [show (Rows.laid_unicode_CaseRanges) = caseData from Pinned.caseRanges_eq] at r2
  rw [show (Rows.laid_unicode_Digit) = rtabData digitT from Pinned.digit_eq] at r3
  rw [show (Rows.laid_unicode_Letter) = rtabData letterT from Pinned.letter_eq] at r4
  rw [show (Rows.laid_unicode_utf8_first) = firstData from Pinned.utf8First_eq] at r5
  refine ⟨?_, rvar_of_reads { Tryd.lays200 with } xL (by kernel_rfl) (by kernel_rfl) r4, rvar_of_reads { Tryd.lays198 with } xD (by kernel_rfl) (by kernel_rfl) r3, caseVar_of_reads { Tryd.lays204 with } (by kernel_rfl) xC r2, utf8Tabs_of_readsT (U8Types.of196 Tryd.lays196) xU r5 r0⟩
  obtain ⟨g', t', cs, fuel, p, hg', ht', hvar, hd⟩ := r1
  unfold TabIs
  rw [hvar]
  obtain rfl := Option.some.inj ((show Tryd.prog.globalNamed "unicode.properties" = some (Tryd.lays200_ren.g 7) by kernel_rfl).symm.trans hg')
  obtain rfl := Option.some.inj ((show (Tryd.prog.globals[Tryd.lays200_ren.g 7]?).map (·.type) = some (Tryd.lays200_ren.t 119) by kernel_rfl).symm.trans ht')
  rw [← cells_of_tab (n := 256) (e := 5) (by kernel_rfl) Tryd.underlying5 (by kernel_rfl) (by kernel_rfl) hd]

theorem own : ownKnob Tryd.prog.godebug = none := by kernel_rfl

end Go.Proofs.YteemedepmefkbaaDoor
