/-
  DERIVED. GIVEN WITH THE SEED: THE CARDS: each row of YtcnpckdchjjeoaaDoorRows.lean that lists a variable, with what it lists TIED to the program's text (the seventh form; the later family's looks); each row that meets fmt, with fmt's text TOLD by the authors' own Lean function (tested against real Go, not proved from fmt's source: count such statements apart). THE CARD IS WHAT COUNTS. Prove the row's statement (the work); the ties are given (YtcnpckdchjjeoaaDoorTie.lean); close each card by the builder's one call (the guide's Derived/Test/ToyasCard.lean, 'card_holds'). Laid BY PROGRAM, IN A SANDBOX (cutbox-door.mjs). By AI agents, Wed Nov 11 2026. No macro, syntax, notation, axiom, sorry.
-/
import Derived.Test.YtcnpckdchjjeoaaDoorRows
import GoSem.ClaimSeven
namespace Go.Proofs.YtcnpckdchjjeoaaDoor
namespace Rows

/-- THE TIED CARD OF 'grapevinelaw8.SegmentLays'. -/
def segmentLaysCard : Claim7 := { stood := { row := segmentLaysRow, standIns := [], harness := (true, "e4e6384e5254ff22d6cc67b314597ad97561214509939a4567f58d032b2a380b"), looks := false }, kinds := [], alts := [], laidByText := true, laidKinds := [.data, .pinned], laidTests := true, laidLooks := .later }
def SegmentLaysCardSaid : Prop := Claim7.holds Tryd.pinned (.plain (OpenSpec.ofChange segmentLaysSpec)) segmentLaysCard

/-- THE TIED CARD OF 'grapevinelaw8.SegmentReads'. -/
def segmentReadsCard : Claim7 := { stood := { row := segmentReadsRow, standIns := [], harness := (true, "e4e6384e5254ff22d6cc67b314597ad97561214509939a4567f58d032b2a380b"), looks := false }, kinds := [], alts := [], laidByText := true, laidKinds := [.data, .pinned], laidTests := true, laidLooks := .later }
def SegmentReadsCardSaid : Prop := Claim7.holds Tryd.pinned (.plain (OpenSpec.ofChange segmentReadsSpec)) segmentReadsCard

/-- THE TIED CARD OF 'grapevinelaw8.SegmentTorn'. -/
def segmentTornCard : Claim7 := { stood := { row := segmentTornRow, standIns := [], harness := (true, "e4e6384e5254ff22d6cc67b314597ad97561214509939a4567f58d032b2a380b"), looks := false }, kinds := [], alts := [], laidByText := true, laidKinds := [.data, .pinned], laidTests := true, laidLooks := .later }
def SegmentTornCardSaid : Prop := Claim7.holds Tryd.pinned (.plain (OpenSpec.ofChange segmentTornSpec)) segmentTornCard

/-- THE TIED CARD OF 'grapevinelaw8.SegmentUnlike'. -/
def segmentUnlikeCard : Claim7 := { stood := { row := segmentUnlikeRow, standIns := [], harness := (true, "e4e6384e5254ff22d6cc67b314597ad97561214509939a4567f58d032b2a380b"), looks := false }, kinds := [], alts := [], laidByText := true, laidKinds := [.data, .pinned], laidTests := true, laidLooks := .later }
def SegmentUnlikeCardSaid : Prop := Claim7.holds Tryd.pinned (.plain (OpenSpec.ofChange segmentUnlikeSpec)) segmentUnlikeCard

/-- THE SECOND FORM's CARD OF 'grapevinelaw8.SegmentLays'. -/
def segmentLaysUptoCard : Claim7 := { stood := { row := segmentLaysUptoRow, standIns := [], harness := (true, "e4e6384e5254ff22d6cc67b314597ad97561214509939a4567f58d032b2a380b"), looks := false }, kinds := [], alts := [], laidByText := true, laidKinds := [.data, .pinned], laidTests := true, laidLooks := .later }
def SegmentLaysUptoCardSaid : Prop := Claim7.holds Tryd.pinned (.plain (OpenSpec.upto segmentLaysSpec)) segmentLaysUptoCard

/-- THE SECOND FORM's CARD OF 'grapevinelaw8.SegmentReads'. -/
def segmentReadsUptoCard : Claim7 := { stood := { row := segmentReadsUptoRow, standIns := [], harness := (true, "e4e6384e5254ff22d6cc67b314597ad97561214509939a4567f58d032b2a380b"), looks := false }, kinds := [], alts := [], laidByText := true, laidKinds := [.data, .pinned], laidTests := true, laidLooks := .later }
def SegmentReadsUptoCardSaid : Prop := Claim7.holds Tryd.pinned (.plain (OpenSpec.upto segmentReadsSpec)) segmentReadsUptoCard

/-- THE SECOND FORM's CARD OF 'grapevinelaw8.SegmentTorn'. -/
def segmentTornUptoCard : Claim7 := { stood := { row := segmentTornUptoRow, standIns := [], harness := (true, "e4e6384e5254ff22d6cc67b314597ad97561214509939a4567f58d032b2a380b"), looks := false }, kinds := [], alts := [], laidByText := true, laidKinds := [.data, .pinned], laidTests := true, laidLooks := .later }
def SegmentTornUptoCardSaid : Prop := Claim7.holds Tryd.pinned (.plain (OpenSpec.upto segmentTornSpec)) segmentTornUptoCard

/-- THE SECOND FORM's CARD OF 'grapevinelaw8.SegmentUnlike'. -/
def segmentUnlikeUptoCard : Claim7 := { stood := { row := segmentUnlikeUptoRow, standIns := [], harness := (true, "e4e6384e5254ff22d6cc67b314597ad97561214509939a4567f58d032b2a380b"), looks := false }, kinds := [], alts := [], laidByText := true, laidKinds := [.data, .pinned], laidTests := true, laidLooks := .later }
def SegmentUnlikeUptoCardSaid : Prop := Claim7.holds Tryd.pinned (.plain (OpenSpec.upto segmentUnlikeSpec)) segmentUnlikeUptoCard
end Rows
end Go.Proofs.YtcnpckdchjjeoaaDoor
