/-
  DERIVED. GIVEN WITH THE SEED: THE CARDS: each row of YtchkadifjbmmpaaDoorRows.lean that lists a variable, with what it lists TIED to the program's text (the seventh form; the later family's looks); each row that meets fmt, with fmt's text TOLD by the authors' own Lean function (tested against real Go, not proved from fmt's source: count such statements apart). THE CARD IS WHAT COUNTS. Prove the row's statement (the work); the ties are given (YtchkadifjbmmpaaDoorTie.lean); close each card by the builder's one call (the guide's Derived/Test/ToyasCard.lean, 'card_holds'). Laid BY PROGRAM, IN A SANDBOX (cutbox-door.mjs). By AI agents, Wed Nov 11 2026. No macro, syntax, notation, axiom, sorry.
-/
import Derived.Test.YtchkadifjbmmpaaDoorRows
import GoSem.ClaimSeven
namespace Go.Proofs.YtchkadifjbmmpaaDoor
namespace Rows

/-- THE TIED CARD OF 'grapevinelaw12.TreeScript'. -/
def treeScriptCard : Claim7 := { stood := { row := treeScriptRow, standIns := [], harness := (true, "6a37f7262940514c2a4be21a0e54278da5afc9a77c300ee504e9193fce543a13"), looks := false }, kinds := [], alts := [], laidByText := true, laidKinds := [.data, .pinned], laidTests := true, laidLooks := .later }
def TreeScriptCardSaid : Prop := Claim7.holds Tryd.pinned (.plain (OpenSpec.ofChange treeScriptSpec)) treeScriptCard

/-- THE TIED CARD OF 'grapevinelaw12.TreeAnew'. -/
def treeAnewCard : Claim7 := { stood := { row := treeAnewRow, standIns := [], harness := (true, "6a37f7262940514c2a4be21a0e54278da5afc9a77c300ee504e9193fce543a13"), looks := false }, kinds := [], alts := [], laidByText := true, laidKinds := [.data, .pinned], laidTests := true, laidLooks := .later }
def TreeAnewCardSaid : Prop := Claim7.holds Tryd.pinned (.plain (OpenSpec.ofChange treeAnewSpec)) treeAnewCard

/-- THE TIED CARD OF 'grapevinelaw12.TreeParts'. -/
def treePartsCard : Claim7 := { stood := { row := treePartsRow, standIns := [], harness := (true, "6a37f7262940514c2a4be21a0e54278da5afc9a77c300ee504e9193fce543a13"), looks := false }, kinds := [], alts := [], laidByText := true, laidKinds := [.data, .pinned], laidTests := true, laidLooks := .later }
def TreePartsCardSaid : Prop := Claim7.holds Tryd.pinned (.plain (OpenSpec.ofChange treePartsSpec)) treePartsCard

/-- THE TIED CARD OF 'grapevinelaw12.TreeOrigins'. -/
def treeOriginsCard : Claim7 := { stood := { row := treeOriginsRow, standIns := [], harness := (true, "6a37f7262940514c2a4be21a0e54278da5afc9a77c300ee504e9193fce543a13"), looks := false }, kinds := [], alts := [], laidByText := true, laidKinds := [.data, .pinned], laidTests := true, laidLooks := .later }
def TreeOriginsCardSaid : Prop := Claim7.holds Tryd.pinned (.plain (OpenSpec.ofChange treeOriginsSpec)) treeOriginsCard

/-- THE TIED CARD OF 'grapevinelaw13.DescentFinds'. -/
def descentFindsCard : Claim7 := { stood := { row := descentFindsRow, standIns := [], harness := (true, "6a37f7262940514c2a4be21a0e54278da5afc9a77c300ee504e9193fce543a13"), looks := false }, kinds := [], alts := [], laidByText := true, laidKinds := [.data, .pinned], laidTests := true, laidLooks := .later }
def DescentFindsCardSaid : Prop := Claim7.holds Tryd.pinned (.plain (OpenSpec.ofChange descentFindsSpec)) descentFindsCard

/-- THE TIED CARD OF 'grapevinelaw13.DescentSteps'. -/
def descentStepsCard : Claim7 := { stood := { row := descentStepsRow, standIns := [], harness := (true, "6a37f7262940514c2a4be21a0e54278da5afc9a77c300ee504e9193fce543a13"), looks := false }, kinds := [], alts := [], laidByText := true, laidKinds := [.data, .pinned], laidTests := true, laidLooks := .later }
def DescentStepsCardSaid : Prop := Claim7.holds Tryd.pinned (.plain (OpenSpec.ofChange descentStepsSpec)) descentStepsCard

/-- THE TIED CARD OF 'grapevinelaw13.DescentTurns'. -/
def descentTurnsCard : Claim7 := { stood := { row := descentTurnsRow, standIns := [], harness := (true, "6a37f7262940514c2a4be21a0e54278da5afc9a77c300ee504e9193fce543a13"), looks := false }, kinds := [], alts := [], laidByText := true, laidKinds := [.data, .pinned], laidTests := true, laidLooks := .later }
def DescentTurnsCardSaid : Prop := Claim7.holds Tryd.pinned (.plain (OpenSpec.ofChange descentTurnsSpec)) descentTurnsCard

/-- THE TIED CARD OF 'grapevinelaw13.DescentOne'. -/
def descentOneCard : Claim7 := { stood := { row := descentOneRow, standIns := [], harness := (true, "6a37f7262940514c2a4be21a0e54278da5afc9a77c300ee504e9193fce543a13"), looks := false }, kinds := [], alts := [], laidByText := true, laidKinds := [.data, .pinned], laidTests := true, laidLooks := .later }
def DescentOneCardSaid : Prop := Claim7.holds Tryd.pinned (.plain (OpenSpec.ofChange descentOneSpec)) descentOneCard

/-- THE TIED CARD OF 'grapevinelaw13.DescentAdds'. -/
def descentAddsCard : Claim7 := { stood := { row := descentAddsRow, standIns := [], harness := (true, "6a37f7262940514c2a4be21a0e54278da5afc9a77c300ee504e9193fce543a13"), looks := false }, kinds := [], alts := [], laidByText := true, laidKinds := [.data, .pinned], laidTests := true, laidLooks := .later }
def DescentAddsCardSaid : Prop := Claim7.holds Tryd.pinned (.plain (OpenSpec.ofChange descentAddsSpec)) descentAddsCard

/-- THE SECOND FORM's CARD OF 'grapevinelaw12.TreeScript'. -/
def treeScriptUptoCard : Claim7 := { stood := { row := treeScriptUptoRow, standIns := [], harness := (true, "6a37f7262940514c2a4be21a0e54278da5afc9a77c300ee504e9193fce543a13"), looks := false }, kinds := [], alts := [], laidByText := true, laidKinds := [.data, .pinned], laidTests := true, laidLooks := .later }
def TreeScriptUptoCardSaid : Prop := Claim7.holds Tryd.pinned (.plain (OpenSpec.upto treeScriptSpec)) treeScriptUptoCard

/-- THE SECOND FORM's CARD OF 'grapevinelaw12.TreeAnew'. -/
def treeAnewUptoCard : Claim7 := { stood := { row := treeAnewUptoRow, standIns := [], harness := (true, "6a37f7262940514c2a4be21a0e54278da5afc9a77c300ee504e9193fce543a13"), looks := false }, kinds := [], alts := [], laidByText := true, laidKinds := [.data, .pinned], laidTests := true, laidLooks := .later }
def TreeAnewUptoCardSaid : Prop := Claim7.holds Tryd.pinned (.plain (OpenSpec.upto treeAnewSpec)) treeAnewUptoCard

/-- THE SECOND FORM's CARD OF 'grapevinelaw12.TreeParts'. -/
def treePartsUptoCard : Claim7 := { stood := { row := treePartsUptoRow, standIns := [], harness := (true, "6a37f7262940514c2a4be21a0e54278da5afc9a77c300ee504e9193fce543a13"), looks := false }, kinds := [], alts := [], laidByText := true, laidKinds := [.data, .pinned], laidTests := true, laidLooks := .later }
def TreePartsUptoCardSaid : Prop := Claim7.holds Tryd.pinned (.plain (OpenSpec.upto treePartsSpec)) treePartsUptoCard

/-- THE SECOND FORM's CARD OF 'grapevinelaw12.TreeOrigins'. -/
def treeOriginsUptoCard : Claim7 := { stood := { row := treeOriginsUptoRow, standIns := [], harness := (true, "6a37f7262940514c2a4be21a0e54278da5afc9a77c300ee504e9193fce543a13"), looks := false }, kinds := [], alts := [], laidByText := true, laidKinds := [.data, .pinned], laidTests := true, laidLooks := .later }
def TreeOriginsUptoCardSaid : Prop := Claim7.holds Tryd.pinned (.plain (OpenSpec.upto treeOriginsSpec)) treeOriginsUptoCard

/-- THE SECOND FORM's CARD OF 'grapevinelaw13.DescentFinds'. -/
def descentFindsUptoCard : Claim7 := { stood := { row := descentFindsUptoRow, standIns := [], harness := (true, "6a37f7262940514c2a4be21a0e54278da5afc9a77c300ee504e9193fce543a13"), looks := false }, kinds := [], alts := [], laidByText := true, laidKinds := [.data, .pinned], laidTests := true, laidLooks := .later }
def DescentFindsUptoCardSaid : Prop := Claim7.holds Tryd.pinned (.plain (OpenSpec.upto descentFindsSpec)) descentFindsUptoCard

/-- THE SECOND FORM's CARD OF 'grapevinelaw13.DescentSteps'. -/
def descentStepsUptoCard : Claim7 := { stood := { row := descentStepsUptoRow, standIns := [], harness := (true, "6a37f7262940514c2a4be21a0e54278da5afc9a77c300ee504e9193fce543a13"), looks := false }, kinds := [], alts := [], laidByText := true, laidKinds := [.data, .pinned], laidTests := true, laidLooks := .later }
def DescentStepsUptoCardSaid : Prop := Claim7.holds Tryd.pinned (.plain (OpenSpec.upto descentStepsSpec)) descentStepsUptoCard

/-- THE SECOND FORM's CARD OF 'grapevinelaw13.DescentTurns'. -/
def descentTurnsUptoCard : Claim7 := { stood := { row := descentTurnsUptoRow, standIns := [], harness := (true, "6a37f7262940514c2a4be21a0e54278da5afc9a77c300ee504e9193fce543a13"), looks := false }, kinds := [], alts := [], laidByText := true, laidKinds := [.data, .pinned], laidTests := true, laidLooks := .later }
def DescentTurnsUptoCardSaid : Prop := Claim7.holds Tryd.pinned (.plain (OpenSpec.upto descentTurnsSpec)) descentTurnsUptoCard

/-- THE SECOND FORM's CARD OF 'grapevinelaw13.DescentOne'. -/
def descentOneUptoCard : Claim7 := { stood := { row := descentOneUptoRow, standIns := [], harness := (true, "6a37f7262940514c2a4be21a0e54278da5afc9a77c300ee504e9193fce543a13"), looks := false }, kinds := [], alts := [], laidByText := true, laidKinds := [.data, .pinned], laidTests := true, laidLooks := .later }
def DescentOneUptoCardSaid : Prop := Claim7.holds Tryd.pinned (.plain (OpenSpec.upto descentOneSpec)) descentOneUptoCard

/-- THE SECOND FORM's CARD OF 'grapevinelaw13.DescentAdds'. -/
def descentAddsUptoCard : Claim7 := { stood := { row := descentAddsUptoRow, standIns := [], harness := (true, "6a37f7262940514c2a4be21a0e54278da5afc9a77c300ee504e9193fce543a13"), looks := false }, kinds := [], alts := [], laidByText := true, laidKinds := [.data, .pinned], laidTests := true, laidLooks := .later }
def DescentAddsUptoCardSaid : Prop := Claim7.holds Tryd.pinned (.plain (OpenSpec.upto descentAddsSpec)) descentAddsUptoCard
end Rows
end Go.Proofs.YtchkadifjbmmpaaDoor
