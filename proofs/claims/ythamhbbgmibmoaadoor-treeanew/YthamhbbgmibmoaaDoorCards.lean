/-
  DERIVED. GIVEN WITH THE SEED: THE CARDS: each row of YthamhbbgmibmoaaDoorRows.lean that lists a variable, with what it lists TIED to the program's text (the seventh form; the later family's looks); each row that meets fmt, with fmt's text TOLD by the authors' own Lean function (tested against real Go, not proved from fmt's source: count such statements apart). THE CARD IS WHAT COUNTS. Prove the row's statement (the work); the ties are given (YthamhbbgmibmoaaDoorTie.lean); close each card by the builder's one call (the guide's Derived/Test/ToyasCard.lean, 'card_holds'). Laid BY PROGRAM, IN A SANDBOX (cutbox-door.mjs). By AI agents, Wed Nov 11 2026. No macro, syntax, notation, axiom, sorry.
-/
import Derived.Test.YthamhbbgmibmoaaDoorRows
import GoSem.ClaimSeven
namespace Go.Proofs.YthamhbbgmibmoaaDoor
namespace Rows

/-- THE TIED CARD OF 'grapevinelaw12.TreeScript'. -/
def treeScriptCard : Claim7 := { stood := { row := treeScriptRow, standIns := [], harness := (true, "6fa834bac9a130ba6e6e2876c6d5d2956087f0448c53ae154a7bdc5980c300eb"), looks := false }, kinds := [], alts := [], laidByText := true, laidKinds := [.data, .pinned], laidTests := true, laidLooks := .later }
def TreeScriptCardSaid : Prop := Claim7.holds Tryd.pinned (.plain (OpenSpec.ofChange treeScriptSpec)) treeScriptCard

/-- THE TIED CARD OF 'grapevinelaw12.TreeAnew'. -/
def treeAnewCard : Claim7 := { stood := { row := treeAnewRow, standIns := [], harness := (true, "6fa834bac9a130ba6e6e2876c6d5d2956087f0448c53ae154a7bdc5980c300eb"), looks := false }, kinds := [], alts := [], laidByText := true, laidKinds := [.data, .pinned], laidTests := true, laidLooks := .later }
def TreeAnewCardSaid : Prop := Claim7.holds Tryd.pinned (.plain (OpenSpec.ofChange treeAnewSpec)) treeAnewCard

/-- THE TIED CARD OF 'grapevinelaw12.TreeParts'. -/
def treePartsCard : Claim7 := { stood := { row := treePartsRow, standIns := [], harness := (true, "6fa834bac9a130ba6e6e2876c6d5d2956087f0448c53ae154a7bdc5980c300eb"), looks := false }, kinds := [], alts := [], laidByText := true, laidKinds := [.data, .pinned], laidTests := true, laidLooks := .later }
def TreePartsCardSaid : Prop := Claim7.holds Tryd.pinned (.plain (OpenSpec.ofChange treePartsSpec)) treePartsCard

/-- THE TIED CARD OF 'grapevinelaw12.TreeOrigins'. -/
def treeOriginsCard : Claim7 := { stood := { row := treeOriginsRow, standIns := [], harness := (true, "6fa834bac9a130ba6e6e2876c6d5d2956087f0448c53ae154a7bdc5980c300eb"), looks := false }, kinds := [], alts := [], laidByText := true, laidKinds := [.data, .pinned], laidTests := true, laidLooks := .later }
def TreeOriginsCardSaid : Prop := Claim7.holds Tryd.pinned (.plain (OpenSpec.ofChange treeOriginsSpec)) treeOriginsCard

/-- THE SECOND FORM's CARD OF 'grapevinelaw12.TreeScript'. -/
def treeScriptUptoCard : Claim7 := { stood := { row := treeScriptUptoRow, standIns := [], harness := (true, "6fa834bac9a130ba6e6e2876c6d5d2956087f0448c53ae154a7bdc5980c300eb"), looks := false }, kinds := [], alts := [], laidByText := true, laidKinds := [.data, .pinned], laidTests := true, laidLooks := .later }
def TreeScriptUptoCardSaid : Prop := Claim7.holds Tryd.pinned (.plain (OpenSpec.upto treeScriptSpec)) treeScriptUptoCard

/-- THE SECOND FORM's CARD OF 'grapevinelaw12.TreeAnew'. -/
def treeAnewUptoCard : Claim7 := { stood := { row := treeAnewUptoRow, standIns := [], harness := (true, "6fa834bac9a130ba6e6e2876c6d5d2956087f0448c53ae154a7bdc5980c300eb"), looks := false }, kinds := [], alts := [], laidByText := true, laidKinds := [.data, .pinned], laidTests := true, laidLooks := .later }
def TreeAnewUptoCardSaid : Prop := Claim7.holds Tryd.pinned (.plain (OpenSpec.upto treeAnewSpec)) treeAnewUptoCard

/-- THE SECOND FORM's CARD OF 'grapevinelaw12.TreeParts'. -/
def treePartsUptoCard : Claim7 := { stood := { row := treePartsUptoRow, standIns := [], harness := (true, "6fa834bac9a130ba6e6e2876c6d5d2956087f0448c53ae154a7bdc5980c300eb"), looks := false }, kinds := [], alts := [], laidByText := true, laidKinds := [.data, .pinned], laidTests := true, laidLooks := .later }
def TreePartsUptoCardSaid : Prop := Claim7.holds Tryd.pinned (.plain (OpenSpec.upto treePartsSpec)) treePartsUptoCard

/-- THE SECOND FORM's CARD OF 'grapevinelaw12.TreeOrigins'. -/
def treeOriginsUptoCard : Claim7 := { stood := { row := treeOriginsUptoRow, standIns := [], harness := (true, "6fa834bac9a130ba6e6e2876c6d5d2956087f0448c53ae154a7bdc5980c300eb"), looks := false }, kinds := [], alts := [], laidByText := true, laidKinds := [.data, .pinned], laidTests := true, laidLooks := .later }
def TreeOriginsUptoCardSaid : Prop := Claim7.holds Tryd.pinned (.plain (OpenSpec.upto treeOriginsSpec)) treeOriginsUptoCard
end Rows
end Go.Proofs.YthamhbbgmibmoaaDoor
