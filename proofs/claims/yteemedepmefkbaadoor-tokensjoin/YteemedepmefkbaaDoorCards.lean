/-
  DERIVED. GIVEN WITH THE SEED: THE CARDS: each row of YteemedepmefkbaaDoorRows.lean that lists a variable, with what it lists TIED to the program's text (the seventh form; the later family's looks); each row that meets fmt, with fmt's text TOLD by the authors' own Lean function (tested against real Go, not proved from fmt's source: count such statements apart). THE CARD IS WHAT COUNTS. Prove the row's statement (the work); the ties are given (YteemedepmefkbaaDoorTie.lean); close each card by the builder's one call (the guide's Derived/Test/ToyasCard.lean, 'card_holds'). Laid BY PROGRAM, IN A SANDBOX (cutbox-door.mjs). By AI agents, Wed Nov 11 2026. No macro, syntax, notation, axiom, sorry.
-/
import Derived.Test.YteemedepmefkbaaDoorRows
import GoSem.ClaimSeven
namespace Go.Proofs.YteemedepmefkbaaDoor
namespace Rows

/-- THE TIED CARD OF 'grapevinelaw1.TokensTell'. -/
def tokensTellCard : Claim7 := { stood := { row := tokensTellRow, standIns := [], harness := (true, "23d94b6f99a128cd6ef2826651e5440639ba08bcb6f7eef2c1ac465f945933dc"), looks := false }, kinds := [], alts := [], laidByText := true, laidKinds := [.data, .data, .pinned, .pinned, .pinned, .pinned], laidTests := true, laidLooks := .later }
def TokensTellCardSaid : Prop := Claim7.holds Tryd.pinned (.plain (OpenSpec.ofChange tokensTellSpec)) tokensTellCard

/-- THE TIED CARD OF 'grapevinelaw1.TokensJoin'. -/
def tokensJoinCard : Claim7 := { stood := { row := tokensJoinRow, standIns := [], harness := (true, "23d94b6f99a128cd6ef2826651e5440639ba08bcb6f7eef2c1ac465f945933dc"), looks := false }, kinds := [], alts := [], laidByText := true, laidKinds := [.data, .data, .pinned, .pinned, .pinned, .pinned], laidTests := true, laidLooks := .later }
def TokensJoinCardSaid : Prop := Claim7.holds Tryd.pinned (.plain (OpenSpec.ofChange tokensJoinSpec)) tokensJoinCard

/-- THE TIED CARD OF 'grapevinelaw1.TokensOnes'. -/
def tokensOnesCard : Claim7 := { stood := { row := tokensOnesRow, standIns := [], harness := (true, "23d94b6f99a128cd6ef2826651e5440639ba08bcb6f7eef2c1ac465f945933dc"), looks := false }, kinds := [], alts := [], laidByText := true, laidKinds := [.data, .data, .pinned, .pinned, .pinned, .pinned], laidTests := true, laidLooks := .later }
def TokensOnesCardSaid : Prop := Claim7.holds Tryd.pinned (.plain (OpenSpec.ofChange tokensOnesSpec)) tokensOnesCard

/-- THE SECOND FORM's CARD OF 'grapevinelaw1.TokensTell'. -/
def tokensTellUptoCard : Claim7 := { stood := { row := tokensTellUptoRow, standIns := [], harness := (true, "23d94b6f99a128cd6ef2826651e5440639ba08bcb6f7eef2c1ac465f945933dc"), looks := false }, kinds := [], alts := [], laidByText := true, laidKinds := [.data, .data, .pinned, .pinned, .pinned, .pinned], laidTests := true, laidLooks := .later }
def TokensTellUptoCardSaid : Prop := Claim7.holds Tryd.pinned (.plain (OpenSpec.upto tokensTellSpec)) tokensTellUptoCard

/-- THE SECOND FORM's CARD OF 'grapevinelaw1.TokensJoin'. -/
def tokensJoinUptoCard : Claim7 := { stood := { row := tokensJoinUptoRow, standIns := [], harness := (true, "23d94b6f99a128cd6ef2826651e5440639ba08bcb6f7eef2c1ac465f945933dc"), looks := false }, kinds := [], alts := [], laidByText := true, laidKinds := [.data, .data, .pinned, .pinned, .pinned, .pinned], laidTests := true, laidLooks := .later }
def TokensJoinUptoCardSaid : Prop := Claim7.holds Tryd.pinned (.plain (OpenSpec.upto tokensJoinSpec)) tokensJoinUptoCard

/-- THE SECOND FORM's CARD OF 'grapevinelaw1.TokensOnes'. -/
def tokensOnesUptoCard : Claim7 := { stood := { row := tokensOnesUptoRow, standIns := [], harness := (true, "23d94b6f99a128cd6ef2826651e5440639ba08bcb6f7eef2c1ac465f945933dc"), looks := false }, kinds := [], alts := [], laidByText := true, laidKinds := [.data, .data, .pinned, .pinned, .pinned, .pinned], laidTests := true, laidLooks := .later }
def TokensOnesUptoCardSaid : Prop := Claim7.holds Tryd.pinned (.plain (OpenSpec.upto tokensOnesSpec)) tokensOnesUptoCard
end Rows
end Go.Proofs.YteemedepmefkbaaDoor
