/-
  DERIVED. GIVEN WITH THE SEED: THE CARDS: each row of YthpjejfgoohhfaaGreatDoorRows.lean that lists a variable, with what it lists TIED to the program's text (the seventh form; the later family's looks); each row that meets fmt, with fmt's text TOLD by the authors' own Lean function (tested against real Go, not proved from fmt's source: count such statements apart). THE CARD IS WHAT COUNTS. Prove the row's statement (the work); the ties are given (YthpjejfgoohhfaaGreatDoorTie.lean); close each card by the builder's one call (the guide's Derived/Test/ToyasCard.lean, 'card_holds'). Laid BY PROGRAM, IN A SANDBOX (cutbox-door.mjs). By AI agents, Wed Nov 11 2026. No macro, syntax, notation, axiom, sorry.
-/
import Derived.Test.YthpjejfgoohhfaaGreatDoorRows
import GoSem.ClaimSeven
namespace Go.Proofs.YthpjejfgoohhfaaGreatDoor
namespace Rows

/-- THE TIED CARD OF 'verdictlaw4.SynTurns'. -/
def synTurnsCard : Claim7 := { stood := { row := synTurnsRow, standIns := [], harness := (true, "1461077208211ffedfb8fde815c4fd02bd72b1b57f0934bc80e6314066ae3dd4"), looks := true }, kinds := [], alts := [], laidByText := true, laidKinds := [.data, .data, .data, .data, .handle, .data, .data, .data, .pinned, .pinned], laidTests := true, laidLooks := .later }
def SynTurnsCardSaid : Prop := Claim7.holds Tryz.pinned (.plain (OpenSpec.ofChange synTurnsSpec)) synTurnsCard

/-- THE TIED CARD OF 'verdictlaw4.SynBrackets'. -/
def synBracketsCard : Claim7 := { stood := { row := synBracketsRow, standIns := [], harness := (true, "1461077208211ffedfb8fde815c4fd02bd72b1b57f0934bc80e6314066ae3dd4"), looks := true }, kinds := [], alts := [], laidByText := true, laidKinds := [.data, .handle, .data, .data, .data, .pinned, .pinned], laidTests := true, laidLooks := .later }
def SynBracketsCardSaid : Prop := Claim7.holds Tryz.pinned (.plain (OpenSpec.ofChange synBracketsSpec)) synBracketsCard

/-- THE SECOND FORM's CARD OF 'verdictlaw4.SynTurns'. -/
def synTurnsUptoCard : Claim7 := { stood := { row := synTurnsUptoRow, standIns := [], harness := (true, "1461077208211ffedfb8fde815c4fd02bd72b1b57f0934bc80e6314066ae3dd4"), looks := true }, kinds := [], alts := [], laidByText := true, laidKinds := [.data, .data, .data, .data, .handle, .data, .data, .data, .pinned, .pinned], laidTests := true, laidLooks := .later }
def SynTurnsUptoCardSaid : Prop := Claim7.holds Tryz.pinned (.plain (OpenSpec.upto synTurnsSpec)) synTurnsUptoCard

/-- THE SECOND FORM's CARD OF 'verdictlaw4.SynBrackets'. -/
def synBracketsUptoCard : Claim7 := { stood := { row := synBracketsUptoRow, standIns := [], harness := (true, "1461077208211ffedfb8fde815c4fd02bd72b1b57f0934bc80e6314066ae3dd4"), looks := true }, kinds := [], alts := [], laidByText := true, laidKinds := [.data, .handle, .data, .data, .data, .pinned, .pinned], laidTests := true, laidLooks := .later }
def SynBracketsUptoCardSaid : Prop := Claim7.holds Tryz.pinned (.plain (OpenSpec.upto synBracketsSpec)) synBracketsUptoCard
end Rows
end Go.Proofs.YthpjejfgoohhfaaGreatDoor
