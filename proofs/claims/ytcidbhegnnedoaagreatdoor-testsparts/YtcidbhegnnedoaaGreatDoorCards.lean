/-
  DERIVED. GIVEN WITH THE SEED: THE CARDS: each row of YtcidbhegnnedoaaGreatDoorRows.lean that lists a variable, with what it lists TIED to the program's text (the seventh form; the later family's looks); each row that meets fmt, with fmt's text TOLD by the authors' own Lean function (tested against real Go, not proved from fmt's source: count such statements apart). THE CARD IS WHAT COUNTS. Prove the row's statement (the work); the ties are given (YtcidbhegnnedoaaGreatDoorTie.lean); close each card by the builder's one call (the guide's Derived/Test/ToyasCard.lean, 'card_holds'). Laid BY PROGRAM, IN A SANDBOX (cutbox-door.mjs). By AI agents, Wed Nov 11 2026. No macro, syntax, notation, axiom, sorry.
-/
import Derived.Test.YtcidbhegnnedoaaGreatDoorRows
import GoSem.ClaimSeven
namespace Go.Proofs.YtcidbhegnnedoaaGreatDoor
namespace Rows

/-- THE TIED CARD OF 'verdictlaw8.TestsParts'. -/
def testsPartsCard : Claim7 := { stood := { row := testsPartsRow, standIns := [], harness := (true, "85d891e2943e64e245d15a8037b1119af6fd361de390ffe11c3b84a75e7183d0"), looks := true }, kinds := [], alts := [], laidByText := true, laidKinds := [.data, .handle, .data, .data, .data, .pinned, .pinned], laidTests := true, laidLooks := .later }
def TestsPartsCardSaid : Prop := Claim7.holds Tryz.pinned (.plain (OpenSpec.ofChange testsPartsSpec)) testsPartsCard

/-- THE TIED CARD OF 'verdictlaw8.TestsOrder'. -/
def testsOrderCard : Claim7 := { stood := { row := testsOrderRow, standIns := [], harness := (true, "85d891e2943e64e245d15a8037b1119af6fd361de390ffe11c3b84a75e7183d0"), looks := true }, kinds := [], alts := [], laidByText := true, laidKinds := [.data, .handle, .data, .data, .data, .pinned, .pinned], laidTests := true, laidLooks := .later }
def TestsOrderCardSaid : Prop := Claim7.holds Tryz.pinned (.plain (OpenSpec.ofChange testsOrderSpec)) testsOrderCard

/-- THE SECOND FORM's CARD OF 'verdictlaw8.TestsParts'. -/
def testsPartsUptoCard : Claim7 := { stood := { row := testsPartsUptoRow, standIns := [], harness := (true, "85d891e2943e64e245d15a8037b1119af6fd361de390ffe11c3b84a75e7183d0"), looks := true }, kinds := [], alts := [], laidByText := true, laidKinds := [.data, .handle, .data, .data, .data, .pinned, .pinned], laidTests := true, laidLooks := .later }
def TestsPartsUptoCardSaid : Prop := Claim7.holds Tryz.pinned (.plain (OpenSpec.upto testsPartsSpec)) testsPartsUptoCard

/-- THE SECOND FORM's CARD OF 'verdictlaw8.TestsOrder'. -/
def testsOrderUptoCard : Claim7 := { stood := { row := testsOrderUptoRow, standIns := [], harness := (true, "85d891e2943e64e245d15a8037b1119af6fd361de390ffe11c3b84a75e7183d0"), looks := true }, kinds := [], alts := [], laidByText := true, laidKinds := [.data, .handle, .data, .data, .data, .pinned, .pinned], laidTests := true, laidLooks := .later }
def TestsOrderUptoCardSaid : Prop := Claim7.holds Tryz.pinned (.plain (OpenSpec.upto testsOrderSpec)) testsOrderUptoCard
end Rows
end Go.Proofs.YtcidbhegnnedoaaGreatDoor
