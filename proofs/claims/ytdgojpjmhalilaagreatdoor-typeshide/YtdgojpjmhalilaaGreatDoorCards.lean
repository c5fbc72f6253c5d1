/-
  DERIVED. GIVEN WITH THE SEED: THE CARDS: each row of YtdgojpjmhalilaaGreatDoorRows.lean that lists a variable, with what it lists TIED to the program's text (the seventh form; the later family's looks); each row that meets fmt, with fmt's text TOLD by the authors' own Lean function (tested against real Go, not proved from fmt's source: count such statements apart). THE CARD IS WHAT COUNTS. Prove the row's statement (the work); the ties are given (YtdgojpjmhalilaaGreatDoorTie.lean); close each card by the builder's one call (the guide's Derived/Test/ToyasCard.lean, 'card_holds'). Laid BY PROGRAM, IN A SANDBOX (cutbox-door.mjs). By AI agents, Wed Nov 11 2026. No macro, syntax, notation, axiom, sorry.
-/
import Derived.Test.YtdgojpjmhalilaaGreatDoorRows
import GoSem.ClaimSeven
namespace Go.Proofs.YtdgojpjmhalilaaGreatDoor
namespace Rows

/-- THE TIED CARD OF 'verdictlaw5.TypesHide'. -/
def typesHideCard : Claim7 := { stood := { row := typesHideRow, standIns := [], harness := (true, "ae6af01c18ca2d911e9130618bb0a31f02222e8cd6063ba1034cd9f43f267cf2"), looks := false }, kinds := [], alts := [], laidByText := true, laidKinds := [.data, .data, .data, .pinned, .pinned], laidTests := true, laidLooks := .later }
def TypesHideCardSaid : Prop := Claim7.holds Tryz.pinned (.plain (OpenSpec.ofChange typesHideSpec)) typesHideCard

/-- THE SECOND FORM's CARD OF 'verdictlaw5.TypesHide'. -/
def typesHideUptoCard : Claim7 := { stood := { row := typesHideUptoRow, standIns := [], harness := (true, "ae6af01c18ca2d911e9130618bb0a31f02222e8cd6063ba1034cd9f43f267cf2"), looks := false }, kinds := [], alts := [], laidByText := true, laidKinds := [.data, .data, .data, .pinned, .pinned], laidTests := true, laidLooks := .later }
def TypesHideUptoCardSaid : Prop := Claim7.holds Tryz.pinned (.plain (OpenSpec.upto typesHideSpec)) typesHideUptoCard
end Rows
end Go.Proofs.YtdgojpjmhalilaaGreatDoor
