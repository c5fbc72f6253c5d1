/-
  DERIVED. GIVEN WITH THE SEED: THE CARDS: each row of YtibkemolmpcdcaaDoorRows.lean that lists a variable, with what it lists TIED to the program's text (the seventh form; the later family's looks); each row that meets fmt, with fmt's text TOLD by the authors' own Lean function (tested against real Go, not proved from fmt's source: count such statements apart). THE CARD IS WHAT COUNTS. Prove the row's statement (the work); the ties are given (YtibkemolmpcdcaaDoorTie.lean); close each card by the builder's one call (the guide's Derived/Test/ToyasCard.lean, 'card_holds'). Laid BY PROGRAM, IN A SANDBOX (cutbox-door.mjs). By AI agents, Wed Nov 11 2026. No macro, syntax, notation, axiom, sorry.
-/
import Derived.Test.YtibkemolmpcdcaaDoorRows
import GoSem.ClaimSeven
namespace Go.Proofs.YtibkemolmpcdcaaDoor
namespace Rows

/-- THE TIED CARD OF 'verdictlaw2.LogicTells'. -/
def logicTellsCard : Claim7 := { stood := { row := logicTellsRow, standIns := [], harness := (true, "10027143e2f8c74ce79eb46f75842b26e0f4f75bd4f74ec42b147fa7a1ce1d92"), looks := false }, kinds := [], alts := [], laidByText := true, laidKinds := [.data, .pinned], laidTests := true, laidLooks := .later }
def LogicTellsCardSaid : Prop := Claim7.holds Tryd.pinned (.plain (OpenSpec.ofChange logicTellsSpec)) logicTellsCard

/-- THE SECOND FORM's CARD OF 'verdictlaw2.LogicTells'. -/
def logicTellsUptoCard : Claim7 := { stood := { row := logicTellsUptoRow, standIns := [], harness := (true, "10027143e2f8c74ce79eb46f75842b26e0f4f75bd4f74ec42b147fa7a1ce1d92"), looks := false }, kinds := [], alts := [], laidByText := true, laidKinds := [.data, .pinned], laidTests := true, laidLooks := .later }
def LogicTellsUptoCardSaid : Prop := Claim7.holds Tryd.pinned (.plain (OpenSpec.upto logicTellsSpec)) logicTellsUptoCard
end Rows
end Go.Proofs.YtibkemolmpcdcaaDoor
