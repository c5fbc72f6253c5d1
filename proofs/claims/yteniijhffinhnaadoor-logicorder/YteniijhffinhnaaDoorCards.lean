/-
  DERIVED. GIVEN WITH THE SEED: THE CARDS: each row of YteniijhffinhnaaDoorRows.lean that lists a variable, with what it lists TIED to the program's text (the seventh form; the later family's looks); each row that meets fmt, with fmt's text TOLD by the authors' own Lean function (tested against real Go, not proved from fmt's source: count such statements apart). THE CARD IS WHAT COUNTS. Prove the row's statement (the work); the ties are given (YteniijhffinhnaaDoorTie.lean); close each card by the builder's one call (the guide's Derived/Test/ToyasCard.lean, 'card_holds'). Laid BY PROGRAM, IN A SANDBOX (cutbox-door.mjs). By AI agents, Wed Nov 11 2026. No macro, syntax, notation, axiom, sorry.
-/
import Derived.Test.YteniijhffinhnaaDoorRows
import GoSem.ClaimSeven
namespace Go.Proofs.YteniijhffinhnaaDoor
namespace Rows

/-- THE TIED CARD OF 'verdictlaw2.LogicOrder'. -/
def logicOrderCard : Claim7 := { stood := { row := logicOrderRow, standIns := [], harness := (true, "2ba2523689695598ec570b1c7aa6fae91b737ba0528a1e21e9ed4cbbcd527875"), looks := false }, kinds := [], alts := [], laidByText := true, laidKinds := [.data, .pinned], laidTests := true, laidLooks := .later }
def LogicOrderCardSaid : Prop := Claim7.holds Tryd.pinned (.plain (OpenSpec.ofChange logicOrderSpec)) logicOrderCard

/-- THE SECOND FORM's CARD OF 'verdictlaw2.LogicOrder'. -/
def logicOrderUptoCard : Claim7 := { stood := { row := logicOrderUptoRow, standIns := [], harness := (true, "2ba2523689695598ec570b1c7aa6fae91b737ba0528a1e21e9ed4cbbcd527875"), looks := false }, kinds := [], alts := [], laidByText := true, laidKinds := [.data, .pinned], laidTests := true, laidLooks := .later }
def LogicOrderUptoCardSaid : Prop := Claim7.holds Tryd.pinned (.plain (OpenSpec.upto logicOrderSpec)) logicOrderUptoCard
end Rows
end Go.Proofs.YteniijhffinhnaaDoor
