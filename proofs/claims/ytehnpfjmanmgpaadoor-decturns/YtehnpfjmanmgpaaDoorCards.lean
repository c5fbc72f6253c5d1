/-
  DERIVED. GIVEN WITH THE SEED: THE CARDS: each row of YtehnpfjmanmgpaaDoorRows.lean that lists a variable, with what it lists TIED to the program's text (the seventh form; the later family's looks); each row that meets fmt, with fmt's text TOLD by the authors' own Lean function (tested against real Go, not proved from fmt's source: count such statements apart). THE CARD IS WHAT COUNTS. Prove the row's statement (the work); the ties are given (YtehnpfjmanmgpaaDoorTie.lean); close each card by the builder's one call (the guide's Derived/Test/ToyasCard.lean, 'card_holds'). Laid BY PROGRAM, IN A SANDBOX (cutbox-door.mjs). By AI agents, Wed Nov 11 2026. No macro, syntax, notation, axiom, sorry.
-/
import Derived.Test.YtehnpfjmanmgpaaDoorRows
import GoSem.ClaimSeven
namespace Go.Proofs.YtehnpfjmanmgpaaDoor
namespace Rows

/-- THE TIED CARD OF 'verdictlaw1.DecTurns'. -/
def decTurnsCard : Claim7 := { stood := { row := decTurnsRow, standIns := [], harness := (true, "3b474b6ef1709fa8b9744a3090ddff17870f97eff9fff49a081b5023b1f3964a"), looks := false }, kinds := [], alts := [], laidByText := true, laidKinds := [.data, .data, .data], laidTests := true, laidLooks := .later }
def DecTurnsCardSaid : Prop := Claim7.holds Tryd.pinned (.plain (OpenSpec.ofChange decTurnsSpec)) decTurnsCard

/-- THE TIED CARD OF 'verdictlaw2.LogicEqual'. -/
def logicEqualCard : Claim7 := { stood := { row := logicEqualRow, standIns := [], harness := (true, "3b474b6ef1709fa8b9744a3090ddff17870f97eff9fff49a081b5023b1f3964a"), looks := false }, kinds := [], alts := [], laidByText := true, laidKinds := [.data, .pinned], laidTests := true, laidLooks := .later }
def LogicEqualCardSaid : Prop := Claim7.holds Tryd.pinned (.plain (OpenSpec.ofChange logicEqualSpec)) logicEqualCard

/-- THE SECOND FORM's CARD OF 'verdictlaw1.DecTurns'. -/
def decTurnsUptoCard : Claim7 := { stood := { row := decTurnsUptoRow, standIns := [], harness := (true, "3b474b6ef1709fa8b9744a3090ddff17870f97eff9fff49a081b5023b1f3964a"), looks := false }, kinds := [], alts := [], laidByText := true, laidKinds := [.data, .data, .data], laidTests := true, laidLooks := .later }
def DecTurnsUptoCardSaid : Prop := Claim7.holds Tryd.pinned (.plain (OpenSpec.upto decTurnsSpec)) decTurnsUptoCard

/-- THE SECOND FORM's CARD OF 'verdictlaw2.LogicEqual'. -/
def logicEqualUptoCard : Claim7 := { stood := { row := logicEqualUptoRow, standIns := [], harness := (true, "3b474b6ef1709fa8b9744a3090ddff17870f97eff9fff49a081b5023b1f3964a"), looks := false }, kinds := [], alts := [], laidByText := true, laidKinds := [.data, .pinned], laidTests := true, laidLooks := .later }
def LogicEqualUptoCardSaid : Prop := Claim7.holds Tryd.pinned (.plain (OpenSpec.upto logicEqualSpec)) logicEqualUptoCard
end Rows
end Go.Proofs.YtehnpfjmanmgpaaDoor
