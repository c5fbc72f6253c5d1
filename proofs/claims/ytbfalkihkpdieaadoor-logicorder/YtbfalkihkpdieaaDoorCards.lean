/-
  DERIVED. GIVEN WITH THE SEED: THE CARDS: each row of YtbfalkihkpdieaaDoorRows.lean that lists a variable, with what it lists TIED to the program's text (the seventh form; the later family's looks); each row that meets fmt, with fmt's text TOLD by the authors' own Lean function (tested against real Go, not proved from fmt's source: count such statements apart). THE CARD IS WHAT COUNTS. Prove the row's statement (the work); the ties are given (YtbfalkihkpdieaaDoorTie.lean); close each card by the builder's one call (the guide's Derived/Test/ToyasCard.lean, 'card_holds'). Laid BY PROGRAM, IN A SANDBOX (cutbox-door.mjs). By AI agents, Wed Nov 11 2026. No macro, syntax, notation, axiom, sorry.
-/
import Derived.Test.YtbfalkihkpdieaaDoorRows
import GoSem.ClaimSeven
namespace Go.Proofs.YtbfalkihkpdieaaDoor
namespace Rows

/-- THE TIED CARD OF 'verdictlaw2.LogicTells'. -/
def logicTellsCard : Claim7 := { stood := { row := logicTellsRow, standIns := [], harness := (true, "62d82ef091e38da1895090851a7629ceb45274912d68c5eef2c4d17c5a62312b"), looks := false }, kinds := [], alts := [], laidByText := true, laidKinds := [.data, .pinned], laidTests := true, laidLooks := .later }
def LogicTellsCardSaid : Prop := Claim7.holds Tryd.pinned (.plain (OpenSpec.ofChange logicTellsSpec)) logicTellsCard

/-- THE TIED CARD OF 'verdictlaw2.LogicEqual'. -/
def logicEqualCard : Claim7 := { stood := { row := logicEqualRow, standIns := [], harness := (true, "62d82ef091e38da1895090851a7629ceb45274912d68c5eef2c4d17c5a62312b"), looks := false }, kinds := [], alts := [], laidByText := true, laidKinds := [.data, .pinned], laidTests := true, laidLooks := .later }
def LogicEqualCardSaid : Prop := Claim7.holds Tryd.pinned (.plain (OpenSpec.ofChange logicEqualSpec)) logicEqualCard

/-- THE TIED CARD OF 'verdictlaw2.LogicOrder'. -/
def logicOrderCard : Claim7 := { stood := { row := logicOrderRow, standIns := [], harness := (true, "62d82ef091e38da1895090851a7629ceb45274912d68c5eef2c4d17c5a62312b"), looks := false }, kinds := [], alts := [], laidByText := true, laidKinds := [.data, .pinned], laidTests := true, laidLooks := .later }
def LogicOrderCardSaid : Prop := Claim7.holds Tryd.pinned (.plain (OpenSpec.ofChange logicOrderSpec)) logicOrderCard

/-- THE SECOND FORM's CARD OF 'verdictlaw2.LogicTells'. -/
def logicTellsUptoCard : Claim7 := { stood := { row := logicTellsUptoRow, standIns := [], harness := (true, "62d82ef091e38da1895090851a7629ceb45274912d68c5eef2c4d17c5a62312b"), looks := false }, kinds := [], alts := [], laidByText := true, laidKinds := [.data, .pinned], laidTests := true, laidLooks := .later }
def LogicTellsUptoCardSaid : Prop := Claim7.holds Tryd.pinned (.plain (OpenSpec.upto logicTellsSpec)) logicTellsUptoCard

/-- THE SECOND FORM's CARD OF 'verdictlaw2.LogicEqual'. -/
def logicEqualUptoCard : Claim7 := { stood := { row := logicEqualUptoRow, standIns := [], harness := (true, "62d82ef091e38da1895090851a7629ceb45274912d68c5eef2c4d17c5a62312b"), looks := false }, kinds := [], alts := [], laidByText := true, laidKinds := [.data, .pinned], laidTests := true, laidLooks := .later }
def LogicEqualUptoCardSaid : Prop := Claim7.holds Tryd.pinned (.plain (OpenSpec.upto logicEqualSpec)) logicEqualUptoCard

/-- THE SECOND FORM's CARD OF 'verdictlaw2.LogicOrder'. -/
def logicOrderUptoCard : Claim7 := { stood := { row := logicOrderUptoRow, standIns := [], harness := (true, "62d82ef091e38da1895090851a7629ceb45274912d68c5eef2c4d17c5a62312b"), looks := false }, kinds := [], alts := [], laidByText := true, laidKinds := [.data, .pinned], laidTests := true, laidLooks := .later }
def LogicOrderUptoCardSaid : Prop := Claim7.holds Tryd.pinned (.plain (OpenSpec.upto logicOrderSpec)) logicOrderUptoCard
end Rows
end Go.Proofs.YtbfalkihkpdieaaDoor
