/-
  DERIVED. GIVEN WITH THE SEED: THE CARDS: each row of YtjgonkcfnfgakaaGreatDoorRows.lean that lists a variable, with what it lists TIED to the program's text (the seventh form; the later family's looks); each row that meets fmt, with fmt's text TOLD by the authors' own Lean function (tested against real Go, not proved from fmt's source: count such statements apart). THE CARD IS WHAT COUNTS. Prove the row's statement (the work); the ties are given (YtjgonkcfnfgakaaGreatDoorTie.lean); close each card by the builder's one call (the guide's Derived/Test/ToyasCard.lean, 'card_holds'). Laid BY PROGRAM, IN A SANDBOX (cutbox-door.mjs). By AI agents, Wed Nov 11 2026. No macro, syntax, notation, axiom, sorry.
-/
import Derived.Test.YtjgonkcfnfgakaaGreatDoorRows
import GoSem.ClaimSeven
namespace Go.Proofs.YtjgonkcfnfgakaaGreatDoor
namespace Rows

/-- THE TIED CARD OF 'verdictlaw5.TypesLattice'. -/
def typesLatticeCard : Claim7 := { stood := { row := typesLatticeRow, standIns := [], harness := (true, "8c05743f1903be168981366b4682a57c142a644770c5703c0d92b2184f3a9a42"), looks := false }, kinds := [], alts := [], laidByText := true, laidKinds := [.data, .data, .data, .pinned, .pinned], laidTests := true, laidLooks := .later }
def TypesLatticeCardSaid : Prop := Claim7.holds Tryz.pinned (.plain (OpenSpec.ofChange typesLatticeSpec)) typesLatticeCard

/-- THE TIED CARD OF 'verdictlaw5.TypesHave'. -/
def typesHaveCard : Claim7 := { stood := { row := typesHaveRow, standIns := [], harness := (true, "8c05743f1903be168981366b4682a57c142a644770c5703c0d92b2184f3a9a42"), looks := false }, kinds := [], alts := [], laidByText := true, laidKinds := [.data, .data, .data, .pinned, .pinned], laidTests := true, laidLooks := .later }
def TypesHaveCardSaid : Prop := Claim7.holds Tryz.pinned (.plain (OpenSpec.ofChange typesHaveSpec)) typesHaveCard

/-- THE TIED CARD OF 'verdictlaw5.TypesHide'. -/
def typesHideCard : Claim7 := { stood := { row := typesHideRow, standIns := [], harness := (true, "8c05743f1903be168981366b4682a57c142a644770c5703c0d92b2184f3a9a42"), looks := false }, kinds := [], alts := [], laidByText := true, laidKinds := [.data, .data, .data, .pinned, .pinned], laidTests := true, laidLooks := .later }
def TypesHideCardSaid : Prop := Claim7.holds Tryz.pinned (.plain (OpenSpec.ofChange typesHideSpec)) typesHideCard

/-- THE SECOND FORM's CARD OF 'verdictlaw5.TypesLattice'. -/
def typesLatticeUptoCard : Claim7 := { stood := { row := typesLatticeUptoRow, standIns := [], harness := (true, "8c05743f1903be168981366b4682a57c142a644770c5703c0d92b2184f3a9a42"), looks := false }, kinds := [], alts := [], laidByText := true, laidKinds := [.data, .data, .data, .pinned, .pinned], laidTests := true, laidLooks := .later }
def TypesLatticeUptoCardSaid : Prop := Claim7.holds Tryz.pinned (.plain (OpenSpec.upto typesLatticeSpec)) typesLatticeUptoCard

/-- THE SECOND FORM's CARD OF 'verdictlaw5.TypesHave'. -/
def typesHaveUptoCard : Claim7 := { stood := { row := typesHaveUptoRow, standIns := [], harness := (true, "8c05743f1903be168981366b4682a57c142a644770c5703c0d92b2184f3a9a42"), looks := false }, kinds := [], alts := [], laidByText := true, laidKinds := [.data, .data, .data, .pinned, .pinned], laidTests := true, laidLooks := .later }
def TypesHaveUptoCardSaid : Prop := Claim7.holds Tryz.pinned (.plain (OpenSpec.upto typesHaveSpec)) typesHaveUptoCard

/-- THE SECOND FORM's CARD OF 'verdictlaw5.TypesHide'. -/
def typesHideUptoCard : Claim7 := { stood := { row := typesHideUptoRow, standIns := [], harness := (true, "8c05743f1903be168981366b4682a57c142a644770c5703c0d92b2184f3a9a42"), looks := false }, kinds := [], alts := [], laidByText := true, laidKinds := [.data, .data, .data, .pinned, .pinned], laidTests := true, laidLooks := .later }
def TypesHideUptoCardSaid : Prop := Claim7.holds Tryz.pinned (.plain (OpenSpec.upto typesHideSpec)) typesHideUptoCard
end Rows
end Go.Proofs.YtjgonkcfnfgakaaGreatDoor
