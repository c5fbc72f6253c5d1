/-
  DERIVED. GIVEN WITH THE SEED: THE CARDS: each row of YtdkgapapdjefdaaGreatDoorRows.lean that lists a variable, with what it lists TIED to the program's text (the seventh form; the later family's looks); each row that meets fmt, with fmt's text TOLD by the authors' own Lean function (tested against real Go, not proved from fmt's source: count such statements apart). THE CARD IS WHAT COUNTS. Prove the row's statement (the work); the ties are given (YtdkgapapdjefdaaGreatDoorTie.lean); close each card by the builder's one call (the guide's Derived/Test/ToyasCard.lean, 'card_holds'). Laid BY PROGRAM, IN A SANDBOX (cutbox-door.mjs). By AI agents, Wed Nov 11 2026. No macro, syntax, notation, axiom, sorry.
-/
import Derived.Test.YtdkgapapdjefdaaGreatDoorRows
import GoSem.ClaimSeven
namespace Go.Proofs.YtdkgapapdjefdaaGreatDoor
namespace Rows

/-- THE TIED CARD OF 'verdictlaw9.PointsStand'. -/
def pointsStandCard : Claim7 := { stood := { row := pointsStandRow, standIns := [], harness := (true, "c3848cba0f9951fd06859a5f30654f90c6acbb6e62b710dc517cbd0f37fbd7c3"), looks := false }, kinds := [], alts := [], laidByText := true, laidKinds := [.data, .pinned], laidTests := true, laidLooks := .later }
def PointsStandCardSaid : Prop := Claim7.holds Tryz.pinned (.plain (OpenSpec.ofChange pointsStandSpec)) pointsStandCard

/-- THE TIED CARD OF 'verdictlaw9.PointsRise'. -/
def pointsRiseCard : Claim7 := { stood := { row := pointsRiseRow, standIns := [], harness := (true, "c3848cba0f9951fd06859a5f30654f90c6acbb6e62b710dc517cbd0f37fbd7c3"), looks := false }, kinds := [], alts := [], laidByText := true, laidKinds := [.data, .pinned], laidTests := true, laidLooks := .later }
def PointsRiseCardSaid : Prop := Claim7.holds Tryz.pinned (.plain (OpenSpec.ofChange pointsRiseSpec)) pointsRiseCard

/-- THE TIED CARD OF 'verdictlaw9.PointsMore'. -/
def pointsMoreCard : Claim7 := { stood := { row := pointsMoreRow, standIns := [], harness := (true, "c3848cba0f9951fd06859a5f30654f90c6acbb6e62b710dc517cbd0f37fbd7c3"), looks := false }, kinds := [], alts := [], laidByText := true, laidKinds := [.data, .pinned], laidTests := true, laidLooks := .later }
def PointsMoreCardSaid : Prop := Claim7.holds Tryz.pinned (.plain (OpenSpec.ofChange pointsMoreSpec)) pointsMoreCard

/-- THE SECOND FORM's CARD OF 'verdictlaw9.PointsStand'. -/
def pointsStandUptoCard : Claim7 := { stood := { row := pointsStandUptoRow, standIns := [], harness := (true, "c3848cba0f9951fd06859a5f30654f90c6acbb6e62b710dc517cbd0f37fbd7c3"), looks := false }, kinds := [], alts := [], laidByText := true, laidKinds := [.data, .pinned], laidTests := true, laidLooks := .later }
def PointsStandUptoCardSaid : Prop := Claim7.holds Tryz.pinned (.plain (OpenSpec.upto pointsStandSpec)) pointsStandUptoCard

/-- THE SECOND FORM's CARD OF 'verdictlaw9.PointsRise'. -/
def pointsRiseUptoCard : Claim7 := { stood := { row := pointsRiseUptoRow, standIns := [], harness := (true, "c3848cba0f9951fd06859a5f30654f90c6acbb6e62b710dc517cbd0f37fbd7c3"), looks := false }, kinds := [], alts := [], laidByText := true, laidKinds := [.data, .pinned], laidTests := true, laidLooks := .later }
def PointsRiseUptoCardSaid : Prop := Claim7.holds Tryz.pinned (.plain (OpenSpec.upto pointsRiseSpec)) pointsRiseUptoCard

/-- THE SECOND FORM's CARD OF 'verdictlaw9.PointsMore'. -/
def pointsMoreUptoCard : Claim7 := { stood := { row := pointsMoreUptoRow, standIns := [], harness := (true, "c3848cba0f9951fd06859a5f30654f90c6acbb6e62b710dc517cbd0f37fbd7c3"), looks := false }, kinds := [], alts := [], laidByText := true, laidKinds := [.data, .pinned], laidTests := true, laidLooks := .later }
def PointsMoreUptoCardSaid : Prop := Claim7.holds Tryz.pinned (.plain (OpenSpec.upto pointsMoreSpec)) pointsMoreUptoCard
end Rows
end Go.Proofs.YtdkgapapdjefdaaGreatDoor
