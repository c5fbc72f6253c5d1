/-
  DERIVED. GIVEN WITH THE SEED: THE CARDS: each row of YtnegjbkbfgkkjaaGreatDoorRows.lean that lists a variable, with what it lists TIED to the program's text (the seventh form; the later family's looks); each row that meets fmt, with fmt's text TOLD by the authors' own Lean function (tested against real Go, not proved from fmt's source: count such statements apart). THE CARD IS WHAT COUNTS. Prove the row's statement (the work); the ties are given (YtnegjbkbfgkkjaaGreatDoorTie.lean); close each card by the builder's one call (the guide's Derived/Test/ToyasCard.lean, 'card_holds'). Laid BY PROGRAM, IN A SANDBOX (cutbox-door.mjs). By AI agents, Wed Nov 11 2026. No macro, syntax, notation, axiom, sorry.
-/
import Derived.Test.YtnegjbkbfgkkjaaGreatDoorRows
import GoSem.ClaimSeven
namespace Go.Proofs.YtnegjbkbfgkkjaaGreatDoor
namespace Rows

/-- THE TIED CARD OF 'verdictlaw12.RepoSplit'. -/
def repoSplitCard : Claim7 := { stood := { row := repoSplitRow, standIns := [], harness := (true, "4a8293f2b59ca4fb29f6b3847bd6d3f9bfa26383e9c0d31a2650eaf8157c7c4e"), looks := false }, kinds := [], alts := [], laidByText := true, laidKinds := [.data, .data, .data, .pinned, .pinned], laidTests := true, laidLooks := .later }
def RepoSplitCardSaid : Prop := Claim7.holds Tryz.pinned (.plain (OpenSpec.ofChange repoSplitSpec)) repoSplitCard

/-- THE TIED CARD OF 'verdictlaw12.RepoOnce'. -/
def repoOnceCard : Claim7 := { stood := { row := repoOnceRow, standIns := [], harness := (true, "4a8293f2b59ca4fb29f6b3847bd6d3f9bfa26383e9c0d31a2650eaf8157c7c4e"), looks := false }, kinds := [], alts := [], laidByText := true, laidKinds := [.data, .data, .data, .pinned, .pinned], laidTests := true, laidLooks := .later }
def RepoOnceCardSaid : Prop := Claim7.holds Tryz.pinned (.plain (OpenSpec.ofChange repoOnceSpec)) repoOnceCard

/-- THE TIED CARD OF 'verdictlaw12.RepoBack'. -/
def repoBackCard : Claim7 := { stood := { row := repoBackRow, standIns := [], harness := (true, "4a8293f2b59ca4fb29f6b3847bd6d3f9bfa26383e9c0d31a2650eaf8157c7c4e"), looks := false }, kinds := [], alts := [], laidByText := true, laidKinds := [.data, .data, .data, .pinned, .pinned], laidTests := true, laidLooks := .later }
def RepoBackCardSaid : Prop := Claim7.holds Tryz.pinned (.plain (OpenSpec.ofChange repoBackSpec)) repoBackCard

/-- THE TIED CARD OF 'verdictlaw12.RepoKeeps'. -/
def repoKeepsCard : Claim7 := { stood := { row := repoKeepsRow, standIns := [], harness := (true, "4a8293f2b59ca4fb29f6b3847bd6d3f9bfa26383e9c0d31a2650eaf8157c7c4e"), looks := false }, kinds := [], alts := [], laidByText := true, laidKinds := [.data, .data, .data, .pinned, .pinned], laidTests := true, laidLooks := .later }
def RepoKeepsCardSaid : Prop := Claim7.holds Tryz.pinned (.plain (OpenSpec.ofChange repoKeepsSpec)) repoKeepsCard

/-- THE TIED CARD OF 'verdictlaw12.RepoOthers'. -/
def repoOthersCard : Claim7 := { stood := { row := repoOthersRow, standIns := [], harness := (true, "4a8293f2b59ca4fb29f6b3847bd6d3f9bfa26383e9c0d31a2650eaf8157c7c4e"), looks := false }, kinds := [], alts := [], laidByText := true, laidKinds := [.data, .data, .data, .pinned, .pinned], laidTests := true, laidLooks := .later }
def RepoOthersCardSaid : Prop := Claim7.holds Tryz.pinned (.plain (OpenSpec.ofChange repoOthersSpec)) repoOthersCard

/-- THE SECOND FORM's CARD OF 'verdictlaw12.RepoSplit'. -/
def repoSplitUptoCard : Claim7 := { stood := { row := repoSplitUptoRow, standIns := [], harness := (true, "4a8293f2b59ca4fb29f6b3847bd6d3f9bfa26383e9c0d31a2650eaf8157c7c4e"), looks := false }, kinds := [], alts := [], laidByText := true, laidKinds := [.data, .data, .data, .pinned, .pinned], laidTests := true, laidLooks := .later }
def RepoSplitUptoCardSaid : Prop := Claim7.holds Tryz.pinned (.plain (OpenSpec.upto repoSplitSpec)) repoSplitUptoCard

/-- THE SECOND FORM's CARD OF 'verdictlaw12.RepoOnce'. -/
def repoOnceUptoCard : Claim7 := { stood := { row := repoOnceUptoRow, standIns := [], harness := (true, "4a8293f2b59ca4fb29f6b3847bd6d3f9bfa26383e9c0d31a2650eaf8157c7c4e"), looks := false }, kinds := [], alts := [], laidByText := true, laidKinds := [.data, .data, .data, .pinned, .pinned], laidTests := true, laidLooks := .later }
def RepoOnceUptoCardSaid : Prop := Claim7.holds Tryz.pinned (.plain (OpenSpec.upto repoOnceSpec)) repoOnceUptoCard

/-- THE SECOND FORM's CARD OF 'verdictlaw12.RepoBack'. -/
def repoBackUptoCard : Claim7 := { stood := { row := repoBackUptoRow, standIns := [], harness := (true, "4a8293f2b59ca4fb29f6b3847bd6d3f9bfa26383e9c0d31a2650eaf8157c7c4e"), looks := false }, kinds := [], alts := [], laidByText := true, laidKinds := [.data, .data, .data, .pinned, .pinned], laidTests := true, laidLooks := .later }
def RepoBackUptoCardSaid : Prop := Claim7.holds Tryz.pinned (.plain (OpenSpec.upto repoBackSpec)) repoBackUptoCard

/-- THE SECOND FORM's CARD OF 'verdictlaw12.RepoKeeps'. -/
def repoKeepsUptoCard : Claim7 := { stood := { row := repoKeepsUptoRow, standIns := [], harness := (true, "4a8293f2b59ca4fb29f6b3847bd6d3f9bfa26383e9c0d31a2650eaf8157c7c4e"), looks := false }, kinds := [], alts := [], laidByText := true, laidKinds := [.data, .data, .data, .pinned, .pinned], laidTests := true, laidLooks := .later }
def RepoKeepsUptoCardSaid : Prop := Claim7.holds Tryz.pinned (.plain (OpenSpec.upto repoKeepsSpec)) repoKeepsUptoCard

/-- THE SECOND FORM's CARD OF 'verdictlaw12.RepoOthers'. -/
def repoOthersUptoCard : Claim7 := { stood := { row := repoOthersUptoRow, standIns := [], harness := (true, "4a8293f2b59ca4fb29f6b3847bd6d3f9bfa26383e9c0d31a2650eaf8157c7c4e"), looks := false }, kinds := [], alts := [], laidByText := true, laidKinds := [.data, .data, .data, .pinned, .pinned], laidTests := true, laidLooks := .later }
def RepoOthersUptoCardSaid : Prop := Claim7.holds Tryz.pinned (.plain (OpenSpec.upto repoOthersSpec)) repoOthersUptoCard
end Rows
end Go.Proofs.YtnegjbkbfgkkjaaGreatDoor
