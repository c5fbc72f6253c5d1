/-
  No cell of these rows narrows 'for every input' (looked for: loops, veiled, ifaces, maps, wideKeys, modest, calm, conditions, laid).
  DERIVED. THE GIVEN ROWS OF THIS SEAT. 6 by the template 'for every input the law returns true; each argument reads behind the call as it read before'; 0 by the template 'total and deterministic' (their statements: YtipneeeahndonaaTotals.lean).
  GIVEN WITH THE SEED: the statements are not yours to turn. If you find one false, say at which input.
  Laid BY PROGRAM, IN A SANDBOX (cutbox-rows.mjs): the forced cells as the released guide's own fill.sh prints them over the translation a3b8427c6de201f9… (all of the seat's roots in one cut). By AI agents, Wed Nov 11 2026. No macro, syntax, notation, axiom, sorry.
-/
import Derived.Test.YtipneeeahndonaaChecked
import GoSem.Claim
import GoSem.ClaimJoined
import GoSem.ClaimMapViews
import Derived.JoinedTies
import Derived.KernelRfl
namespace Go.Proofs.Ytipneeeahndonaa
/- THE CELL 'sum', in the pinned program and in every row, IS THE sha256 OF THE DUMP (.gsa) THAT YtipneeeahndonaaProg.lean LOADS. Nothing in Lean hashes anything: it is a label: what it is worth is what the hold of that sum in a sandbox is worth. -/
noncomputable def Try.pinned : Pinned := { name := "ytipneeeahndonaa", sum := "a3b8427c6de201f971588c21d7a83b72e67adf769a7fb1a705e1b310eae40d96", checked := Try.checked }
namespace Rows
def none {H : Type} : Left H := { results := [], args := [] }

/-- 'verdictlaw16.ClusterLeaders': WHATEVER THE INPUT: true; the input reads as it did. -/
def clusterLeadersSpec : ChangeSpec := { name := "clusterLeaders", fn := fun _ => fun
  | [d1, d2] => { results := [.lit (.bool true)], args := [d1, d2] }
  | _ => none }
def clusterLeadersRow : OpenClaim := { program := "ytipneeeahndonaa", sum := "a3b8427c6de201f971588c21d7a83b72e67adf769a7fb1a705e1b310eae40d96", func := "verdict/verdictlaw16.ClusterLeaders", spec := "clusterLeaders", inPlace := ["slices.overlaps[int]"], unfollowed := true, recurses := true, apart := false }
def ClusterLeadersSaid : Prop := clusterLeadersRow.holds Try.pinned (OpenSpec.ofChange clusterLeadersSpec)

/-- ITS FALSE NEIGHBOUR: 'it returns false'. Refute it at one input. -/
def clusterLeadersWrong : ChangeSpec := { name := "clusterLeaders", fn := fun _ => fun
  | [d1, d2] => { results := [.lit (.bool false)], args := [d1, d2] }
  | _ => none }
def ClusterLeadersWrongFalsely : Prop := clusterLeadersRow.holds Try.pinned (OpenSpec.ofChange clusterLeadersWrong)

/-- 'verdictlaw16.ClusterLogs': WHATEVER THE INPUT: true; the input reads as it did. -/
def clusterLogsSpec : ChangeSpec := { name := "clusterLogs", fn := fun _ => fun
  | [d1, d2] => { results := [.lit (.bool true)], args := [d1, d2] }
  | _ => none }
def clusterLogsRow : OpenClaim := { program := "ytipneeeahndonaa", sum := "a3b8427c6de201f971588c21d7a83b72e67adf769a7fb1a705e1b310eae40d96", func := "verdict/verdictlaw16.ClusterLogs", spec := "clusterLogs", inPlace := ["slices.overlaps[int]"], unfollowed := true, recurses := true, apart := false }
def ClusterLogsSaid : Prop := clusterLogsRow.holds Try.pinned (OpenSpec.ofChange clusterLogsSpec)

/-- ITS FALSE NEIGHBOUR: 'it returns false'. Refute it at one input. -/
def clusterLogsWrong : ChangeSpec := { name := "clusterLogs", fn := fun _ => fun
  | [d1, d2] => { results := [.lit (.bool false)], args := [d1, d2] }
  | _ => none }
def ClusterLogsWrongFalsely : Prop := clusterLogsRow.holds Try.pinned (OpenSpec.ofChange clusterLogsWrong)

/-- 'verdictlaw16.ClusterSure': WHATEVER THE INPUT: true; the input reads as it did. -/
def clusterSureSpec : ChangeSpec := { name := "clusterSure", fn := fun _ => fun
  | [d1, d2] => { results := [.lit (.bool true)], args := [d1, d2] }
  | _ => none }
def clusterSureRow : OpenClaim := { program := "ytipneeeahndonaa", sum := "a3b8427c6de201f971588c21d7a83b72e67adf769a7fb1a705e1b310eae40d96", func := "verdict/verdictlaw16.ClusterSure", spec := "clusterSure", inPlace := ["slices.overlaps[int]"], unfollowed := true, recurses := true, apart := false }
def ClusterSureSaid : Prop := clusterSureRow.holds Try.pinned (OpenSpec.ofChange clusterSureSpec)

/-- ITS FALSE NEIGHBOUR: 'it returns false'. Refute it at one input. -/
def clusterSureWrong : ChangeSpec := { name := "clusterSure", fn := fun _ => fun
  | [d1, d2] => { results := [.lit (.bool false)], args := [d1, d2] }
  | _ => none }
def ClusterSureWrongFalsely : Prop := clusterSureRow.holds Try.pinned (OpenSpec.ofChange clusterSureWrong)

/-- 'verdictlaw16.ClusterComplete': WHATEVER THE INPUT: true; the input reads as it did. -/
def clusterCompleteSpec : ChangeSpec := { name := "clusterComplete", fn := fun _ => fun
  | [d1, d2] => { results := [.lit (.bool true)], args := [d1, d2] }
  | _ => none }
def clusterCompleteRow : OpenClaim := { program := "ytipneeeahndonaa", sum := "a3b8427c6de201f971588c21d7a83b72e67adf769a7fb1a705e1b310eae40d96", func := "verdict/verdictlaw16.ClusterComplete", spec := "clusterComplete", inPlace := ["slices.overlaps[int]"], unfollowed := true, recurses := true, apart := false }
def ClusterCompleteSaid : Prop := clusterCompleteRow.holds Try.pinned (OpenSpec.ofChange clusterCompleteSpec)

/-- ITS FALSE NEIGHBOUR: 'it returns false'. Refute it at one input. -/
def clusterCompleteWrong : ChangeSpec := { name := "clusterComplete", fn := fun _ => fun
  | [d1, d2] => { results := [.lit (.bool false)], args := [d1, d2] }
  | _ => none }
def ClusterCompleteWrongFalsely : Prop := clusterCompleteRow.holds Try.pinned (OpenSpec.ofChange clusterCompleteWrong)

/-- 'verdictlaw16.ClusterVotes': WHATEVER THE INPUT: true; the input reads as it did. -/
def clusterVotesSpec : ChangeSpec := { name := "clusterVotes", fn := fun _ => fun
  | [d1, d2] => { results := [.lit (.bool true)], args := [d1, d2] }
  | _ => none }
def clusterVotesRow : OpenClaim := { program := "ytipneeeahndonaa", sum := "a3b8427c6de201f971588c21d7a83b72e67adf769a7fb1a705e1b310eae40d96", func := "verdict/verdictlaw16.ClusterVotes", spec := "clusterVotes", inPlace := ["slices.overlaps[int]"], unfollowed := true, recurses := true, apart := false }
def ClusterVotesSaid : Prop := clusterVotesRow.holds Try.pinned (OpenSpec.ofChange clusterVotesSpec)

/-- ITS FALSE NEIGHBOUR: 'it returns false'. Refute it at one input. -/
def clusterVotesWrong : ChangeSpec := { name := "clusterVotes", fn := fun _ => fun
  | [d1, d2] => { results := [.lit (.bool false)], args := [d1, d2] }
  | _ => none }
def ClusterVotesWrongFalsely : Prop := clusterVotesRow.holds Try.pinned (OpenSpec.ofChange clusterVotesWrong)

/-- 'verdictlaw16.ClusterRight': WHATEVER THE INPUT: true; the input reads as it did. -/
def clusterRightSpec : ChangeSpec := { name := "clusterRight", fn := fun _ => fun
  | [d1, d2] => { results := [.lit (.bool true)], args := [d1, d2] }
  | _ => none }
def clusterRightRow : OpenClaim := { program := "ytipneeeahndonaa", sum := "a3b8427c6de201f971588c21d7a83b72e67adf769a7fb1a705e1b310eae40d96", func := "verdict/verdictlaw16.ClusterRight", spec := "clusterRight", inPlace := ["slices.overlaps[int]"], unfollowed := true, recurses := true, apart := false }
def ClusterRightSaid : Prop := clusterRightRow.holds Try.pinned (OpenSpec.ofChange clusterRightSpec)

/-- ITS FALSE NEIGHBOUR: 'it returns false'. Refute it at one input. -/
def clusterRightWrong : ChangeSpec := { name := "clusterRight", fn := fun _ => fun
  | [d1, d2] => { results := [.lit (.bool false)], args := [d1, d2] }
  | _ => none }
def ClusterRightWrongFalsely : Prop := clusterRightRow.holds Try.pinned (OpenSpec.ofChange clusterRightWrong)

/- THE SECOND FORM. 'bulk': how many values and letters a reading holds, each counted each time it is reached (what is shared counts as often as it is met; a slice's spare places count too). A statement '..UptoSaid' is the law's where the arguments, and the package variables that the reading takes, are together of bulk at most 1048576: NARROWER than '..Said'. Prove '..Said' where nothing that the law and all that it calls make is longer than what came in: it says more and counts as full. Else prove '..UptoSaid'. A law counts once. -/
mutual
def uptoBulk {H : Type} : DataW H → Nat
  | .lit (.string bytes) => bytes.length + 1
  | .lit _ => 1
  | .nil => 1
  | .ptr d => uptoBulk d + 1
  | .slice elems spare => uptoBulkAll elems + uptoBulkAll spare + 1
  | .agg parts => uptoBulkAll parts + 1
  | .iface _ d => uptoBulk d + 1
  | .map entries => uptoBulkEntries entries + 1
  | .held _ => 1
def uptoBulkAll {H : Type} : List (DataW H) → Nat
  | [] => 0
  | d :: r => uptoBulk d + uptoBulkAll r
def uptoBulkEntries {H : Type} : List (Lit × DataW H) → Nat
  | [] => 0
  | x :: r => uptoBulkEntry x + uptoBulkEntries r
def uptoBulkEntry {H : Type} : Lit × DataW H → Nat
  | (.string bytes, d) => bytes.length + uptoBulk d + 1
  | (_, d) => uptoBulk d + 1
 end
def uptoSmall : (H : Type) → List (DataW H) → Bool := fun _ ds => decide (uptoBulkAll ds ≤ 1048576)
def OpenSpec.upto (s : _root_.Go.ChangeSpec) : _root_.Go.OpenSpec := { _root_.Go.OpenSpec.ofChange s with cond := some uptoSmall }

/-- 'verdictlaw16.ClusterLeaders', WHERE WHAT IT READS IS OF BULK AT MOST 1048576: true; the input reads as it did. -/
def clusterLeadersUptoRow : OpenClaim := { program := "ytipneeeahndonaa", sum := "a3b8427c6de201f971588c21d7a83b72e67adf769a7fb1a705e1b310eae40d96", func := "verdict/verdictlaw16.ClusterLeaders", spec := "clusterLeaders", inPlace := ["slices.overlaps[int]"], unfollowed := true, recurses := true, apart := false, narrowed := true }
def ClusterLeadersUptoSaid : Prop := clusterLeadersUptoRow.holds Try.pinned (OpenSpec.upto clusterLeadersSpec)

/-- 'verdictlaw16.ClusterLogs', WHERE WHAT IT READS IS OF BULK AT MOST 1048576: true; the input reads as it did. -/
def clusterLogsUptoRow : OpenClaim := { program := "ytipneeeahndonaa", sum := "a3b8427c6de201f971588c21d7a83b72e67adf769a7fb1a705e1b310eae40d96", func := "verdict/verdictlaw16.ClusterLogs", spec := "clusterLogs", inPlace := ["slices.overlaps[int]"], unfollowed := true, recurses := true, apart := false, narrowed := true }
def ClusterLogsUptoSaid : Prop := clusterLogsUptoRow.holds Try.pinned (OpenSpec.upto clusterLogsSpec)

/-- 'verdictlaw16.ClusterSure', WHERE WHAT IT READS IS OF BULK AT MOST 1048576: true; the input reads as it did. -/
def clusterSureUptoRow : OpenClaim := { program := "ytipneeeahndonaa", sum := "a3b8427c6de201f971588c21d7a83b72e67adf769a7fb1a705e1b310eae40d96", func := "verdict/verdictlaw16.ClusterSure", spec := "clusterSure", inPlace := ["slices.overlaps[int]"], unfollowed := true, recurses := true, apart := false, narrowed := true }
def ClusterSureUptoSaid : Prop := clusterSureUptoRow.holds Try.pinned (OpenSpec.upto clusterSureSpec)

/-- 'verdictlaw16.ClusterComplete', WHERE WHAT IT READS IS OF BULK AT MOST 1048576: true; the input reads as it did. -/
def clusterCompleteUptoRow : OpenClaim := { program := "ytipneeeahndonaa", sum := "a3b8427c6de201f971588c21d7a83b72e67adf769a7fb1a705e1b310eae40d96", func := "verdict/verdictlaw16.ClusterComplete", spec := "clusterComplete", inPlace := ["slices.overlaps[int]"], unfollowed := true, recurses := true, apart := false, narrowed := true }
def ClusterCompleteUptoSaid : Prop := clusterCompleteUptoRow.holds Try.pinned (OpenSpec.upto clusterCompleteSpec)

/-- 'verdictlaw16.ClusterVotes', WHERE WHAT IT READS IS OF BULK AT MOST 1048576: true; the input reads as it did. -/
def clusterVotesUptoRow : OpenClaim := { program := "ytipneeeahndonaa", sum := "a3b8427c6de201f971588c21d7a83b72e67adf769a7fb1a705e1b310eae40d96", func := "verdict/verdictlaw16.ClusterVotes", spec := "clusterVotes", inPlace := ["slices.overlaps[int]"], unfollowed := true, recurses := true, apart := false, narrowed := true }
def ClusterVotesUptoSaid : Prop := clusterVotesUptoRow.holds Try.pinned (OpenSpec.upto clusterVotesSpec)

/-- 'verdictlaw16.ClusterRight', WHERE WHAT IT READS IS OF BULK AT MOST 1048576: true; the input reads as it did. -/
def clusterRightUptoRow : OpenClaim := { program := "ytipneeeahndonaa", sum := "a3b8427c6de201f971588c21d7a83b72e67adf769a7fb1a705e1b310eae40d96", func := "verdict/verdictlaw16.ClusterRight", spec := "clusterRight", inPlace := ["slices.overlaps[int]"], unfollowed := true, recurses := true, apart := false, narrowed := true }
def ClusterRightUptoSaid : Prop := clusterRightUptoRow.holds Try.pinned (OpenSpec.upto clusterRightSpec)

end Rows
end Go.Proofs.Ytipneeeahndonaa
