/-
  No cell of these rows narrows 'for every input' (looked for: loops, veiled, ifaces, maps, wideKeys, modest, calm, conditions, laid).
  DERIVED. THE GIVEN ROWS OF THIS SEAT. 5 by the template 'for every input the law returns true; each argument reads behind the call as it read before'; 0 by the template 'total and deterministic' (their statements: YtjgpbahjiacjcaaTotals.lean).
  GIVEN WITH THE SEED: the statements are not yours to turn. If you find one false, say at which input.
  Laid BY PROGRAM, IN A SANDBOX (cutbox-rows.mjs): the forced cells as the released guide's own fill.sh prints them over the translation 5ac19f4e58b89f1f… (all of the seat's roots in one cut). By AI agents, Wed Nov 11 2026. No macro, syntax, notation, axiom, sorry.
-/
import Derived.Test.YtjgpbahjiacjcaaChecked
import GoSem.Claim
import GoSem.ClaimJoined
import GoSem.ClaimMapViews
import Derived.JoinedTies
import Derived.KernelRfl
namespace Go.Proofs.Ytjgpbahjiacjcaa
/- THE CELL 'sum', in the pinned program and in every row, IS THE sha256 OF THE DUMP (.gsa) THAT YtjgpbahjiacjcaaProg.lean LOADS. Nothing in Lean hashes anything: it is a label: what it is worth is what the hold of that sum in a sandbox is worth. -/
noncomputable def Try.pinned : Pinned := { name := "ytjgpbahjiacjcaa", sum := "5ac19f4e58b89f1f0761bf9e3b66eb03a6546c23fe19a158753d8f9edfcc1f67", checked := Try.checked }
namespace Rows
def none {H : Type} : Left H := { results := [], args := [] }

/-- 'verdictlaw15.RaftRight': WHATEVER THE INPUT: true; the input reads as it did. -/
def raftRightSpec : ChangeSpec := { name := "raftRight", fn := fun _ => fun
  | [d1, d2, d3] => { results := [.lit (.bool true)], args := [d1, d2, d3] }
  | _ => none }
def raftRightRow : OpenClaim := { program := "ytjgpbahjiacjcaa", sum := "5ac19f4e58b89f1f0761bf9e3b66eb03a6546c23fe19a158753d8f9edfcc1f67", func := "verdict/verdictlaw15.RaftRight", spec := "raftRight", inPlace := ["slices.overlaps[int]"], unfollowed := true, recurses := true, apart := false }
def RaftRightSaid : Prop := raftRightRow.holds Try.pinned (OpenSpec.ofChange raftRightSpec)

/-- ITS FALSE NEIGHBOUR: 'it returns false'. Refute it at one input. -/
def raftRightWrong : ChangeSpec := { name := "raftRight", fn := fun _ => fun
  | [d1, d2, d3] => { results := [.lit (.bool false)], args := [d1, d2, d3] }
  | _ => none }
def RaftRightWrongFalsely : Prop := raftRightRow.holds Try.pinned (OpenSpec.ofChange raftRightWrong)

/-- 'verdictlaw15.RaftVotes': WHATEVER THE INPUT: true; the input reads as it did. -/
def raftVotesSpec : ChangeSpec := { name := "raftVotes", fn := fun _ => fun
  | [d1, d2, d3] => { results := [.lit (.bool true)], args := [d1, d2, d3] }
  | _ => none }
def raftVotesRow : OpenClaim := { program := "ytjgpbahjiacjcaa", sum := "5ac19f4e58b89f1f0761bf9e3b66eb03a6546c23fe19a158753d8f9edfcc1f67", func := "verdict/verdictlaw15.RaftVotes", spec := "raftVotes", inPlace := ["slices.overlaps[int]"], unfollowed := true, recurses := true, apart := false }
def RaftVotesSaid : Prop := raftVotesRow.holds Try.pinned (OpenSpec.ofChange raftVotesSpec)

/-- ITS FALSE NEIGHBOUR: 'it returns false'. Refute it at one input. -/
def raftVotesWrong : ChangeSpec := { name := "raftVotes", fn := fun _ => fun
  | [d1, d2, d3] => { results := [.lit (.bool false)], args := [d1, d2, d3] }
  | _ => none }
def RaftVotesWrongFalsely : Prop := raftVotesRow.holds Try.pinned (OpenSpec.ofChange raftVotesWrong)

/-- 'verdictlaw15.RaftAppends': WHATEVER THE INPUT: true; the input reads as it did. -/
def raftAppendsSpec : ChangeSpec := { name := "raftAppends", fn := fun _ => fun
  | [d1, d2, d3] => { results := [.lit (.bool true)], args := [d1, d2, d3] }
  | _ => none }
def raftAppendsRow : OpenClaim := { program := "ytjgpbahjiacjcaa", sum := "5ac19f4e58b89f1f0761bf9e3b66eb03a6546c23fe19a158753d8f9edfcc1f67", func := "verdict/verdictlaw15.RaftAppends", spec := "raftAppends", inPlace := ["slices.overlaps[int]"], unfollowed := true, recurses := true, apart := false }
def RaftAppendsSaid : Prop := raftAppendsRow.holds Try.pinned (OpenSpec.ofChange raftAppendsSpec)

/-- ITS FALSE NEIGHBOUR: 'it returns false'. Refute it at one input. -/
def raftAppendsWrong : ChangeSpec := { name := "raftAppends", fn := fun _ => fun
  | [d1, d2, d3] => { results := [.lit (.bool false)], args := [d1, d2, d3] }
  | _ => none }
def RaftAppendsWrongFalsely : Prop := raftAppendsRow.holds Try.pinned (OpenSpec.ofChange raftAppendsWrong)

/-- 'verdictlaw15.RaftSpeaks': WHATEVER THE INPUT: true; the input reads as it did. -/
def raftSpeaksSpec : ChangeSpec := { name := "raftSpeaks", fn := fun _ => fun
  | [d1, d2, d3] => { results := [.lit (.bool true)], args := [d1, d2, d3] }
  | _ => none }
def raftSpeaksRow : OpenClaim := { program := "ytjgpbahjiacjcaa", sum := "5ac19f4e58b89f1f0761bf9e3b66eb03a6546c23fe19a158753d8f9edfcc1f67", func := "verdict/verdictlaw15.RaftSpeaks", spec := "raftSpeaks", inPlace := ["slices.overlaps[int]"], unfollowed := true, recurses := true, apart := false }
def RaftSpeaksSaid : Prop := raftSpeaksRow.holds Try.pinned (OpenSpec.ofChange raftSpeaksSpec)

/-- ITS FALSE NEIGHBOUR: 'it returns false'. Refute it at one input. -/
def raftSpeaksWrong : ChangeSpec := { name := "raftSpeaks", fn := fun _ => fun
  | [d1, d2, d3] => { results := [.lit (.bool false)], args := [d1, d2, d3] }
  | _ => none }
def RaftSpeaksWrongFalsely : Prop := raftSpeaksRow.holds Try.pinned (OpenSpec.ofChange raftSpeaksWrong)

/-- 'verdictlaw15.RaftWhole': WHATEVER THE INPUT: true; the input reads as it did. -/
def raftWholeSpec : ChangeSpec := { name := "raftWhole", fn := fun _ => fun
  | [d1, d2] => { results := [.lit (.bool true)], args := [d1, d2] }
  | _ => none }
def raftWholeRow : OpenClaim := { program := "ytjgpbahjiacjcaa", sum := "5ac19f4e58b89f1f0761bf9e3b66eb03a6546c23fe19a158753d8f9edfcc1f67", func := "verdict/verdictlaw15.RaftWhole", spec := "raftWhole", inPlace := ["slices.overlaps[int]"], unfollowed := true, recurses := true, apart := false }
def RaftWholeSaid : Prop := raftWholeRow.holds Try.pinned (OpenSpec.ofChange raftWholeSpec)

/-- ITS FALSE NEIGHBOUR: 'it returns false'. Refute it at one input. -/
def raftWholeWrong : ChangeSpec := { name := "raftWhole", fn := fun _ => fun
  | [d1, d2] => { results := [.lit (.bool false)], args := [d1, d2] }
  | _ => none }
def RaftWholeWrongFalsely : Prop := raftWholeRow.holds Try.pinned (OpenSpec.ofChange raftWholeWrong)

/- THE SECOND FORM. 'bulk': how many values and letters a reading holds, each counted each time it is reached (what is shared counts as often as it is met; a slice's spare places count too). A statement '..UptoSaid' is the law's where the arguments, and the package variables that the reading takes, are together of bulk at most 1048576: NARROWER than '..Said'. Prove '..Said' where nothing that the law and all that it calls make is longer than what came in: it says more and counts as full. Else prove '..UptoSaid'. A law counts once. -/
mutual
def uptoBulk {H : Type} : DataW H → Nat
  | .lit (.string bytes) => bytes.length + 1
  | .lit _ => 1
  | .nil => 1
  | .ptr d => uptoBulk d + 1
  | .slice elems spare => uptoBulkAll elems + uptoBulkAll spare + 1
  | .agg parts => uptoBulkAll parts + 1
  | .iface _ d => uptoBulk d + 1
  | .map entries => uptoBulkEntries entries + 1
  | .held _ => 1
def uptoBulkAll {H : Type} : List (DataW H) → Nat
  | [] => 0
  | d :: r => uptoBulk d + uptoBulkAll r
def uptoBulkEntries {H : Type} : List (Lit × DataW H) → Nat
  | [] => 0
  | x :: r => uptoBulkEntry x + uptoBulkEntries r
def uptoBulkEntry {H : Type} : Lit × DataW H → Nat
  | (.string bytes, d) => bytes.length + uptoBulk d + 1
  | (_, d) => uptoBulk d + 1
 end
def uptoSmall : (H : Type) → List (DataW H) → Bool := fun _ ds => decide (uptoBulkAll ds ≤ 1048576)
def OpenSpec.upto (s : _root_.Go.ChangeSpec) : _root_.Go.OpenSpec := { _root_.Go.OpenSpec.ofChange s with cond := some uptoSmall }

/-- 'verdictlaw15.RaftRight', WHERE WHAT IT READS IS OF BULK AT MOST 1048576: true; the input reads as it did. -/
def raftRightUptoRow : OpenClaim := { program := "ytjgpbahjiacjcaa", sum := "5ac19f4e58b89f1f0761bf9e3b66eb03a6546c23fe19a158753d8f9edfcc1f67", func := "verdict/verdictlaw15.RaftRight", spec := "raftRight", inPlace := ["slices.overlaps[int]"], unfollowed := true, recurses := true, apart := false, narrowed := true }
def RaftRightUptoSaid : Prop := raftRightUptoRow.holds Try.pinned (OpenSpec.upto raftRightSpec)

/-- 'verdictlaw15.RaftVotes', WHERE WHAT IT READS IS OF BULK AT MOST 1048576: true; the input reads as it did. -/
def raftVotesUptoRow : OpenClaim := { program := "ytjgpbahjiacjcaa", sum := "5ac19f4e58b89f1f0761bf9e3b66eb03a6546c23fe19a158753d8f9edfcc1f67", func := "verdict/verdictlaw15.RaftVotes", spec := "raftVotes", inPlace := ["slices.overlaps[int]"], unfollowed := true, recurses := true, apart := false, narrowed := true }
def RaftVotesUptoSaid : Prop := raftVotesUptoRow.holds Try.pinned (OpenSpec.upto raftVotesSpec)

/-- 'verdictlaw15.RaftAppends', WHERE WHAT IT READS IS OF BULK AT MOST 1048576: true; the input reads as it did. -/
def raftAppendsUptoRow : OpenClaim := { program := "ytjgpbahjiacjcaa", sum := "5ac19f4e58b89f1f0761bf9e3b66eb03a6546c23fe19a158753d8f9edfcc1f67", func := "verdict/verdictlaw15.RaftAppends", spec := "raftAppends", inPlace := ["slices.overlaps[int]"], unfollowed := true, recurses := true, apart := false, narrowed := true }
def RaftAppendsUptoSaid : Prop := raftAppendsUptoRow.holds Try.pinned (OpenSpec.upto raftAppendsSpec)

/-- 'verdictlaw15.RaftSpeaks', WHERE WHAT IT READS IS OF BULK AT MOST 1048576: true; the input reads as it did. -/
def raftSpeaksUptoRow : OpenClaim := { program := "ytjgpbahjiacjcaa", sum := "5ac19f4e58b89f1f0761bf9e3b66eb03a6546c23fe19a158753d8f9edfcc1f67", func := "verdict/verdictlaw15.RaftSpeaks", spec := "raftSpeaks", inPlace := ["slices.overlaps[int]"], unfollowed := true, recurses := true, apart := false, narrowed := true }
def RaftSpeaksUptoSaid : Prop := raftSpeaksUptoRow.holds Try.pinned (OpenSpec.upto raftSpeaksSpec)

/-- 'verdictlaw15.RaftWhole', WHERE WHAT IT READS IS OF BULK AT MOST 1048576: true; the input reads as it did. -/
def raftWholeUptoRow : OpenClaim := { program := "ytjgpbahjiacjcaa", sum := "5ac19f4e58b89f1f0761bf9e3b66eb03a6546c23fe19a158753d8f9edfcc1f67", func := "verdict/verdictlaw15.RaftWhole", spec := "raftWhole", inPlace := ["slices.overlaps[int]"], unfollowed := true, recurses := true, apart := false, narrowed := true }
def RaftWholeUptoSaid : Prop := raftWholeUptoRow.holds Try.pinned (OpenSpec.upto raftWholeSpec)

end Rows
end Go.Proofs.Ytjgpbahjiacjcaa
