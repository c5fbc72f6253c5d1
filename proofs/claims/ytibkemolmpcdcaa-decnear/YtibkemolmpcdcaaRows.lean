/-
  No cell of these rows narrows 'for every input' (looked for: loops, veiled, ifaces, maps, wideKeys, modest, calm, conditions, laid).
  DERIVED. THE GIVEN ROWS OF THIS SEAT. 3 by the template 'for every input the law returns true; each argument reads behind the call as it read before'; 0 by the template 'total and deterministic' (their statements: YtibkemolmpcdcaaTotals.lean).
  GIVEN WITH THE SEED: the statements are not yours to turn. If you find one false, say at which input.
  Laid BY PROGRAM, IN A SANDBOX (cutbox-rows.mjs): the forced cells as the released guide's own fill.sh prints them over the translation a360ab3850497429… (all of the seat's roots in one cut). By AI agents, Wed Nov 11 2026. No macro, syntax, notation, axiom, sorry.
-/
import Derived.Test.YtibkemolmpcdcaaChecked
import GoSem.Claim
import GoSem.ClaimJoined
import GoSem.ClaimMapViews
import Derived.JoinedTies
import Derived.KernelRfl
namespace Go.Proofs.Ytibkemolmpcdcaa
/- THE CELL 'sum', in the pinned program and in every row, IS THE sha256 OF THE DUMP (.gsa) THAT YtibkemolmpcdcaaProg.lean LOADS. Nothing in Lean hashes anything: it is a label: what it is worth is what the hold of that sum in a sandbox is worth. -/
noncomputable def Try.pinned : Pinned := { name := "ytibkemolmpcdcaa", sum := "a360ab3850497429627461b39d12233f86e2284e79225ddbb262f79ad03f6bbb", checked := Try.checked }
namespace Rows
def none {H : Type} : Left H := { results := [], args := [] }

/-- 'verdictlaw1.DecReckons': WHATEVER THE INPUT: true; the input reads as it did. -/
def decReckonsSpec : ChangeSpec := { name := "decReckons", fn := fun _ => fun
  | [d1, d2] => { results := [.lit (.bool true)], args := [d1, d2] }
  | _ => none }
def decReckonsRow : OpenClaim := { program := "ytibkemolmpcdcaa", sum := "a360ab3850497429627461b39d12233f86e2284e79225ddbb262f79ad03f6bbb", func := "verdict/verdictlaw1.DecReckons", spec := "decReckons", inPlace := ["internal/bytealg.Compare"], recurses := true, named := ["math/bits.divideError", "math/bits.overflowError"], apart := false }
def DecReckonsSaid : Prop := decReckonsRow.holds Try.pinned (OpenSpec.ofChange decReckonsSpec)

/-- ITS FALSE NEIGHBOUR: 'it returns false'. Refute it at one input. -/
def decReckonsWrong : ChangeSpec := { name := "decReckons", fn := fun _ => fun
  | [d1, d2] => { results := [.lit (.bool false)], args := [d1, d2] }
  | _ => none }
def DecReckonsWrongFalsely : Prop := decReckonsRow.holds Try.pinned (OpenSpec.ofChange decReckonsWrong)

/-- 'verdictlaw1.DecShapes': WHATEVER THE INPUT: true; the input reads as it did. -/
def decShapesSpec : ChangeSpec := { name := "decShapes", fn := fun _ => fun
  | [d1, d2] => { results := [.lit (.bool true)], args := [d1, d2] }
  | _ => none }
def decShapesRow : OpenClaim := { program := "ytibkemolmpcdcaa", sum := "a360ab3850497429627461b39d12233f86e2284e79225ddbb262f79ad03f6bbb", func := "verdict/verdictlaw1.DecShapes", spec := "decShapes", recurses := true, apart := false }
def DecShapesSaid : Prop := decShapesRow.holds Try.pinned (OpenSpec.ofChange decShapesSpec)

/-- ITS FALSE NEIGHBOUR: 'it returns false'. Refute it at one input. -/
def decShapesWrong : ChangeSpec := { name := "decShapes", fn := fun _ => fun
  | [d1, d2] => { results := [.lit (.bool false)], args := [d1, d2] }
  | _ => none }
def DecShapesWrongFalsely : Prop := decShapesRow.holds Try.pinned (OpenSpec.ofChange decShapesWrong)

/-- 'verdictlaw1.DecNear': WHATEVER THE INPUT: true; the input reads as it did. -/
def decNearSpec : ChangeSpec := { name := "decNear", fn := fun _ => fun
  | [d1, d2, d3] => { results := [.lit (.bool true)], args := [d1, d2, d3] }
  | _ => none }
def decNearRow : OpenClaim := { program := "ytibkemolmpcdcaa", sum := "a360ab3850497429627461b39d12233f86e2284e79225ddbb262f79ad03f6bbb", func := "verdict/verdictlaw1.DecNear", spec := "decNear", inPlace := ["internal/bytealg.Compare"], recurses := true, named := ["math/bits.divideError", "math/bits.overflowError"], apart := false }
def DecNearSaid : Prop := decNearRow.holds Try.pinned (OpenSpec.ofChange decNearSpec)

/-- ITS FALSE NEIGHBOUR: 'it returns false'. Refute it at one input. -/
def decNearWrong : ChangeSpec := { name := "decNear", fn := fun _ => fun
  | [d1, d2, d3] => { results := [.lit (.bool false)], args := [d1, d2, d3] }
  | _ => none }
def DecNearWrongFalsely : Prop := decNearRow.holds Try.pinned (OpenSpec.ofChange decNearWrong)

/- THE SECOND FORM. 'bulk': how many values and letters a reading holds, each counted each time it is reached (what is shared counts as often as it is met; a slice's spare places count too). A statement '..UptoSaid' is the law's where the arguments, and the package variables that the reading takes, are together of bulk at most 1048576: NARROWER than '..Said'. Prove '..Said' where nothing that the law and all that it calls make is longer than what came in: it says more and counts as full. Else prove '..UptoSaid'. A law counts once. -/
mutual
def uptoBulk {H : Type} : DataW H → Nat
  | .lit (.string bytes) => bytes.length + 1
  | .lit _ => 1
  | .nil => 1
  | .ptr d => uptoBulk d + 1
  | .slice elems spare => uptoBulkAll elems + uptoBulkAll spare + 1
  | .agg parts => uptoBulkAll parts + 1
  | .iface _ d => uptoBulk d + 1
  | .map entries => uptoBulkEntries entries + 1
  | .held _ => 1
def uptoBulkAll {H : Type} : List (DataW H) → Nat
  | [] => 0
  | d :: r => uptoBulk d + uptoBulkAll r
def uptoBulkEntries {H : Type} : List (Lit × DataW H) → Nat
  | [] => 0
  | x :: r => uptoBulkEntry x + uptoBulkEntries r
def uptoBulkEntry {H : Type} : Lit × DataW H → Nat
  | (.string bytes, d) => bytes.length + uptoBulk d + 1
  | (_, d) => uptoBulk d + 1
 end
def uptoSmall : (H : Type) → List (DataW H) → Bool := fun _ ds => decide (uptoBulkAll ds ≤ 1048576)
def OpenSpec.upto (s : _root_.Go.ChangeSpec) : _root_.Go.OpenSpec := { _root_.Go.OpenSpec.ofChange s with cond := some uptoSmall }

/-- 'verdictlaw1.DecReckons', WHERE WHAT IT READS IS OF BULK AT MOST 1048576: true; the input reads as it did. -/
def decReckonsUptoRow : OpenClaim := { program := "ytibkemolmpcdcaa", sum := "a360ab3850497429627461b39d12233f86e2284e79225ddbb262f79ad03f6bbb", func := "verdict/verdictlaw1.DecReckons", spec := "decReckons", inPlace := ["internal/bytealg.Compare"], recurses := true, named := ["math/bits.divideError", "math/bits.overflowError"], apart := false, narrowed := true }
def DecReckonsUptoSaid : Prop := decReckonsUptoRow.holds Try.pinned (OpenSpec.upto decReckonsSpec)

/-- 'verdictlaw1.DecShapes', WHERE WHAT IT READS IS OF BULK AT MOST 1048576: true; the input reads as it did. -/
def decShapesUptoRow : OpenClaim := { program := "ytibkemolmpcdcaa", sum := "a360ab3850497429627461b39d12233f86e2284e79225ddbb262f79ad03f6bbb", func := "verdict/verdictlaw1.DecShapes", spec := "decShapes", recurses := true, apart := false, narrowed := true }
def DecShapesUptoSaid : Prop := decShapesUptoRow.holds Try.pinned (OpenSpec.upto decShapesSpec)

/-- 'verdictlaw1.DecNear', WHERE WHAT IT READS IS OF BULK AT MOST 1048576: true; the input reads as it did. -/
def decNearUptoRow : OpenClaim := { program := "ytibkemolmpcdcaa", sum := "a360ab3850497429627461b39d12233f86e2284e79225ddbb262f79ad03f6bbb", func := "verdict/verdictlaw1.DecNear", spec := "decNear", inPlace := ["internal/bytealg.Compare"], recurses := true, named := ["math/bits.divideError", "math/bits.overflowError"], apart := false, narrowed := true }
def DecNearUptoSaid : Prop := decNearUptoRow.holds Try.pinned (OpenSpec.upto decNearSpec)

end Rows
end Go.Proofs.Ytibkemolmpcdcaa
