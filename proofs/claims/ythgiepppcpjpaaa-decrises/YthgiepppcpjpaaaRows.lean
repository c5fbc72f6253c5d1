/-
  No cell of these rows narrows 'for every input' (looked for: loops, veiled, ifaces, maps, wideKeys, modest, calm, conditions, laid).
  DERIVED. THE GIVEN ROWS OF THIS SEAT. 4 by the template 'for every input the law returns true; each argument reads behind the call as it read before'; 0 by the template 'total and deterministic' (their statements: YthgiepppcpjpaaaTotals.lean).
  GIVEN WITH THE SEED: the statements are not yours to turn. If you find one false, say at which input.
  Laid BY PROGRAM, IN A SANDBOX (cutbox-rows.mjs): the forced cells as the released guide's own fill.sh prints them over the translation 43031816c0257c80… (all of the seat's roots in one cut). By AI agents, Wed Nov 11 2026. No macro, syntax, notation, axiom, sorry.
-/
import Derived.Test.YthgiepppcpjpaaaChecked
import GoSem.Claim
import GoSem.ClaimJoined
import GoSem.ClaimMapViews
import Derived.JoinedTies
import Derived.KernelRfl
namespace Go.Proofs.Ythgiepppcpjpaaa
/- THE CELL 'sum', in the pinned program and in every row, IS THE sha256 OF THE DUMP (.gsa) THAT YthgiepppcpjpaaaProg.lean LOADS. Nothing in Lean hashes anything: it is a label: what it is worth is what the hold of that sum in a sandbox is worth. -/
noncomputable def Try.pinned : Pinned := { name := "ythgiepppcpjpaaa", sum := "43031816c0257c80af6e2cad00a2ac1ab8a921c9ad9da6ef057438d3d40f7d12", checked := Try.checked }
namespace Rows
def none {H : Type} : Left H := { results := [], args := [] }

/-- 'verdictlaw1.DecOrder': WHATEVER THE INPUT: true; the input reads as it did. -/
def decOrderSpec : ChangeSpec := { name := "decOrder", fn := fun _ => fun
  | [d1, d2, d3] => { results := [.lit (.bool true)], args := [d1, d2, d3] }
  | _ => none }
def decOrderRow : OpenClaim := { program := "ythgiepppcpjpaaa", sum := "43031816c0257c80af6e2cad00a2ac1ab8a921c9ad9da6ef057438d3d40f7d12", func := "verdict/verdictlaw1.DecOrder", spec := "decOrder", inPlace := ["internal/bytealg.Compare"], apart := false }
def DecOrderSaid : Prop := decOrderRow.holds Try.pinned (OpenSpec.ofChange decOrderSpec)

/-- ITS FALSE NEIGHBOUR: 'it returns false'. Refute it at one input. -/
def decOrderWrong : ChangeSpec := { name := "decOrder", fn := fun _ => fun
  | [d1, d2, d3] => { results := [.lit (.bool false)], args := [d1, d2, d3] }
  | _ => none }
def DecOrderWrongFalsely : Prop := decOrderRow.holds Try.pinned (OpenSpec.ofChange decOrderWrong)

/-- 'verdictlaw1.DecRing': WHATEVER THE INPUT: true; the input reads as it did. -/
def decRingSpec : ChangeSpec := { name := "decRing", fn := fun _ => fun
  | [d1, d2] => { results := [.lit (.bool true)], args := [d1, d2] }
  | _ => none }
def decRingRow : OpenClaim := { program := "ythgiepppcpjpaaa", sum := "43031816c0257c80af6e2cad00a2ac1ab8a921c9ad9da6ef057438d3d40f7d12", func := "verdict/verdictlaw1.DecRing", spec := "decRing", inPlace := ["internal/bytealg.Compare"], named := ["math/bits.divideError", "math/bits.overflowError"], apart := false }
def DecRingSaid : Prop := decRingRow.holds Try.pinned (OpenSpec.ofChange decRingSpec)

/-- ITS FALSE NEIGHBOUR: 'it returns false'. Refute it at one input. -/
def decRingWrong : ChangeSpec := { name := "decRing", fn := fun _ => fun
  | [d1, d2] => { results := [.lit (.bool false)], args := [d1, d2] }
  | _ => none }
def DecRingWrongFalsely : Prop := decRingRow.holds Try.pinned (OpenSpec.ofChange decRingWrong)

/-- 'verdictlaw1.DecRises': WHATEVER THE INPUT: true; the input reads as it did. -/
def decRisesSpec : ChangeSpec := { name := "decRises", fn := fun _ => fun
  | [d1, d2, d3] => { results := [.lit (.bool true)], args := [d1, d2, d3] }
  | _ => none }
def decRisesRow : OpenClaim := { program := "ythgiepppcpjpaaa", sum := "43031816c0257c80af6e2cad00a2ac1ab8a921c9ad9da6ef057438d3d40f7d12", func := "verdict/verdictlaw1.DecRises", spec := "decRises", inPlace := ["internal/bytealg.Compare"], named := ["math/bits.divideError", "math/bits.overflowError"], apart := false }
def DecRisesSaid : Prop := decRisesRow.holds Try.pinned (OpenSpec.ofChange decRisesSpec)

/-- ITS FALSE NEIGHBOUR: 'it returns false'. Refute it at one input. -/
def decRisesWrong : ChangeSpec := { name := "decRises", fn := fun _ => fun
  | [d1, d2, d3] => { results := [.lit (.bool false)], args := [d1, d2, d3] }
  | _ => none }
def DecRisesWrongFalsely : Prop := decRisesRow.holds Try.pinned (OpenSpec.ofChange decRisesWrong)

/-- 'verdictlaw1.DecRounds': WHATEVER THE INPUT: true; the input reads as it did. -/
def decRoundsSpec : ChangeSpec := { name := "decRounds", fn := fun _ => fun
  | [d1, d2] => { results := [.lit (.bool true)], args := [d1, d2] }
  | _ => none }
def decRoundsRow : OpenClaim := { program := "ythgiepppcpjpaaa", sum := "43031816c0257c80af6e2cad00a2ac1ab8a921c9ad9da6ef057438d3d40f7d12", func := "verdict/verdictlaw1.DecRounds", spec := "decRounds", inPlace := ["internal/bytealg.Compare"], apart := false }
def DecRoundsSaid : Prop := decRoundsRow.holds Try.pinned (OpenSpec.ofChange decRoundsSpec)

/-- ITS FALSE NEIGHBOUR: 'it returns false'. Refute it at one input. -/
def decRoundsWrong : ChangeSpec := { name := "decRounds", fn := fun _ => fun
  | [d1, d2] => { results := [.lit (.bool false)], args := [d1, d2] }
  | _ => none }
def DecRoundsWrongFalsely : Prop := decRoundsRow.holds Try.pinned (OpenSpec.ofChange decRoundsWrong)

/- THE SECOND FORM. 'bulk': how many values and letters a reading holds, each counted each time it is reached (what is shared counts as often as it is met; a slice's spare places count too). A statement '..UptoSaid' is the law's where the arguments, and the package variables that the reading takes, are together of bulk at most 1048576: NARROWER than '..Said'. Prove '..Said' where nothing that the law and all that it calls make is longer than what came in: it says more and counts as full. Else prove '..UptoSaid'. A law counts once. -/
mutual
def uptoBulk {H : Type} : DataW H → Nat
  | .lit (.string bytes) => bytes.length + 1
  | .lit _ => 1
  | .nil => 1
  | .ptr d => uptoBulk d + 1
  | .slice elems spare => uptoBulkAll elems + uptoBulkAll spare + 1
  | .agg parts => uptoBulkAll parts + 1
  | .iface _ d => uptoBulk d + 1
  | .map entries => uptoBulkEntries entries + 1
  | .held _ => 1
def uptoBulkAll {H : Type} : List (DataW H) → Nat
  | [] => 0
  | d :: r => uptoBulk d + uptoBulkAll r
def uptoBulkEntries {H : Type} : List (Lit × DataW H) → Nat
  | [] => 0
  | x :: r => uptoBulkEntry x + uptoBulkEntries r
def uptoBulkEntry {H : Type} : Lit × DataW H → Nat
  | (.string bytes, d) => bytes.length + uptoBulk d + 1
  | (_, d) => uptoBulk d + 1
 end
def uptoSmall : (H : Type) → List (DataW H) → Bool := fun _ ds => decide (uptoBulkAll ds ≤ 1048576)
def OpenSpec.upto (s : _root_.Go.ChangeSpec) : _root_.Go.OpenSpec := { _root_.Go.OpenSpec.ofChange s with cond := some uptoSmall }

/-- 'verdictlaw1.DecOrder', WHERE WHAT IT READS IS OF BULK AT MOST 1048576: true; the input reads as it did. -/
def decOrderUptoRow : OpenClaim := { program := "ythgiepppcpjpaaa", sum := "43031816c0257c80af6e2cad00a2ac1ab8a921c9ad9da6ef057438d3d40f7d12", func := "verdict/verdictlaw1.DecOrder", spec := "decOrder", inPlace := ["internal/bytealg.Compare"], apart := false, narrowed := true }
def DecOrderUptoSaid : Prop := decOrderUptoRow.holds Try.pinned (OpenSpec.upto decOrderSpec)

/-- 'verdictlaw1.DecRing', WHERE WHAT IT READS IS OF BULK AT MOST 1048576: true; the input reads as it did. -/
def decRingUptoRow : OpenClaim := { program := "ythgiepppcpjpaaa", sum := "43031816c0257c80af6e2cad00a2ac1ab8a921c9ad9da6ef057438d3d40f7d12", func := "verdict/verdictlaw1.DecRing", spec := "decRing", inPlace := ["internal/bytealg.Compare"], named := ["math/bits.divideError", "math/bits.overflowError"], apart := false, narrowed := true }
def DecRingUptoSaid : Prop := decRingUptoRow.holds Try.pinned (OpenSpec.upto decRingSpec)

/-- 'verdictlaw1.DecRises', WHERE WHAT IT READS IS OF BULK AT MOST 1048576: true; the input reads as it did. -/
def decRisesUptoRow : OpenClaim := { program := "ythgiepppcpjpaaa", sum := "43031816c0257c80af6e2cad00a2ac1ab8a921c9ad9da6ef057438d3d40f7d12", func := "verdict/verdictlaw1.DecRises", spec := "decRises", inPlace := ["internal/bytealg.Compare"], named := ["math/bits.divideError", "math/bits.overflowError"], apart := false, narrowed := true }
def DecRisesUptoSaid : Prop := decRisesUptoRow.holds Try.pinned (OpenSpec.upto decRisesSpec)

/-- 'verdictlaw1.DecRounds', WHERE WHAT IT READS IS OF BULK AT MOST 1048576: true; the input reads as it did. -/
def decRoundsUptoRow : OpenClaim := { program := "ythgiepppcpjpaaa", sum := "43031816c0257c80af6e2cad00a2ac1ab8a921c9ad9da6ef057438d3d40f7d12", func := "verdict/verdictlaw1.DecRounds", spec := "decRounds", inPlace := ["internal/bytealg.Compare"], apart := false, narrowed := true }
def DecRoundsUptoSaid : Prop := decRoundsUptoRow.holds Try.pinned (OpenSpec.upto decRoundsSpec)

end Rows
end Go.Proofs.Ythgiepppcpjpaaa
