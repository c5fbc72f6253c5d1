/- PointsRise: the law's walk. -/
import Derived.Test.YtdkgapapdjefdaaGreatDoorH10
import Derived.Test.YtdkgapapdjefdaaGreatDoorH09
namespace Go.Proofs.YtdkgapapdjefdaaGreatDoor
open Go.RowKit Go.Sort

theorem rise_walk (kind : Int) (ts : List TS) (l : Value) (B : Nat) (w : World) (hB : B ≤ w.heap.size) (hl : SlT B w ts l) (hT : TabsIn B w) :
    Calls Tryz.prog 4 #[.int .i64 kind, l] w fun e w' => e = .returned (.bool true) ∧ Below w.heap.size w w' :=
  rise_walk0 kind ts l B w hB hl hT dless_any
end Go.Proofs.YtdkgapapdjefdaaGreatDoor
