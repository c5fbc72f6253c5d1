/- The walk over TypesLattice, whatever the three types. -/
import Derived.Test.YtjgonkcfnfgakaaGreatDoorLB
import Derived.Test.YtjgonkcfnfgakaaGreatDoorLC
namespace Go.Proofs.YtjgonkcfnfgakaaGreatDoor
open Go.RowKit

theorem lattice_walk (t0 t1 t2 : TT) (u v x : Array Value) (w : World) (hu : MemT w.heap.size w t0 u) (hv : MemT w.heap.size w t1 v) (hx : MemT w.heap.size w t2 x) :
    Calls Tryz.prog 3 #[.agg u, .agg v, .agg x] w fun e w' => e = .returned (.bool true) ∧ Below w.heap.size w w' := by
  by_cases h : wrongTy 1 t0 = 0 ∧ wrongTy 1 t1 = 0 ∧ wrongTy 1 t2 = 0
  · obtain ⟨a, oa, rfl⟩ := right_sp h.1
    obtain ⟨b, ob, rfl⟩ := right_sp h.2.1
    obtain ⟨c, oc, rfl⟩ := right_sp h.2.2
    exact lattice_right a b c u v x w oa ob oc hu hv hx
  · exact lattice_wrong t0 t1 t2 u v x w hu hv hx h
end Go.Proofs.YtjgonkcfnfgakaaGreatDoor
