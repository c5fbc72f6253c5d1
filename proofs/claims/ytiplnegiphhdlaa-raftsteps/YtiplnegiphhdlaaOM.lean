/- The law of steps, of the landed package. -/
import Derived.Test.YtiplnegiphhdlaaOL
import Derived.Test.YtiplnegiphhdlaaNT
import Derived.Test.YtiplnegiphhdlaaNU
namespace Go.Proofs.Ytiplnegiphhdlaa
open Go.RowKit

theorem fit_steps {x : Rf.Node} (b : x.log.length * 16 ≤ 0x7ffffffff000 ∧ x.votes.length * 8 ≤ 0x7ffffffff000 ∧ x.next.length * 8 ≤ 0x7ffffffff000 ∧ x.mtch.length * 8 ≤ 0x7ffffffff000) : RW.FitN x := by
  unfold RW.FitN
  omega

theorem steps_any (x : Rf.Node) (v : Array Value) (cmd : Int) (w : World) (hv : Nv w v x) (hf : RW.FitN x) : Calls Try.prog 3 #[.agg v, .int .i64 cmd] w fun e w' => e = .returned (.bool true) ∧ Below w.heap.size w w' :=
  steps_walk RW.wrong_any RW.timeout_any RW.beat_any RW.propose_any RW.restart_any x v cmd w hv hf
end Go.Proofs.Ytiplnegiphhdlaa
