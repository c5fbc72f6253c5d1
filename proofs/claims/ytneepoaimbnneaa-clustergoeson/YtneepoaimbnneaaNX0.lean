/- A function that is held against nil. -/
import Derived.Test.YtneepoaimbnneaaNT
namespace Go.Proofs.Ytneepoaimbnneaa.RW
open Go.RowKit

theorem fn_equal (d f : Nat) (a : Array Value) (w : World) : (Op.equalIn (d + 1) 78 (Value.func (Fn.func f) a #[]) Value.nilFunc).run Try.prog w = .ok false w := by
  simp [Op.equalIn, run_underlying Try.underlying78]
theorem nil_equal (d : Nat) (w : World) : (Op.equalIn (d + 1) 78 Value.nilFunc Value.nilFunc).run Try.prog w = .ok true w := by
  simp [Op.equalIn, run_underlying Try.underlying78]
theorem fn_nil (f : Nat) (a : Array Value) (w : World) : (binOp BinOp.eql 78 (Value.func (Fn.func f) a #[]) Value.nilFunc).run Try.prog w = .ok (.bool false) w := by
  simp only [binOp, Op.equal, Op.maxDepth, Sem.run_bind, fn_equal, Result.andThen_ok, Sem.run_pure]
theorem nil_nil (w : World) : (binOp BinOp.eql 78 Value.nilFunc Value.nilFunc).run Try.prog w = .ok (.bool true) w := by
  simp only [binOp, Op.equal, Op.maxDepth, Sem.run_bind, nil_equal, Result.andThen_ok, Sem.run_pure]

end Go.Proofs.Ytneepoaimbnneaa.RW
