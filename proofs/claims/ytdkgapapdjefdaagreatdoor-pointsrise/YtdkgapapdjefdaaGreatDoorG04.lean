/- Walks: Wrong. -/
import Derived.Test.YtdkgapapdjefdaaGreatDoorProg
import Derived.WalkKit
import Derived.WalkSpells
import Derived.WalkLawsBesides
import Derived.Deep.QuietTactic
import Derived.BigQuiet
import Derived.Outline
import Derived.Test.YtdkgapapdjefdaaGreatDoorG01
namespace Go.Proofs.YtdkgapapdjefdaaGreatDoor
open Go.RowKit

theorem hide {p : Prop} (h : p) : Hid p := h
theorem unhide {p : Prop} (h : Hid p) : p := h
theorem ret_int {k : IntKind} {a b : Int} (h : a = b) : Ending.returned (.int k a) = .returned (.int k b) := by rw [h]

set_option maxHeartbeats 400000 in
theorem wrong_any (c x : Int) (w : World) :
    Calls Tryz.prog 61 #[.agg #[.int .i64 c, .int .i64 x]] w fun e w' => e = .returned (.int .i64 (Dm.wrongN c x)) ∧ Below w.heap.size w w' := by
  go_enter Tryz.func61, Tryz.ntmps61
  go_wp2
  all_goals
    go_ret
    refine ⟨ret_int ?_, (Below.refl _ _).alloc (Nat.le_refl _) _⟩
    unfold Dm.wrongN
    (repeat' split) <;> first | rfl | (exfalso; omega) | (simp_all; done)
end Go.Proofs.YtdkgapapdjefdaaGreatDoor
