/- Walks: wrongOf, size, cmp.Compare, stretched, compareSizes, Cmp. -/
import Derived.Test.YteniijhffinhnaaDoorW1
import Derived.Deep.RegionWith
import Derived.Deep.Cut
import Derived.Deep.CutRange
import Derived.Deep.LoopGhost
namespace Go.Proofs.YteniijhffinhnaaDoor
open Go.RowKit

theorem bcell {W w1 : World} (hb : Below W.heap.size W w1) : (∀ b o, b < W.heap.size → w1.cell? ⟨b, o, none⟩ = W.cell? ⟨b, o, none⟩) ∧ (∀ b o, b < W.heap.size → w1.frozen? ⟨b, o, none⟩ = W.frozen? ⟨b, o, none⟩) :=
  ⟨fun b o h => hb.cell (p := ⟨b, o, none⟩) h, fun b o h => hb.frozen (p := ⟨b, o, none⟩) h⟩

set_option maxHeartbeats 400000 in
theorem wrongOf_any (c1 x1 c2 x2 : Int) (w : World) :
    Calls Tryd.prog 20 #[.agg #[.int .i64 c1, .int .i64 x1], .agg #[.int .i64 c2, .int .i64 x2]] w fun e w' => e = .returned (.int .i64 (Dm.wrong2 c1 x1 c2 x2)) ∧ Below w.heap.size w w' := by
  go_enter Tryd.func20, Tryd.ntmps20
  go_wp2_with fail
  refine (wrong_any c1 x1 _).mono ?_
  rintro e w1 ⟨rfl, hb⟩
  obtain ⟨hc, hf⟩ := bcell hb
  have hz : w.heap.size + 2 ≤ w1.heap.size := by have := hb.size; simp at this; omega
  have hb0 : Below w.heap.size w w1 := (((Below.refl _ _).alloc (Nat.le_refl _) _).alloc (by simp) _).trans (hb.mono (by simp; omega))
  by_cases h : Dm.wrongN c1 x1 = 0
  · have H := hide (Dm.wrong2_ok h c2 x2)
    have h' : (Dm.wrongN c1 x1 != 0) = false := by simp [h]
    clear h
    go_wp2_with fail
    refine (wrong_any c2 x2 _).mono ?_
    rintro e w2 ⟨rfl, hb2⟩
    go_wp2
    go_ret
    exact ⟨ret_int (unhide H).symm, hb0.trans (hb2.mono (by omega))⟩
  · have H := hide (Dm.wrong2_no h c2 x2)
    have h' : (Dm.wrongN c1 x1 != 0) = true := by simp [h]
    clear h
    go_wp2
    go_ret
    exact ⟨ret_int (unhide H).symm, hb0⟩

set_option maxHeartbeats 400000 in
theorem size_any (c x : Int) (w : World) (h1 : -1000000000000000000 < c) (h2 : c < 1000000000000000000) :
    Calls Tryd.prog 31 #[.agg #[.int .i64 c, .int .i64 x]] w fun e w' => e = .returned (.int .u64 (c.natAbs : Int)) ∧ Below w.heap.size w w' := by
  by_cases h : c < 0
  all_goals
    go_enter Tryd.func31, Tryd.ntmps31
    go_wp2
    go_ret
    refine ⟨ret_int ?_, (Below.refl _ _).alloc (Nat.le_refl _) _⟩
    omega

set_option maxHeartbeats 400000 in
theorem cmpI64_any (a b : Int) (w : World) :
    Calls Tryd.prog 21 #[.int .i64 a, .int .i64 b] w fun e w' => e = .returned (.int .i64 (Dm.sgn (a - b))) ∧ w' = w := by
  go_enter Tryd.func21, Tryd.ntmps21
  go_wp2
  all_goals
    go_ret
    refine ⟨ret_int ?_, rfl⟩
    unfold Dm.sgn
    (repeat' split) <;> omega

set_option maxHeartbeats 400000 in
theorem cmpInt_any (a b : Int) (w : World) :
    Calls Tryd.prog 22 #[.int .i64 a, .int .i64 b] w fun e w' => e = .returned (.int .i64 (Dm.sgn (a - b))) ∧ w' = w := by
  go_enter Tryd.func22, Tryd.ntmps22
  go_wp2
  all_goals
    go_ret
    refine ⟨ret_int ?_, rfl⟩
    unfold Dm.sgn
    (repeat' split) <;> omega

set_option maxHeartbeats 400000 in
theorem cmpU64_any (a b : Int) (w : World) :
    Calls Tryd.prog 29 #[.int .u64 a, .int .u64 b] w fun e w' => e = .returned (.int .i64 (Dm.sgn (a - b))) ∧ w' = w := by
  go_enter Tryd.func29, Tryd.ntmps29
  go_wp2
  all_goals
    go_ret
    refine ⟨ret_int ?_, rfl⟩
    unfold Dm.sgn
    (repeat' split) <;> omega
end Go.Proofs.YteniijhffinhnaaDoor
