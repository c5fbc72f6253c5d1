/- Walks: what is wrong with a list that is empty, as an expression. -/
import Derived.Test.YtjgonkcfnfgakaaGreatDoorU9
namespace Go.Proofs.YtjgonkcfnfgakaaGreatDoor
open Go.RowKit

/-- the expression of an empty list -/
abbrev xl : Value := .agg #[.int .i64 19, .int .i64 0, .bool false, .int .i64 0, .int .i64 0, .string ⟨#[]⟩, .slice none 0 0, .string ⟨#[]⟩, .slice none 0 0]

abbrev xlo : Obj := .cells #[.int .i64 19, .int .i64 0, .bool false, .int .i64 0, .int .i64 0, .string ⟨#[]⟩, .slice none 0 0, .string ⟨#[]⟩, .slice none 0 0] 40

set_option maxHeartbeats 4000000 in
theorem hasName_19 (w : World) : Calls Tryz.prog 77 #[.int .i64 19] w fun e w' => e = .returned (.bool false) ∧ w' = w := by
  go_enter Tryz.func77, Tryz.ntmps77
  go_wp2
  go_ret
  exact ⟨rfl, rfl⟩

set_option maxHeartbeats 4000000 in
theorem kidsOf_19 (w : World) : Calls Tryz.prog 78 #[.int .i64 19] w fun e w' => e = .returned (.tuple #[.int .i64 0, .int .i64 200]) ∧ w' = w := by
  go_enter Tryz.func78, Tryz.ntmps78
  go_wp2
  exact bodyPost_ret (v := .tuple #[.int .i64 0, .int .i64 200]) (by simp [results, Tryz.results78, go_sem]) rfl ⟨rfl, rfl⟩

set_option maxHeartbeats 4000000 in
theorem wrongNode_xl (w : World) : Calls Tryz.prog 67 #[xl] w fun e w' => e = .returned (.int .i64 0) ∧ w' = w.alloc xlo := by
  go_enter Tryz.func67, Tryz.ntmps67
  go_wp2_with fail
  refine (hasName_19 _).mono ?_
  rintro e w1 ⟨rfl, rfl⟩
  go_wp2_with fail
  refine (kidsOf_19 _).mono ?_
  rintro e w1 ⟨rfl, rfl⟩
  go_wp2
  go_ret
  exact ⟨rfl, rfl⟩

set_option maxHeartbeats 4000000 in
theorem lookWrong_xl (p : Nat) (w : World) (lp : p < w.heap.size) (h0 : w.cell? ⟨p, 0, none⟩ = some (.int .i64 0)) (h1 : w.frozen? ⟨p, 0, none⟩ = false) :
    Calls Tryz.prog 45 #[.pointer (some ⟨p, 0, none⟩), xl, .int .i64 1] w fun e w' => e = .returned (.int .i64 0) ∧ Below p w w' := by
  have hne : ¬ p = w.heap.size := by omega
  go_enter Tryz.func45, Tryz.ntmps45
  go_wp2_with fail
  refine (wrongNode_xl _).mono ?_
  rintro e w1 ⟨rfl, rfl⟩
  go_wp2_with fail
  refine wp_loop_rounds 1 ?_
  rw [rounds_succ]
  go_wp2
  go_ret
  exact ⟨rfl, (((Below.refl p w).setCell (Nat.le_refl _) _).alloc (by simp; omega) _).alloc (by simp; omega) _⟩

set_option maxHeartbeats 4000000 in
theorem synWrong_xl (w : World) : Calls Tryz.prog 28 #[xl] w fun e w' => e = .returned (.int .i64 0) ∧ Below w.heap.size w w' := by
  have B0 := hide (((Below.refl w.heap.size w).alloc (Nat.le_refl _) xlo).alloc (by simp) (.cells #[.int .i64 0] 102))
  go_enter Tryz.func28, Tryz.ntmps28
  go_wp2_with fail
  refine (lookWrong_xl (w.heap.size + 1) _ (by simp) (by go_simp) (by go_simp)).mono ?_
  rintro e w1 ⟨rfl, hb⟩
  have B1 := hide ((unhide B0).trans (hb.mono (by omega)))
  clear hb
  go_wp2
  go_ret
  exact ⟨rfl, unhide B1⟩
end Go.Proofs.YtjgonkcfnfgakaaGreatDoor
