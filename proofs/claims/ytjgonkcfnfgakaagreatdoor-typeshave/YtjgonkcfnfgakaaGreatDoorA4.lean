/- Walks: the type of an empty list. -/
import Derived.Test.YtjgonkcfnfgakaaGreatDoorA3
import Derived.Test.YtjgonkcfnfgakaaGreatDoorA2
import Derived.Laws.MakeOwn
namespace Go.Proofs.YtjgonkcfnfgakaaGreatDoor
open Go.RowKit

set_option maxHeartbeats 4000000 in
theorem wrongAsked_xl (w : World) : Calls Tryz.prog 19 #[xl, .slice none 0 0] w fun e w' => e = .returned (.int .i64 0) ∧ Below w.heap.size w w' := by
  go_enter Tryz.func19, Tryz.ntmps19
  go_wp2_with fail
  refine (synWrong_xl _).mono ?_
  rintro e w1 ⟨rfl, hb⟩
  have B1 := hide (below_via ((Below.refl _ _).alloc (Nat.le_refl _) _) hb)
  clear hb
  go_wp2_with fail
  refine wp_loop_rounds 1 ?_
  rw [rounds_succ]
  go_wp2
  go_ret
  exact ⟨rfl, unhide B1⟩

set_option maxHeartbeats 4000000 in
theorem newTyper_nil (w : World) : Calls Tryz.prog 20 #[.slice none 0 0] w fun e w' => ∃ p m f, e = .returned (.pointer (some ⟨p, 0, none⟩)) ∧ w.heap.size ≤ p ∧ Bx2 w' p (.map m) (.map f) ∧ Below w.heap.size w w' := by
  have hmm : ∀ (t : TypeId) (w : World), t = 72 → (Instr.makeMap t (some (.int .i64 0))).run Tryz.prog w = .ok (.map (some w.heap.size)) (w.alloc (.map #[] 0)) := by
    intro t w ht
    subst ht
    simp [Instr.makeMap, run_underlying Tryz.underlying72, go_sem]
  have h0 := hmm 72 w rfl
  have B0 := hide ((Below.refl w.heap.size w).alloc (Nat.le_refl _) (.map #[] 0))
  clear hmm
  go_enter Tryz.func20, Tryz.ntmps20
  go_wp2_with fail
  refine wp_loop_rounds 1 ?_
  rw [rounds_succ]
  go_wp2_with fail
  refine (functions_any _).mono ?_
  rintro e w1 ⟨b, rfl, hb⟩
  have B1 := hide (below_via (unhide B0) hb)
  clear hb B0 h0
  go_wp2_with fail
  go_ret
  exact ⟨_, _, _, rfl, (unhide B1).size, Bx2.new _ _ _ _, (unhide B1).alloc (unhide B1).size _⟩

theorem info_sh : (Tryz.prog.info? 49).map (fun i => (i.zero, i.size, i.bytes)) = some (some (.agg #[.int .i64 0, .int .i64 0]), 2, 16) := by kernel_rfl
theorem make0 : ∃ cs, ∀ w, (Instr.makeSlice 79 (.int .i64 0) (.int .i64 0)).run Tryz.prog w = .ok (.slice (some ⟨w.heap.size, 0, none⟩) 0 0) (w.alloc (.cells cs 49)) := by
  obtain ⟨i, hi, hzz⟩ := Option.map_eq_some_iff.1 info_sh
  simp only [Prod.mk.injEq] at hzz
  obtain ⟨hz, hs, hb⟩ := hzz
  exact ⟨_, fun w => run_make (P := Tryz.prog) w 79 49 i _ Tryz.underlying79 hi hz .i64 .i64 0 0 (by omega) (by omega) (by omega) (by omega)⟩

set_option maxRecDepth 100000 in
set_option maxHeartbeats 4000000 in
theorem ofKids_nil (p : Nat) (w : World) : Calls Tryz.prog 35 #[.pointer (some ⟨p, 0, none⟩), .slice none 0 0] w fun e w' => ∃ a c, e = .returned (.tuple #[.slice a 0 c, .int .i64 0]) ∧ Below w.heap.size w w' := by
  obtain ⟨cs, hmk⟩ := make0
  go_enter Tryz.func35, Tryz.ntmps35
  go_wp2_with fail
  refine wp_loop_rounds 1 ?_
  rw [rounds_succ]
  go_wp2
  exact bodyPost_ret (v := .tuple #[.slice (some ⟨w.heap.size, 0, none⟩) 0 0, .int .i64 0]) (by simp [results, Tryz.results35, go_sem]) rfl ⟨_, _, rfl, (Below.refl _ _).alloc (Nat.le_refl _) _⟩

set_option maxHeartbeats 4000000 in
theorem joined_nil (a : Option Addr) (c : Nat) (w : World) : Calls Tryz.prog 61 #[.slice a 0 c] w fun e w' => e = .returned (shn 0 1) ∧ Below w.heap.size w w' := by
  go_enter Tryz.func61, Tryz.ntmps61
  go_wp2_with fail
  refine (plain_any _ _).mono ?_
  rintro e w1 ⟨rfl, hb⟩
  have X0 := ((Bx2.new w 49 (.int .i64 0) (.int .i64 0)).keep hb (by simp)).keep ((Below.refl _ _).alloc (Nat.le_refl _) (.cells #[.int .i64 0, .int .i64 1] 49)) (Nat.lt_of_lt_of_le (by simp) hb.size)
  have B1 := hide ((below_via ((Below.refl _ _).alloc (Nat.le_refl _) _) hb).alloc (below_via ((Below.refl _ _).alloc (Nat.le_refl _) _) hb).size (.cells #[.int .i64 0, .int .i64 1] 49))
  have R := X0.put (.int .i64 0) (.int .i64 1)
  have g0 := X0.at0
  have g1 := X0.at1
  have h0 := X0.th0
  have h1 := X0.th1
  have l2 := X0.low
  have r0 := hide R.at0
  have r1 := hide R.at1
  clear X0 R hb
  go_wp2_with fail
  refine wp_loop_rounds 1 ?_
  rw [rounds_succ]
  go_wp2
  refine bodyPost_ret (v := shn 0 1) ?_ rfl ⟨rfl, ?_⟩
  · simp [results, Tryz.results61, go_sem, unhide r0, unhide r1]
  · exact ((unhide B1).setCell (by simp) _).setCell (by simp) _

set_option maxHeartbeats 4000000 in
theorem listed_nil (w : World) : Calls Tryz.prog 56 #[shn 0 1] w fun e w' => e = .returned (shn 1 1) ∧ Below w.heap.size w w' := by
  go_enter Tryz.func56, Tryz.ntmps56
  go_wp2
  refine bodyPost_ret (v := shn 1 1) (by simp [results, Tryz.results56, go_sem]) rfl ⟨rfl, ?_⟩
  exact ((Below.refl _ _).alloc (Nat.le_refl _) _).alloc (by simp) _

set_option maxHeartbeats 4000000 in
theorem orWrong_yes (w : World) : Calls Tryz.prog 36 #[shn 1 1, .bool true] w fun e w' => e = .returned (.tuple #[shn 1 1, .int .i64 0]) ∧ Below w.heap.size w w' := by
  go_enter Tryz.func36, Tryz.ntmps36
  go_wp2
  refine bodyPost_ret (v := .tuple #[shn 1 1, .int .i64 0]) (by simp [results, Tryz.results36, go_sem]) rfl ⟨rfl, ?_⟩
  exact ((Below.refl _ _).alloc (Nat.le_refl _) _).alloc (by simp) _

set_option maxHeartbeats 4000000 in
theorem ofNode_xl (a : Option Addr) (c : Nat) (w : World) : Calls Tryz.prog 37 #[.int .i64 19, .slice a 0 c] w fun e w' => e = .returned (.tuple #[shn 1 1, .bool true]) ∧ Below w.heap.size w w' := by
  go_enter Tryz.func37, Tryz.ntmps37
  go_wp2_with fail
  refine (joined_nil _ _ _).mono ?_
  rintro e w1 ⟨rfl, hb⟩
  have X0 := hide ((Bx2.new w 49 (.int .i64 0) (.int .i64 0)).keep hb (by simp))
  have B1 := hide (below_via ((Below.refl _ _).alloc (Nat.le_refl _) _) hb)
  clear hb
  go_wp2_with fail
  refine (listed_nil _).mono ?_
  rintro e w2 ⟨rfl, hb⟩
  have X := (unhide X0).keep hb (unhide X0).low
  have B2 := hide (below_via (unhide B1) hb)
  have R := X.put (.int .i64 1) (.int .i64 1)
  have g0 := X.at0
  have g1 := X.at1
  have h0 := X.th0
  have h1 := X.th1
  have l2 := X.low
  have r0 := hide R.at0
  have r1 := hide R.at1
  clear X R hb X0 B1
  go_wp2
  refine bodyPost_ret (v := .tuple #[shn 1 1, .bool true]) ?_ rfl ⟨rfl, ?_⟩
  · simp [results, Tryz.results37, go_sem, unhide r0, unhide r1]
  · exact ((unhide B2).setCell (by simp) _).setCell (by simp) _
end Go.Proofs.YtjgonkcfnfgakaaGreatDoor
