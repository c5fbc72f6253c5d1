/- Walks: the table of functions is made. -/
import Derived.Test.YtdgojpjmhalilaaGreatDoorG06
import Derived.Laws.MakeOwn
namespace Go.Proofs.YtdgojpjmhalilaaGreatDoor
open Go.RowKit Go.MapKept

set_option maxRecDepth 100000 in
set_option maxHeartbeats 8000000 in
theorem functions_any (w : World) :
    Calls Tryz.prog 18 #[] w fun e w' => ∃ b, e = .returned (.map (some b)) ∧ Below w.heap.size w w' := by
  have hmm := @run_makeMap Tryz.prog
  have M0 := hide (MapIn.new w)
  go_enter Tryz.func18, Tryz.ntmps18
  go_wp2_with fail
  refine (always_any _ _).mono ?_
  rintro e w0a ⟨f0, x0, y0, rfl, hb⟩
  have N0 := hide ((unhide M0).keep (below_via ((Below.refl _ _).alloc (Nat.le_refl _) _) hb))
  clear hb M0
  go_wp2_with fail
  refine upon_ins Tryz.underlying58 Tryz.underlying9 (unhide N0) ?_
  intro w0b M1
  replace M1 := hide M1
  clear N0
  go_wp2_with fail
  refine (always_any _ _).mono ?_
  rintro e w1a ⟨f1, x1, y1, rfl, hb⟩
  have N1 := hide ((unhide M1).keep (below_via ((Below.refl _ _).alloc (Nat.le_refl _) _) hb))
  clear hb M1
  go_wp2_with fail
  refine upon_ins Tryz.underlying58 Tryz.underlying9 (unhide N1) ?_
  intro w1b M2
  replace M2 := hide M2
  clear N1
  go_wp2_with fail
  refine (always_any _ _).mono ?_
  rintro e w2a ⟨f2, x2, y2, rfl, hb⟩
  have N2 := hide ((unhide M2).keep (below_via ((Below.refl _ _).alloc (Nat.le_refl _) _) hb))
  clear hb M2
  go_wp2_with fail
  refine upon_ins Tryz.underlying58 Tryz.underlying9 (unhide N2) ?_
  intro w2b M3
  replace M3 := hide M3
  clear N2
  go_wp2_with fail
  refine (always_any _ _).mono ?_
  rintro e w3a ⟨f3, x3, y3, rfl, hb⟩
  have N3 := hide ((unhide M3).keep (below_via ((Below.refl _ _).alloc (Nat.le_refl _) _) hb))
  clear hb M3
  go_wp2_with fail
  refine upon_ins Tryz.underlying58 Tryz.underlying9 (unhide N3) ?_
  intro w3b M4
  replace M4 := hide M4
  clear N3
  go_wp2_with fail
  refine (always_any _ _).mono ?_
  rintro e w4a ⟨f4, x4, y4, rfl, hb⟩
  have N4 := hide ((unhide M4).keep (below_via ((Below.refl _ _).alloc (Nat.le_refl _) _) hb))
  clear hb M4
  go_wp2_with fail
  refine upon_ins Tryz.underlying58 Tryz.underlying9 (unhide N4) ?_
  intro w4b M5
  replace M5 := hide M5
  clear N4
  go_wp2_with fail
  refine upon_ins Tryz.underlying58 Tryz.underlying9 ((unhide M5).keep ((Below.refl _ _).alloc (Nat.le_refl _) _)) ?_
  intro w5b M6
  replace M6 := hide M6
  clear M5
  go_wp2_with fail
  refine upon_ins Tryz.underlying58 Tryz.underlying9 ((unhide M6).keep ((Below.refl _ _).alloc (Nat.le_refl _) _)) ?_
  intro w6b M7
  replace M7 := hide M7
  clear M6
  go_wp2_with fail
  refine upon_ins Tryz.underlying58 Tryz.underlying9 ((unhide M7).keep ((Below.refl _ _).alloc (Nat.le_refl _) _)) ?_
  intro w7b M8
  replace M8 := hide M8
  clear M7
  go_wp2_with fail
  refine upon_ins Tryz.underlying58 Tryz.underlying9 ((unhide M8).keep ((Below.refl _ _).alloc (Nat.le_refl _) _)) ?_
  intro w8b M9
  replace M9 := hide M9
  clear M8
  go_wp2_with fail
  refine (always_any _ _).mono ?_
  rintro e w9a ⟨f9, x9, y9, rfl, hb⟩
  have N9 := hide ((unhide M9).keep (below_via ((Below.refl _ _).alloc (Nat.le_refl _) _) hb))
  clear hb M9
  go_wp2_with fail
  refine upon_ins Tryz.underlying58 Tryz.underlying9 (unhide N9) ?_
  intro w9b M10
  replace M10 := hide M10
  clear N9
  go_wp2_with fail
  refine upon_ins Tryz.underlying58 Tryz.underlying9 ((unhide M10).keep ((Below.refl _ _).alloc (Nat.le_refl _) _)) ?_
  intro w10b M11
  replace M11 := hide M11
  clear M10
  go_wp2_with fail
  refine upon_ins Tryz.underlying58 Tryz.underlying9 ((unhide M11).keep ((Below.refl _ _).alloc (Nat.le_refl _) _)) ?_
  intro w11b M12
  replace M12 := hide M12
  clear M11
  go_wp2_with fail
  refine upon_ins Tryz.underlying58 Tryz.underlying9 ((unhide M12).keep ((Below.refl _ _).alloc (Nat.le_refl _) _)) ?_
  intro w12b M13
  replace M13 := hide M13
  clear M12
  go_wp2_with fail
  refine upon_ins Tryz.underlying58 Tryz.underlying9 ((unhide M13).keep ((Below.refl _ _).alloc (Nat.le_refl _) _)) ?_
  intro w13b M14
  replace M14 := hide M14
  clear M13
  go_wp2_with fail
  refine (always_any _ _).mono ?_
  rintro e w14a ⟨f14, x14, y14, rfl, hb⟩
  have N14 := hide ((unhide M14).keep (below_via ((Below.refl _ _).alloc (Nat.le_refl _) _) hb))
  clear hb M14
  go_wp2_with fail
  refine upon_ins Tryz.underlying58 Tryz.underlying9 (unhide N14) ?_
  intro w14b M15
  replace M15 := hide M15
  clear N14
  go_wp2_with fail
  refine (always_any _ _).mono ?_
  rintro e w15a ⟨f15, x15, y15, rfl, hb⟩
  have N15 := hide ((unhide M15).keep (below_via ((Below.refl _ _).alloc (Nat.le_refl _) _) hb))
  clear hb M15
  go_wp2_with fail
  refine upon_ins Tryz.underlying58 Tryz.underlying9 (unhide N15) ?_
  intro w15b M16
  replace M16 := hide M16
  clear N15
  go_wp2_with fail
  refine (always_any _ _).mono ?_
  rintro e w16a ⟨f16, x16, y16, rfl, hb⟩
  have N16 := hide ((unhide M16).keep (below_via ((Below.refl _ _).alloc (Nat.le_refl _) _) hb))
  clear hb M16
  go_wp2_with fail
  refine upon_ins Tryz.underlying58 Tryz.underlying9 (unhide N16) ?_
  intro w16b M17
  replace M17 := hide M17
  clear N16
  go_wp2_with fail
  refine (always_any _ _).mono ?_
  rintro e w17a ⟨f17, x17, y17, rfl, hb⟩
  have N17 := hide ((unhide M17).keep (below_via ((Below.refl _ _).alloc (Nat.le_refl _) _) hb))
  clear hb M17
  go_wp2_with fail
  refine upon_ins Tryz.underlying58 Tryz.underlying9 (unhide N17) ?_
  intro w17b M18
  replace M18 := hide M18
  clear N17
  go_wp2_with fail
  refine (always_any _ _).mono ?_
  rintro e w18a ⟨f18, x18, y18, rfl, hb⟩
  have N18 := hide ((unhide M18).keep (below_via ((Below.refl _ _).alloc (Nat.le_refl _) _) hb))
  clear hb M18
  go_wp2_with fail
  refine upon_ins Tryz.underlying58 Tryz.underlying9 (unhide N18) ?_
  intro w18b M19
  replace M19 := hide M19
  clear N18
  go_wp2_with fail
  refine (always_any _ _).mono ?_
  rintro e w19a ⟨f19, x19, y19, rfl, hb⟩
  have N19 := hide ((unhide M19).keep (below_via ((Below.refl _ _).alloc (Nat.le_refl _) _) hb))
  clear hb M19
  go_wp2_with fail
  refine upon_ins Tryz.underlying58 Tryz.underlying9 (unhide N19) ?_
  intro w19b M20
  replace M20 := hide M20
  clear N19
  go_wp2_with fail
  refine (always_any _ _).mono ?_
  rintro e w20a ⟨f20, x20, y20, rfl, hb⟩
  have N20 := hide ((unhide M20).keep (below_via ((Below.refl _ _).alloc (Nat.le_refl _) _) hb))
  clear hb M20
  go_wp2_with fail
  refine upon_ins Tryz.underlying58 Tryz.underlying9 (unhide N20) ?_
  intro w20b M21
  replace M21 := hide M21
  clear N20
  go_wp2_with fail
  refine upon_ins Tryz.underlying58 Tryz.underlying9 ((unhide M21).keep ((Below.refl _ _).alloc (Nat.le_refl _) _)) ?_
  intro w21b M22
  replace M22 := hide M22
  clear M21
  go_wp2_with fail
  go_ret
  exact ⟨_, rfl, (unhide M22).old⟩
end Go.Proofs.YtdgojpjmhalilaaGreatDoor

/- Walks: the type of an empty list. -/
namespace Go.Proofs.YtdgojpjmhalilaaGreatDoor
open Go.RowKit

set_option maxHeartbeats 4000000 in
theorem wrongAsked_xl (w : World) : Calls Tryz.prog 8 #[xl, .slice none 0 0] w fun e w' => e = .returned (.int .i64 0) ∧ Below w.heap.size w w' := by
  go_enter Tryz.func8, Tryz.ntmps8
  go_wp2_with fail
  refine (synWrong_xl _).mono ?_
  rintro e w1 ⟨rfl, hb⟩
  have B1 := hide (below_via ((Below.refl _ _).alloc (Nat.le_refl _) _) hb)
  clear hb
  go_wp2_with fail
  refine wp_loop_rounds 1 ?_
  rw [rounds_succ]
  go_wp2
  go_ret
  exact ⟨rfl, unhide B1⟩

set_option maxHeartbeats 4000000 in
theorem newTyper_nil (w : World) : Calls Tryz.prog 9 #[.slice none 0 0] w fun e w' => ∃ p m f, e = .returned (.pointer (some ⟨p, 0, none⟩)) ∧ w.heap.size ≤ p ∧ Bx2 w' p (.map m) (.map f) ∧ Below w.heap.size w w' := by
  have hmm : ∀ (t : TypeId) (w : World), t = 57 → (Instr.makeMap t (some (.int .i64 0))).run Tryz.prog w = .ok (.map (some w.heap.size)) (w.alloc (.map #[] 0)) := by
    intro t w ht
    subst ht
    simp [Instr.makeMap, run_underlying Tryz.underlying57, go_sem]
  have h0 := hmm 57 w rfl
  have B0 := hide ((Below.refl w.heap.size w).alloc (Nat.le_refl _) (.map #[] 0))
  clear hmm
  go_enter Tryz.func9, Tryz.ntmps9
  go_wp2_with fail
  refine wp_loop_rounds 1 ?_
  rw [rounds_succ]
  go_wp2_with fail
  refine (functions_any _).mono ?_
  rintro e w1 ⟨b, rfl, hb⟩
  have B1 := hide (below_via (unhide B0) hb)
  clear hb B0 h0
  go_wp2_with fail
  go_ret
  exact ⟨_, _, _, rfl, (unhide B1).size, Bx2.new _ _ _ _, (unhide B1).alloc (unhide B1).size _⟩

theorem info_sh : (Tryz.prog.info? 47).map (fun i => (i.zero, i.size, i.bytes)) = some (some (.agg #[.int .i64 0, .int .i64 0]), 2, 16) := by kernel_rfl
theorem make0 : ∃ cs, ∀ w, (Instr.makeSlice 64 (.int .i64 0) (.int .i64 0)).run Tryz.prog w = .ok (.slice (some ⟨w.heap.size, 0, none⟩) 0 0) (w.alloc (.cells cs 47)) := by
  obtain ⟨i, hi, hzz⟩ := Option.map_eq_some_iff.1 info_sh
  simp only [Prod.mk.injEq] at hzz
  obtain ⟨hz, hs, hb⟩ := hzz
  exact ⟨_, fun w => run_make (P := Tryz.prog) w 64 47 i _ Tryz.underlying64 hi hz .i64 .i64 0 0 (by omega) (by omega) (by omega) (by omega)⟩

set_option maxRecDepth 100000 in
set_option maxHeartbeats 4000000 in
theorem ofKids_nil (p : Nat) (w : World) : Calls Tryz.prog 23 #[.pointer (some ⟨p, 0, none⟩), .slice none 0 0] w fun e w' => ∃ a c, e = .returned (.tuple #[.slice a 0 c, .int .i64 0]) ∧ Below w.heap.size w w' := by
  obtain ⟨cs, hmk⟩ := make0
  go_enter Tryz.func23, Tryz.ntmps23
  go_wp2_with fail
  refine wp_loop_rounds 1 ?_
  rw [rounds_succ]
  go_wp2
  exact bodyPost_ret (v := .tuple #[.slice (some ⟨w.heap.size, 0, none⟩) 0 0, .int .i64 0]) (by simp [results, Tryz.results23, go_sem]) rfl ⟨_, _, rfl, (Below.refl _ _).alloc (Nat.le_refl _) _⟩

set_option maxHeartbeats 4000000 in
theorem joined_nil (a : Option Addr) (c : Nat) (w : World) : Calls Tryz.prog 51 #[.slice a 0 c] w fun e w' => e = .returned (shn 0 1) ∧ Below w.heap.size w w' := by
  go_enter Tryz.func51, Tryz.ntmps51
  go_wp2_with fail
  refine (plain_any _ _).mono ?_
  rintro e w1 ⟨rfl, hb⟩
  have X0 := ((Bx2.new w 47 (.int .i64 0) (.int .i64 0)).keep hb (by simp)).keep ((Below.refl _ _).alloc (Nat.le_refl _) (.cells #[.int .i64 0, .int .i64 1] 47)) (Nat.lt_of_lt_of_le (by simp) hb.size)
  have B1 := hide ((below_via ((Below.refl _ _).alloc (Nat.le_refl _) _) hb).alloc (below_via ((Below.refl _ _).alloc (Nat.le_refl _) _) hb).size (.cells #[.int .i64 0, .int .i64 1] 47))
  have R := X0.put (.int .i64 0) (.int .i64 1)
  have g0 := X0.at0
  have g1 := X0.at1
  have h0 := X0.th0
  have h1 := X0.th1
  have l2 := X0.low
  have r0 := hide R.at0
  have r1 := hide R.at1
  clear X0 R hb
  go_wp2_with fail
  refine wp_loop_rounds 1 ?_
  rw [rounds_succ]
  go_wp2
  refine bodyPost_ret (v := shn 0 1) ?_ rfl ⟨rfl, ?_⟩
  · simp [results, Tryz.results51, go_sem, unhide r0, unhide r1]
  · exact ((unhide B1).setCell (by simp) _).setCell (by simp) _

set_option maxHeartbeats 4000000 in
theorem listed_nil (w : World) : Calls Tryz.prog 45 #[shn 0 1] w fun e w' => e = .returned (shn 1 1) ∧ Below w.heap.size w w' := by
  go_enter Tryz.func45, Tryz.ntmps45
  go_wp2
  refine bodyPost_ret (v := shn 1 1) (by simp [results, Tryz.results45, go_sem]) rfl ⟨rfl, ?_⟩
  exact ((Below.refl _ _).alloc (Nat.le_refl _) _).alloc (by simp) _

set_option maxHeartbeats 4000000 in
theorem orWrong_yes (w : World) : Calls Tryz.prog 24 #[shn 1 1, .bool true] w fun e w' => e = .returned (.tuple #[shn 1 1, .int .i64 0]) ∧ Below w.heap.size w w' := by
  go_enter Tryz.func24, Tryz.ntmps24
  go_wp2
  refine bodyPost_ret (v := .tuple #[shn 1 1, .int .i64 0]) (by simp [results, Tryz.results24, go_sem]) rfl ⟨rfl, ?_⟩
  exact ((Below.refl _ _).alloc (Nat.le_refl _) _).alloc (by simp) _

set_option maxHeartbeats 4000000 in
theorem ofNode_xl (a : Option Addr) (c : Nat) (w : World) : Calls Tryz.prog 25 #[.int .i64 19, .slice a 0 c] w fun e w' => e = .returned (.tuple #[shn 1 1, .bool true]) ∧ Below w.heap.size w w' := by
  go_enter Tryz.func25, Tryz.ntmps25
  go_wp2_with fail
  refine (joined_nil _ _ _).mono ?_
  rintro e w1 ⟨rfl, hb⟩
  have X0 := hide ((Bx2.new w 47 (.int .i64 0) (.int .i64 0)).keep hb (by simp))
  have B1 := hide (below_via ((Below.refl _ _).alloc (Nat.le_refl _) _) hb)
  clear hb
  go_wp2_with fail
  refine (listed_nil _).mono ?_
  rintro e w2 ⟨rfl, hb⟩
  have X := (unhide X0).keep hb (unhide X0).low
  have B2 := hide (below_via (unhide B1) hb)
  have R := X.put (.int .i64 1) (.int .i64 1)
  have g0 := X.at0
  have g1 := X.at1
  have h0 := X.th0
  have h1 := X.th1
  have l2 := X.low
  have r0 := hide R.at0
  have r1 := hide R.at1
  clear X R hb X0 B1
  go_wp2
  refine bodyPost_ret (v := .tuple #[shn 1 1, .bool true]) ?_ rfl ⟨rfl, ?_⟩
  · simp [results, Tryz.results25, go_sem, unhide r0, unhide r1]
  · exact ((unhide B2).setCell (by simp) _).setCell (by simp) _
end Go.Proofs.YtdgojpjmhalilaaGreatDoor
