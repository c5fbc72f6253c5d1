/- Walks: the table of functions is made. -/
import Derived.Test.YtjgonkcfnfgakaaGreatDoorA1
namespace Go.Proofs.YtjgonkcfnfgakaaGreatDoor
open Go.RowKit Go.MapKept

set_option maxRecDepth 100000 in
set_option maxHeartbeats 8000000 in
theorem functions_any (w : World) :
    Calls Tryz.prog 30 #[] w fun e w' => ∃ b, e = .returned (.map (some b)) ∧ Below w.heap.size w w' := by
  have hmm := @run_makeMap Tryz.prog
  have M0 := hide (MapIn.new w)
  go_enter Tryz.func30, Tryz.ntmps30
  go_wp2_with fail
  refine (always_any _ _).mono ?_
  rintro e w0a ⟨f0, x0, y0, rfl, hb⟩
  have N0 := hide ((unhide M0).keep (below_via ((Below.refl _ _).alloc (Nat.le_refl _) _) hb))
  clear hb M0
  go_wp2_with fail
  refine upon_ins Tryz.underlying73 Tryz.underlying9 (unhide N0) ?_
  intro w0b M1
  replace M1 := hide M1
  clear N0
  go_wp2_with fail
  refine (always_any _ _).mono ?_
  rintro e w1a ⟨f1, x1, y1, rfl, hb⟩
  have N1 := hide ((unhide M1).keep (below_via ((Below.refl _ _).alloc (Nat.le_refl _) _) hb))
  clear hb M1
  go_wp2_with fail
  refine upon_ins Tryz.underlying73 Tryz.underlying9 (unhide N1) ?_
  intro w1b M2
  replace M2 := hide M2
  clear N1
  go_wp2_with fail
  refine (always_any _ _).mono ?_
  rintro e w2a ⟨f2, x2, y2, rfl, hb⟩
  have N2 := hide ((unhide M2).keep (below_via ((Below.refl _ _).alloc (Nat.le_refl _) _) hb))
  clear hb M2
  go_wp2_with fail
  refine upon_ins Tryz.underlying73 Tryz.underlying9 (unhide N2) ?_
  intro w2b M3
  replace M3 := hide M3
  clear N2
  go_wp2_with fail
  refine (always_any _ _).mono ?_
  rintro e w3a ⟨f3, x3, y3, rfl, hb⟩
  have N3 := hide ((unhide M3).keep (below_via ((Below.refl _ _).alloc (Nat.le_refl _) _) hb))
  clear hb M3
  go_wp2_with fail
  refine upon_ins Tryz.underlying73 Tryz.underlying9 (unhide N3) ?_
  intro w3b M4
  replace M4 := hide M4
  clear N3
  go_wp2_with fail
  refine (always_any _ _).mono ?_
  rintro e w4a ⟨f4, x4, y4, rfl, hb⟩
  have N4 := hide ((unhide M4).keep (below_via ((Below.refl _ _).alloc (Nat.le_refl _) _) hb))
  clear hb M4
  go_wp2_with fail
  refine upon_ins Tryz.underlying73 Tryz.underlying9 (unhide N4) ?_
  intro w4b M5
  replace M5 := hide M5
  clear N4
  go_wp2_with fail
  refine upon_ins Tryz.underlying73 Tryz.underlying9 ((unhide M5).keep ((Below.refl _ _).alloc (Nat.le_refl _) _)) ?_
  intro w5b M6
  replace M6 := hide M6
  clear M5
  go_wp2_with fail
  refine upon_ins Tryz.underlying73 Tryz.underlying9 ((unhide M6).keep ((Below.refl _ _).alloc (Nat.le_refl _) _)) ?_
  intro w6b M7
  replace M7 := hide M7
  clear M6
  go_wp2_with fail
  refine upon_ins Tryz.underlying73 Tryz.underlying9 ((unhide M7).keep ((Below.refl _ _).alloc (Nat.le_refl _) _)) ?_
  intro w7b M8
  replace M8 := hide M8
  clear M7
  go_wp2_with fail
  refine upon_ins Tryz.underlying73 Tryz.underlying9 ((unhide M8).keep ((Below.refl _ _).alloc (Nat.le_refl _) _)) ?_
  intro w8b M9
  replace M9 := hide M9
  clear M8
  go_wp2_with fail
  refine (always_any _ _).mono ?_
  rintro e w9a ⟨f9, x9, y9, rfl, hb⟩
  have N9 := hide ((unhide M9).keep (below_via ((Below.refl _ _).alloc (Nat.le_refl _) _) hb))
  clear hb M9
  go_wp2_with fail
  refine upon_ins Tryz.underlying73 Tryz.underlying9 (unhide N9) ?_
  intro w9b M10
  replace M10 := hide M10
  clear N9
  go_wp2_with fail
  refine upon_ins Tryz.underlying73 Tryz.underlying9 ((unhide M10).keep ((Below.refl _ _).alloc (Nat.le_refl _) _)) ?_
  intro w10b M11
  replace M11 := hide M11
  clear M10
  go_wp2_with fail
  refine upon_ins Tryz.underlying73 Tryz.underlying9 ((unhide M11).keep ((Below.refl _ _).alloc (Nat.le_refl _) _)) ?_
  intro w11b M12
  replace M12 := hide M12
  clear M11
  go_wp2_with fail
  refine upon_ins Tryz.underlying73 Tryz.underlying9 ((unhide M12).keep ((Below.refl _ _).alloc (Nat.le_refl _) _)) ?_
  intro w12b M13
  replace M13 := hide M13
  clear M12
  go_wp2_with fail
  refine upon_ins Tryz.underlying73 Tryz.underlying9 ((unhide M13).keep ((Below.refl _ _).alloc (Nat.le_refl _) _)) ?_
  intro w13b M14
  replace M14 := hide M14
  clear M13
  go_wp2_with fail
  refine (always_any _ _).mono ?_
  rintro e w14a ⟨f14, x14, y14, rfl, hb⟩
  have N14 := hide ((unhide M14).keep (below_via ((Below.refl _ _).alloc (Nat.le_refl _) _) hb))
  clear hb M14
  go_wp2_with fail
  refine upon_ins Tryz.underlying73 Tryz.underlying9 (unhide N14) ?_
  intro w14b M15
  replace M15 := hide M15
  clear N14
  go_wp2_with fail
  refine (always_any _ _).mono ?_
  rintro e w15a ⟨f15, x15, y15, rfl, hb⟩
  have N15 := hide ((unhide M15).keep (below_via ((Below.refl _ _).alloc (Nat.le_refl _) _) hb))
  clear hb M15
  go_wp2_with fail
  refine upon_ins Tryz.underlying73 Tryz.underlying9 (unhide N15) ?_
  intro w15b M16
  replace M16 := hide M16
  clear N15
  go_wp2_with fail
  refine (always_any _ _).mono ?_
  rintro e w16a ⟨f16, x16, y16, rfl, hb⟩
  have N16 := hide ((unhide M16).keep (below_via ((Below.refl _ _).alloc (Nat.le_refl _) _) hb))
  clear hb M16
  go_wp2_with fail
  refine upon_ins Tryz.underlying73 Tryz.underlying9 (unhide N16) ?_
  intro w16b M17
  replace M17 := hide M17
  clear N16
  go_wp2_with fail
  refine (always_any _ _).mono ?_
  rintro e w17a ⟨f17, x17, y17, rfl, hb⟩
  have N17 := hide ((unhide M17).keep (below_via ((Below.refl _ _).alloc (Nat.le_refl _) _) hb))
  clear hb M17
  go_wp2_with fail
  refine upon_ins Tryz.underlying73 Tryz.underlying9 (unhide N17) ?_
  intro w17b M18
  replace M18 := hide M18
  clear N17
  go_wp2_with fail
  refine (always_any _ _).mono ?_
  rintro e w18a ⟨f18, x18, y18, rfl, hb⟩
  have N18 := hide ((unhide M18).keep (below_via ((Below.refl _ _).alloc (Nat.le_refl _) _) hb))
  clear hb M18
  go_wp2_with fail
  refine upon_ins Tryz.underlying73 Tryz.underlying9 (unhide N18) ?_
  intro w18b M19
  replace M19 := hide M19
  clear N18
  go_wp2_with fail
  refine (always_any _ _).mono ?_
  rintro e w19a ⟨f19, x19, y19, rfl, hb⟩
  have N19 := hide ((unhide M19).keep (below_via ((Below.refl _ _).alloc (Nat.le_refl _) _) hb))
  clear hb M19
  go_wp2_with fail
  refine upon_ins Tryz.underlying73 Tryz.underlying9 (unhide N19) ?_
  intro w19b M20
  replace M20 := hide M20
  clear N19
  go_wp2_with fail
  refine (always_any _ _).mono ?_
  rintro e w20a ⟨f20, x20, y20, rfl, hb⟩
  have N20 := hide ((unhide M20).keep (below_via ((Below.refl _ _).alloc (Nat.le_refl _) _) hb))
  clear hb M20
  go_wp2_with fail
  refine upon_ins Tryz.underlying73 Tryz.underlying9 (unhide N20) ?_
  intro w20b M21
  replace M21 := hide M21
  clear N20
  go_wp2_with fail
  refine upon_ins Tryz.underlying73 Tryz.underlying9 ((unhide M21).keep ((Below.refl _ _).alloc (Nat.le_refl _) _)) ?_
  intro w21b M22
  replace M22 := hide M22
  clear M21
  go_wp2_with fail
  go_ret
  exact ⟨_, rfl, (unhide M22).old⟩
end Go.Proofs.YtjgonkcfnfgakaaGreatDoor
