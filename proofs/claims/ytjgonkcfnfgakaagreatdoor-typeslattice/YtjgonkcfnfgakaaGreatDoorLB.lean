/- The walk over TypesLattice where nothing is wrong with the three types. -/
import Derived.Test.YtjgonkcfnfgakaaGreatDoorLA
namespace Go.Proofs.YtjgonkcfnfgakaaGreatDoor
open Go.RowKit

set_option maxRecDepth 100000 in
theorem frame_ex {a : Act} (hs : a.tmps.size = 114) (hd : a.defers = []) :
    ∃ u0 u1 u2 u3 u4 u5 u6 u7 u8 u9 u10 u11 u12 u13 u14 u15 u16 u17 u18 u19 u20 u21 u22 u23 u24 u25 u26 u27 u28 u29 u30 u31 u32 u33 u34 u35 u36 u37 u38 u39 u40 u41 u42 u43 u44 u45 u46 u47 u48 u49 u50 u51 u52 u53 u54 u55 u56 u57 u58 u59 u60 u61 u62 u63 u64 u65 u66 u67 u68 u69 u70 u71 u72 u73 u74 u75 u76 u77 u78 u79 u80 u81 u82 u83 u84 u85 u86 u87 u88 u89 u90 u91 u92 u93 u94 u95 u96 u97 u98 u99 u100 u101 u102 u103 u104 u105 u106 u107 u108 u109 u110 u111 u112 u113 : Value, a = { tmps := #[u0, u1, u2, u3, u4, u5, u6, u7, u8, u9, u10, u11, u12, u13, u14, u15, u16, u17, u18, u19, u20, u21, u22, u23, u24, u25, u26, u27, u28, u29, u30, u31, u32, u33, u34, u35, u36, u37, u38, u39, u40, u41, u42, u43, u44, u45, u46, u47, u48, u49, u50, u51, u52, u53, u54, u55, u56, u57, u58, u59, u60, u61, u62, u63, u64, u65, u66, u67, u68, u69, u70, u71, u72, u73, u74, u75, u76, u77, u78, u79, u80, u81, u82, u83, u84, u85, u86, u87, u88, u89, u90, u91, u92, u93, u94, u95, u96, u97, u98, u99, u100, u101, u102, u103, u104, u105, u106, u107, u108, u109, u110, u111, u112, u113], defers := [] } ∧ u3 = G a 3 ∧ u4 = G a 4 ∧ u5 = G a 5 ∧ u7 = G a 7 ∧ u57 = G a 57 := by
  have e : a = { tmps := #[G a 0, G a 1, G a 2, G a 3, G a 4, G a 5, G a 6, G a 7, G a 8, G a 9, G a 10, G a 11, G a 12, G a 13, G a 14, G a 15, G a 16, G a 17, G a 18, G a 19, G a 20, G a 21, G a 22, G a 23, G a 24, G a 25, G a 26, G a 27, G a 28, G a 29, G a 30, G a 31, G a 32, G a 33, G a 34, G a 35, G a 36, G a 37, G a 38, G a 39, G a 40, G a 41, G a 42, G a 43, G a 44, G a 45, G a 46, G a 47, G a 48, G a 49, G a 50, G a 51, G a 52, G a 53, G a 54, G a 55, G a 56, G a 57, G a 58, G a 59, G a 60, G a 61, G a 62, G a 63, G a 64, G a 65, G a 66, G a 67, G a 68, G a 69, G a 70, G a 71, G a 72, G a 73, G a 74, G a 75, G a 76, G a 77, G a 78, G a 79, G a 80, G a 81, G a 82, G a 83, G a 84, G a 85, G a 86, G a 87, G a 88, G a 89, G a 90, G a 91, G a 92, G a 93, G a 94, G a 95, G a 96, G a 97, G a 98, G a 99, G a 100, G a 101, G a 102, G a 103, G a 104, G a 105, G a 106, G a 107, G a 108, G a 109, G a 110, G a 111, G a 112, G a 113], defers := [] } := frame_is hs hd
  exact ⟨_, _, _, _, _, _, _, _, _, _, _, _, _, _, _, _, _, _, _, _, _, _, _, _, _, _, _, _, _, _, _, _, _, _, _, _, _, _, _, _, _, _, _, _, _, _, _, _, _, _, _, _, _, _, _, _, _, _, _, _, _, _, _, _, _, _, _, _, _, _, _, _, _, _, _, _, _, _, _, _, _, _, _, _, _, _, _, _, _, _, _, _, _, _, _, _, _, _, _, _, _, _, _, _, _, _, _, _, _, _, _, _, _, _, e, rfl, rfl, rfl, rfl, rfl⟩

set_option maxRecDepth 100000 in
set_option maxHeartbeats 20000000 in
theorem lattice_right (a b c : Sp) (u v x : Array Value) (w : World) (oa : a.ok) (ob : b.ok) (oc : c.ok) (hu : MemT w.heap.size w (rt a) u) (hv : MemT w.heap.size w (rt b) v) (hx : MemT w.heap.size w (rt c) x) :
    Calls Tryz.prog 3 #[.agg u, .agg v, .agg x] w fun e w' => e = .returned (.bool true) ∧ Below w.heap.size w w' := by
  obtain ⟨k1, a1, n1, c1, rfl⟩ := hu.form
  obtain ⟨k2, a2, n2, c2, rfl⟩ := hv.form
  obtain ⟨k3, a3, n3, c3, rfl⟩ := hx.form
  have oj : (a.join b).ok := Sp.join_ok oa ob
  have g1 : ∀ o, Below w.heap.size w (w.alloc o) := fun o => (Below.refl _ _).alloc (Nat.le_refl _) o
  have T3 := hide (((TB.new hu).keep ((Below.refl _ _).alloc (Nat.le_refl _) (.cells #[.int .i64 k2, .slice a2 n2 c2] 24))).keep ((Below.refl _ _).alloc (Nat.le_refl _) (.cells #[.int .i64 k3, .slice a3 n3 c3] 24)))
  have T4 := hide ((TB.new (hv.grow (g1 (.cells #[.int .i64 k1, .slice a1 n1 c1] 24)))).keep ((Below.refl _ _).alloc (Nat.le_refl _) (.cells #[.int .i64 k3, .slice a3 n3 c3] 24)))
  have T5 := hide (TB.new ((hx.grow (g1 (.cells #[.int .i64 k1, .slice a1 n1 c1] 24))).grow ((Below.refl _ _).alloc (Nat.le_refl _) (.cells #[.int .i64 k2, .slice a2 n2 c2] 24))))
  have B0 := hide ((((Below.refl w.heap.size w).alloc (Nat.le_refl _) (.cells #[.int .i64 k1, .slice a1 n1 c1] 24)).alloc (by simp) (.cells #[.int .i64 k2, .slice a2 n2 c2] 24)).alloc (by simp; omega) (.cells #[.int .i64 k3, .slice a3 n3 c3] 24))
  simp only [World.size_alloc] at T4 T5
  clear hu hv hx g1
  go_enter Tryz.func3, Tryz.ntmps3
  go_wp2_with fail
  refine (alive_any _).mono ?_
  rintro e w0 ⟨rfl, hb⟩
  replace T3 := hide ((unhide T3).keep hb)
  replace T4 := hide ((unhide T4).keep hb)
  replace T5 := hide ((unhide T5).keep hb)
  have B1 := hide (below_via (unhide B0) hb)
  clear hb B0
  have xT30 := (unhide T3).box.at0
  have xT31 := (unhide T3).box.at1
  have xT40 := (unhide T4).box.at0
  have xT41 := (unhide T4).box.at1
  have xT50 := (unhide T5).box.at0
  have xT51 := (unhide T5).box.at1
  go_wp2_with fail
  refine (wrong_ok oa (unhide T3).mem).mono ?_
  rintro e w1 ⟨rfl, hb⟩
  clear xT30 xT31 xT40 xT41 xT50 xT51
  replace T3 := hide ((unhide T3).keep hb)
  replace T4 := hide ((unhide T4).keep hb)
  replace T5 := hide ((unhide T5).keep hb)
  have B2 := hide (below_via (unhide B1) hb)
  clear hb B1
  have xT30 := (unhide T3).box.at0
  have xT31 := (unhide T3).box.at1
  have xT40 := (unhide T4).box.at0
  have xT41 := (unhide T4).box.at1
  have xT50 := (unhide T5).box.at0
  have xT51 := (unhide T5).box.at1
  go_wp2_with fail
  refine (wrong_ok ob (unhide T4).mem).mono ?_
  rintro e w2 ⟨rfl, hb⟩
  clear xT30 xT31 xT40 xT41 xT50 xT51
  replace T3 := hide ((unhide T3).keep hb)
  replace T4 := hide ((unhide T4).keep hb)
  replace T5 := hide ((unhide T5).keep hb)
  have B3 := hide (below_via (unhide B2) hb)
  clear hb B2
  have xT30 := (unhide T3).box.at0
  have xT31 := (unhide T3).box.at1
  have xT40 := (unhide T4).box.at0
  have xT41 := (unhide T4).box.at1
  have xT50 := (unhide T5).box.at0
  have xT51 := (unhide T5).box.at1
  go_wp2_with fail
  refine (wrong_ok oc (unhide T5).mem).mono ?_
  rintro e w3 ⟨rfl, hb⟩
  clear xT30 xT31 xT40 xT41 xT50 xT51
  replace T3 := hide ((unhide T3).keep hb)
  replace T4 := hide ((unhide T4).keep hb)
  replace T5 := hide ((unhide T5).keep hb)
  have B4 := hide (below_via (unhide B3) hb)
  clear hb B3
  have xT30 := (unhide T3).box.at0
  have xT31 := (unhide T3).box.at1
  have xT40 := (unhide T4).box.at0
  have xT41 := (unhide T4).box.at1
  have xT50 := (unhide T5).box.at0
  have xT51 := (unhide T5).box.at1
  go_wp2_with fail
  refine (join_ok oa ob (unhide T3).mem (unhide T4).mem).mono ?_
  rintro e w4 ⟨k4, a4, n4, c4, rfl, hj, hb⟩
  clear xT30 xT31 xT40 xT41 xT50 xT51
  replace T3 := hide ((unhide T3).keep hb)
  replace T4 := hide ((unhide T4).keep hb)
  replace T5 := hide ((unhide T5).keep hb)
  have B5 := hide (below_via (unhide B4) hb)
  clear hb B4
  have T7 := hide (TB.new hj)
  have hb := (Below.refl w4.heap.size w4).alloc (Nat.le_refl _) (.cells #[.int .i64 k4, .slice a4 n4 c4] 24)
  replace T3 := hide ((unhide T3).keep hb)
  replace T4 := hide ((unhide T4).keep hb)
  replace T5 := hide ((unhide T5).keep hb)
  have B6 := hide (below_via (unhide B5) hb)
  clear hb B5
  clear hj
  go_upto_region 6 with fail
  generalize hw5 : w4.alloc (.cells #[.int .i64 k4, .slice a4 n4 c4] 24) = w5 at *
  generalize hp7 : w4.heap.size = p7 at *
  clear hw5 hp7
  refine frame_intro (fun a => G a 3 = .pointer (some ⟨w.heap.size, 0, none⟩) ∧ G a 4 = .pointer (some ⟨w.heap.size + 1, 0, none⟩) ∧ G a 5 = .pointer (some ⟨w.heap.size + 1 + 1, 0, none⟩) ∧ G a 7 = .pointer (some ⟨p7, 0, none⟩) ∧ a.tmps.size = 114 ∧ a.defers = []) ⟨rfl, rfl, rfl, rfl, rfl, rfl⟩ ?_
  rintro f0 ⟨s3, s4, s5, s7, hsz, hdf⟩
  refine region_any (I := RL w5 f0 114 [26, 27, 28, 29, 30, 31, 32, 33, 34, 35, 36, 37, 38, 39, 40, 41, 42, 43, 44, 45, 46, 47, 48, 49, 50, 51, 52, 53, 54, 55, 56, 57] [.lit (.agg #[.int .i64 k1, .slice a1 n1 c1]), .lit (.agg #[.int .i64 k1, .slice a1 n1 c1]), .lit (.bool true), .lit (.bool false), .lit (.bool false), .lit (.agg #[.int .i64 k1, .slice a1 n1 c1]), .lit (.agg #[.int .i64 k4, .slice a4 n4 c4]), .lit (.bool true), .lit (.bool false), .lit (.bool false), .lit (.bool false), .lit (.agg #[.int .i64 k2, .slice a2 n2 c2]), .lit (.agg #[.int .i64 k4, .slice a4 n4 c4]), .lit (.bool true), .lit (.bool false), .lit (.bool false), .lit (.bool false), .lit (.agg #[.int .i64 k4, .slice a4 n4 c4]), .lit (.agg #[.int .i64 k2, .slice a2 n2 c2]), .lit (.agg #[.int .i64 k1, .slice a1 n1 c1]), dmj (b.join a), .lit (.bool true), .lit (.bool false), .lit (.bool false), .lit (.bool false), .lit (.agg #[.int .i64 k1, .slice a1 n1 c1]), .lit (.agg #[.int .i64 k1, .slice a1 n1 c1]), dmj (a.join a), .lit (.agg #[.int .i64 k1, .slice a1 n1 c1]), .lit (.bool true), .lit (.bool false), .lit (.bool false)]) (by kernel_rfl) ?wait ?step ?done ?start
  case wait => exact ⟨by simp, by simp, by simp, by simp, by simp, by simp, by simp, by simp, by simp, by simp, by simp, by simp, by simp, by simp, by simp, by simp, by simp, by simp, by simp, by simp, by simp, by simp, by simp, by simp, by simp, by simp, by simp, by simp, by simp, by simp, by simp, by simp, trivial⟩
  case start => exact RI.start hsz hdf ((Below.refl _ _).drew)
  case step =>
    refine ⟨?_, ?_, ?_, ?_, ?_, ?_, ?_, ?_, ?_, ?_, ?_, ?_, ?_, ?_, ?_, ?_, ?_, ?_, ?_, ?_, ?_, ?_, ?_, ?_, ?_, ?_, ?_, ?_, ?_, ?_, ?_, ?_, trivial⟩
    · rintro L fa wx h hcl hL hw2
      exact rl_val h (by decide) rfl rfl rfl (by decide) rfl (run_ldT ((h.keep (s := 3) (by decide)).trans s3) ((unhide T3).box.keep h.old (unhide T3).box.low)) rfl
    · rintro L fa wx h hcl hL hw2
      exact rl_val h (by decide) rfl rfl rfl (by decide) rfl (run_ldT ((h.keep (s := 3) (by decide)).trans s3) ((unhide T3).box.keep h.old (unhide T3).box.low)) rfl
    · rintro L fa wx h hcl hL hw2
      exact rl_call (R := fun v _ => v = .bool true) h (by decide) rfl rfl rfl (by decide) rfl (run_call2 (eval_G (show G fa 26 = .agg #[.int .i64 k1, .slice a1 n1 c1] from (h.got 0 26 (hw2 ⟨0, .data⟩ (by simp) rfl) rfl))) (eval_G (show G fa 27 = .agg #[.int .i64 k1, .slice a1 n1 c1] from (h.got 1 27 (hw2 ⟨1, .data⟩ (by simp) rfl) rfl))) callFits) (fits_ev oa oa ((unhide T3).keep h.old).mem ((unhide T3).keep h.old).mem true (decide_eq_true (Sp.refl a))) (fun _ _ q => q)
    · rintro L fa wx h hcl hL hw2
      exact rl_val h (by decide) rfl rfl rfl (by decide) rfl (run_not (eval_G (show G fa 28 = .bool true from (h.got 2 28 (hw2 ⟨2, .data⟩ (by simp) rfl) rfl)))) rfl
    · rintro L fa wx h hcl hL hw2
      exact rl_val h (by decide) rfl rfl rfl (by decide) rfl (run_mv (eval_G (show G fa 29 = .bool false from (h.got 3 29 (hw2 ⟨3, .data⟩ (by simp) rfl) rfl)))) rfl
    · rintro L fa wx h hcl hL hw2
      exact rl_val h (by decide) rfl rfl rfl (by decide) ((wanted_is (j := 4) (dj := 30) (b := false) (c := false) rfl rfl (by rw [h.size]; decide) (show G fa 30 = .bool false from (h.got 4 30 (hw2 ⟨4, .guard⟩ (by simp) rfl) rfl))).trans rfl) (run_ldT ((h.keep (s := 3) (by decide)).trans s3) ((unhide T3).box.keep h.old (unhide T3).box.low)) rfl
    · rintro L fa wx h hcl hL hw2
      exact rl_val h (by decide) rfl rfl rfl (by decide) ((wanted_is (j := 4) (dj := 30) (b := false) (c := false) rfl rfl (by rw [h.size]; decide) (show G fa 30 = .bool false from (h.got 4 30 (hw2 ⟨4, .guard⟩ (by simp) rfl) rfl))).trans rfl) (run_ldT ((h.keep (s := 7) (by decide)).trans s7) ((unhide T7).box.keep h.old (unhide T7).box.low)) rfl
    · rintro L fa wx h hcl hL hw2
      exact rl_call (R := fun v _ => v = .bool true) h (by decide) rfl rfl rfl (by decide) ((wanted_is (j := 4) (dj := 30) (b := false) (c := false) rfl rfl (by rw [h.size]; decide) (show G fa 30 = .bool false from (h.got 4 30 (hw2 ⟨4, .guard⟩ (by simp) rfl) rfl))).trans rfl) (run_call2 (eval_G (show G fa 31 = .agg #[.int .i64 k1, .slice a1 n1 c1] from (h.got 5 31 (hw2 ⟨5, .data⟩ (by simp) rfl) rfl))) (eval_G (show G fa 32 = .agg #[.int .i64 k4, .slice a4 n4 c4] from (h.got 6 32 (hw2 ⟨6, .data⟩ (by simp) rfl) rfl))) callFits) (fits_ev oa oj ((unhide T3).keep h.old).mem ((unhide T7).keep h.old).mem true (decide_eq_true (Sp.left a b))) (fun _ _ q => q)
    · rintro L fa wx h hcl hL hw2
      exact rl_val h (by decide) rfl rfl rfl (by decide) ((wanted_is (j := 4) (dj := 30) (b := false) (c := false) rfl rfl (by rw [h.size]; decide) (show G fa 30 = .bool false from (h.got 4 30 (hw2 ⟨4, .guard⟩ (by simp) rfl) rfl))).trans rfl) (run_not (eval_G (show G fa 33 = .bool true from (h.got 7 33 (hw2 ⟨7, .data⟩ (by simp) rfl) rfl)))) rfl
    · rintro L fa wx h hcl hL hw2
      exact rl_val h (by decide) rfl rfl rfl (by decide) rfl (run_pickF (eval_G (show G fa 30 = .bool false from (h.got 4 30 (hw2 ⟨4, .data⟩ (by simp) rfl) rfl))) (eval_G (show G fa 34 = .bool false from (h.got 8 34 (hw2 ⟨8, .data⟩ (by simp) rfl) rfl)))) rfl
    · rintro L fa wx h hcl hL hw2
      exact rl_val h (by decide) rfl rfl rfl (by decide) rfl (run_mv (eval_G (show G fa 35 = .bool false from (h.got 9 35 (hw2 ⟨9, .data⟩ (by simp) rfl) rfl)))) rfl
    · rintro L fa wx h hcl hL hw2
      exact rl_val h (by decide) rfl rfl rfl (by decide) ((wanted_is (j := 10) (dj := 36) (b := false) (c := false) rfl rfl (by rw [h.size]; decide) (show G fa 36 = .bool false from (h.got 10 36 (hw2 ⟨10, .guard⟩ (by simp) rfl) rfl))).trans rfl) (run_ldT ((h.keep (s := 4) (by decide)).trans s4) ((unhide T4).box.keep h.old (unhide T4).box.low)) rfl
    · rintro L fa wx h hcl hL hw2
      exact rl_val h (by decide) rfl rfl rfl (by decide) ((wanted_is (j := 10) (dj := 36) (b := false) (c := false) rfl rfl (by rw [h.size]; decide) (show G fa 36 = .bool false from (h.got 10 36 (hw2 ⟨10, .guard⟩ (by simp) rfl) rfl))).trans rfl) (run_ldT ((h.keep (s := 7) (by decide)).trans s7) ((unhide T7).box.keep h.old (unhide T7).box.low)) rfl
    · rintro L fa wx h hcl hL hw2
      exact rl_call (R := fun v _ => v = .bool true) h (by decide) rfl rfl rfl (by decide) ((wanted_is (j := 10) (dj := 36) (b := false) (c := false) rfl rfl (by rw [h.size]; decide) (show G fa 36 = .bool false from (h.got 10 36 (hw2 ⟨10, .guard⟩ (by simp) rfl) rfl))).trans rfl) (run_call2 (eval_G (show G fa 37 = .agg #[.int .i64 k2, .slice a2 n2 c2] from (h.got 11 37 (hw2 ⟨11, .data⟩ (by simp) rfl) rfl))) (eval_G (show G fa 38 = .agg #[.int .i64 k4, .slice a4 n4 c4] from (h.got 12 38 (hw2 ⟨12, .data⟩ (by simp) rfl) rfl))) callFits) (fits_ev ob oj ((unhide T4).keep h.old).mem ((unhide T7).keep h.old).mem true (decide_eq_true (Sp.right a b))) (fun _ _ q => q)
    · rintro L fa wx h hcl hL hw2
      exact rl_val h (by decide) rfl rfl rfl (by decide) ((wanted_is (j := 10) (dj := 36) (b := false) (c := false) rfl rfl (by rw [h.size]; decide) (show G fa 36 = .bool false from (h.got 10 36 (hw2 ⟨10, .guard⟩ (by simp) rfl) rfl))).trans rfl) (run_not (eval_G (show G fa 39 = .bool true from (h.got 13 39 (hw2 ⟨13, .data⟩ (by simp) rfl) rfl)))) rfl
    · rintro L fa wx h hcl hL hw2
      exact rl_val h (by decide) rfl rfl rfl (by decide) rfl (run_pickF (eval_G (show G fa 36 = .bool false from (h.got 10 36 (hw2 ⟨10, .data⟩ (by simp) rfl) rfl))) (eval_G (show G fa 40 = .bool false from (h.got 14 40 (hw2 ⟨14, .data⟩ (by simp) rfl) rfl)))) rfl
    · rintro L fa wx h hcl hL hw2
      exact rl_val h (by decide) rfl rfl rfl (by decide) rfl (run_mv (eval_G (show G fa 41 = .bool false from (h.got 15 41 (hw2 ⟨15, .data⟩ (by simp) rfl) rfl)))) rfl
    · rintro L fa wx h hcl hL hw2
      exact rl_val h (by decide) rfl rfl rfl (by decide) ((wanted_is (j := 16) (dj := 42) (b := false) (c := false) rfl rfl (by rw [h.size]; decide) (show G fa 42 = .bool false from (h.got 16 42 (hw2 ⟨16, .guard⟩ (by simp) rfl) rfl))).trans rfl) (run_ldT ((h.keep (s := 7) (by decide)).trans s7) ((unhide T7).box.keep h.old (unhide T7).box.low)) rfl
    · rintro L fa wx h hcl hL hw2
      exact rl_val h (by decide) rfl rfl rfl (by decide) ((wanted_is (j := 16) (dj := 42) (b := false) (c := false) rfl rfl (by rw [h.size]; decide) (show G fa 42 = .bool false from (h.got 16 42 (hw2 ⟨16, .guard⟩ (by simp) rfl) rfl))).trans rfl) (run_ldT ((h.keep (s := 4) (by decide)).trans s4) ((unhide T4).box.keep h.old (unhide T4).box.low)) rfl
    · rintro L fa wx h hcl hL hw2
      exact rl_val h (by decide) rfl rfl rfl (by decide) ((wanted_is (j := 16) (dj := 42) (b := false) (c := false) rfl rfl (by rw [h.size]; decide) (show G fa 42 = .bool false from (h.got 16 42 (hw2 ⟨16, .guard⟩ (by simp) rfl) rfl))).trans rfl) (run_ldT ((h.keep (s := 3) (by decide)).trans s3) ((unhide T3).box.keep h.old (unhide T3).box.low)) rfl
    · rintro L fa wx h hcl hL hw2
      exact rl_call (R := MJ (b.join a)) h (by decide) rfl rfl rfl (by decide) ((wanted_is (j := 16) (dj := 42) (b := false) (c := false) rfl rfl (by rw [h.size]; decide) (show G fa 42 = .bool false from (h.got 16 42 (hw2 ⟨16, .guard⟩ (by simp) rfl) rfl))).trans rfl) (run_call2 (eval_G (show G fa 44 = .agg #[.int .i64 k2, .slice a2 n2 c2] from (h.got 18 44 (hw2 ⟨18, .data⟩ (by simp) rfl) rfl))) (eval_G (show G fa 45 = .agg #[.int .i64 k1, .slice a1 n1 c1] from (h.got 19 45 (hw2 ⟨19, .data⟩ (by simp) rfl) rfl))) callJoin) (join_ev ob oa ((unhide T4).keep h.old).mem ((unhide T3).keep h.old).mem) (fun _ _ q => q)
    · rintro L fa wx h hcl hL hw2
      obtain ⟨k21_1, s21_1, n21_1, c21_1, e21_1, m21_1⟩ := (h.got 20 46 (hw2 ⟨20, .data⟩ (by simp) rfl) rfl)
      exact rl_call (R := fun v _ => v = .bool true) h (by decide) rfl rfl rfl (by decide) ((wanted_is (j := 16) (dj := 42) (b := false) (c := false) rfl rfl (by rw [h.size]; decide) (show G fa 42 = .bool false from (h.got 16 42 (hw2 ⟨16, .guard⟩ (by simp) rfl) rfl))).trans rfl) (run_call2 (eval_G (show G fa 43 = .agg #[.int .i64 k4, .slice a4 n4 c4] from (h.got 17 43 (hw2 ⟨17, .data⟩ (by simp) rfl) rfl))) (eval_G e21_1) callSame) (same_ev oj (Sp.join_ok ob oa) ((unhide T7).keep h.old).mem m21_1 true (decide_eq_true (Sp.comm a b))) (fun _ _ q => q)
    · rintro L fa wx h hcl hL hw2
      exact rl_val h (by decide) rfl rfl rfl (by decide) ((wanted_is (j := 16) (dj := 42) (b := false) (c := false) rfl rfl (by rw [h.size]; decide) (show G fa 42 = .bool false from (h.got 16 42 (hw2 ⟨16, .guard⟩ (by simp) rfl) rfl))).trans rfl) (run_not (eval_G (show G fa 47 = .bool true from (h.got 21 47 (hw2 ⟨21, .data⟩ (by simp) rfl) rfl)))) rfl
    · rintro L fa wx h hcl hL hw2
      exact rl_val h (by decide) rfl rfl rfl (by decide) rfl (run_pickF (eval_G (show G fa 42 = .bool false from (h.got 16 42 (hw2 ⟨16, .data⟩ (by simp) rfl) rfl))) (eval_G (show G fa 48 = .bool false from (h.got 22 48 (hw2 ⟨22, .data⟩ (by simp) rfl) rfl)))) rfl
    · rintro L fa wx h hcl hL hw2
      exact rl_val h (by decide) rfl rfl rfl (by decide) rfl (run_mv (eval_G (show G fa 49 = .bool false from (h.got 23 49 (hw2 ⟨23, .data⟩ (by simp) rfl) rfl)))) rfl
    · rintro L fa wx h hcl hL hw2
      exact rl_val h (by decide) rfl rfl rfl (by decide) ((wanted_is (j := 24) (dj := 50) (b := false) (c := false) rfl rfl (by rw [h.size]; decide) (show G fa 50 = .bool false from (h.got 24 50 (hw2 ⟨24, .guard⟩ (by simp) rfl) rfl))).trans rfl) (run_ldT ((h.keep (s := 3) (by decide)).trans s3) ((unhide T3).box.keep h.old (unhide T3).box.low)) rfl
    · rintro L fa wx h hcl hL hw2
      exact rl_val h (by decide) rfl rfl rfl (by decide) ((wanted_is (j := 24) (dj := 50) (b := false) (c := false) rfl rfl (by rw [h.size]; decide) (show G fa 50 = .bool false from (h.got 24 50 (hw2 ⟨24, .guard⟩ (by simp) rfl) rfl))).trans rfl) (run_ldT ((h.keep (s := 3) (by decide)).trans s3) ((unhide T3).box.keep h.old (unhide T3).box.low)) rfl
    · rintro L fa wx h hcl hL hw2
      exact rl_call (R := MJ (a.join a)) h (by decide) rfl rfl rfl (by decide) ((wanted_is (j := 24) (dj := 50) (b := false) (c := false) rfl rfl (by rw [h.size]; decide) (show G fa 50 = .bool false from (h.got 24 50 (hw2 ⟨24, .guard⟩ (by simp) rfl) rfl))).trans rfl) (run_call2 (eval_G (show G fa 51 = .agg #[.int .i64 k1, .slice a1 n1 c1] from (h.got 25 51 (hw2 ⟨25, .data⟩ (by simp) rfl) rfl))) (eval_G (show G fa 52 = .agg #[.int .i64 k1, .slice a1 n1 c1] from (h.got 26 52 (hw2 ⟨26, .data⟩ (by simp) rfl) rfl))) callJoin) (join_ev oa oa ((unhide T3).keep h.old).mem ((unhide T3).keep h.old).mem) (fun _ _ q => q)
    · rintro L fa wx h hcl hL hw2
      exact rl_val h (by decide) rfl rfl rfl (by decide) ((wanted_is (j := 24) (dj := 50) (b := false) (c := false) rfl rfl (by rw [h.size]; decide) (show G fa 50 = .bool false from (h.got 24 50 (hw2 ⟨24, .guard⟩ (by simp) rfl) rfl))).trans rfl) (run_ldT ((h.keep (s := 3) (by decide)).trans s3) ((unhide T3).box.keep h.old (unhide T3).box.low)) rfl
    · rintro L fa wx h hcl hL hw2
      obtain ⟨k29_0, s29_0, n29_0, c29_0, e29_0, m29_0⟩ := (h.got 27 53 (hw2 ⟨27, .data⟩ (by simp) rfl) rfl)
      exact rl_call (R := fun v _ => v = .bool true) h (by decide) rfl rfl rfl (by decide) ((wanted_is (j := 24) (dj := 50) (b := false) (c := false) rfl rfl (by rw [h.size]; decide) (show G fa 50 = .bool false from (h.got 24 50 (hw2 ⟨24, .guard⟩ (by simp) rfl) rfl))).trans rfl) (run_call2 (eval_G e29_0) (eval_G (show G fa 54 = .agg #[.int .i64 k1, .slice a1 n1 c1] from (h.got 28 54 (hw2 ⟨28, .data⟩ (by simp) rfl) rfl))) callSame) (same_ev (Sp.join_ok oa oa) oa m29_0 ((unhide T3).keep h.old).mem true (decide_eq_true (Sp.self a))) (fun _ _ q => q)
    · rintro L fa wx h hcl hL hw2
      exact rl_val h (by decide) rfl rfl rfl (by decide) ((wanted_is (j := 24) (dj := 50) (b := false) (c := false) rfl rfl (by rw [h.size]; decide) (show G fa 50 = .bool false from (h.got 24 50 (hw2 ⟨24, .guard⟩ (by simp) rfl) rfl))).trans rfl) (run_not (eval_G (show G fa 55 = .bool true from (h.got 29 55 (hw2 ⟨29, .data⟩ (by simp) rfl) rfl)))) rfl
    · rintro L fa wx h hcl hL hw2
      exact rl_val h (by decide) rfl rfl rfl (by decide) rfl (run_pickF (eval_G (show G fa 50 = .bool false from (h.got 24 50 (hw2 ⟨24, .data⟩ (by simp) rfl) rfl))) (eval_G (show G fa 56 = .bool false from (h.got 30 56 (hw2 ⟨30, .data⟩ (by simp) rfl) rfl)))) rfl
  case done =>
    rintro L f1 w6 h hall
    have q57 : G f1 57 = .bool false := h.got 31 57 (hall 31 (by simp)) rfl
    replace s3 := (h.keep (s := 3) (by decide)).trans s3
    replace s4 := (h.keep (s := 4) (by decide)).trans s4
    replace s5 := (h.keep (s := 5) (by decide)).trans s5
    replace s7 := (h.keep (s := 7) (by decide)).trans s7
    have hb := h.old
    replace T3 := hide ((unhide T3).keep hb)
    replace T4 := hide ((unhide T4).keep hb)
    replace T5 := hide ((unhide T5).keep hb)
    replace T7 := hide ((unhide T7).keep hb)
    have B7 := hide (below_via (unhide B6) hb)
    replace hsz := h.size
    replace hdf := h.defs
    clear h hall hb B6
    obtain ⟨u0, u1, u2, u3, u4, u5, u6, u7, u8, u9, u10, u11, u12, u13, u14, u15, u16, u17, u18, u19, u20, u21, u22, u23, u24, u25, u26, u27, u28, u29, u30, u31, u32, u33, u34, u35, u36, u37, u38, u39, u40, u41, u42, u43, u44, u45, u46, u47, u48, u49, u50, u51, u52, u53, u54, u55, u56, u57, u58, u59, u60, u61, u62, u63, u64, u65, u66, u67, u68, u69, u70, u71, u72, u73, u74, u75, u76, u77, u78, u79, u80, u81, u82, u83, u84, u85, u86, u87, u88, u89, u90, u91, u92, u93, u94, u95, u96, u97, u98, u99, u100, u101, u102, u103, u104, u105, u106, u107, u108, u109, u110, u111, u112, u113, rfl, q3, q4, q5, q7, q57'⟩ := frame_ex hsz hdf
    rw [s3] at q3
    rw [s4] at q4
    rw [s5] at q5
    rw [s7] at q7
    rw [q57] at q57'
    subst q3 q4 q5 q7 q57'
    clear s3 s4 s5 s7 q57 hsz hdf
    go_upto_region 8 with fail
    go_cut [87] from 58 to 87 (fun s87 wx => s87 = .bool false ∧ Hid (TB wx w.heap.size a k1 a1 n1 c1) ∧ Hid (TB wx (w.heap.size + 1) b k2 a2 n2 c2) ∧ Hid (TB wx (w.heap.size + 1 + 1) c k3 a3 n3 c3) ∧ Hid (TB wx p7 (a.join b) k4 a4 n4 c4) ∧ Hid (Below w.heap.size w wx))
    case first =>
      by_cases hab : a.Fits b
      · by_cases hba : b.Fits a
        · by_cases hbc : b.Fits c
          · skip
            have xT30 := (unhide T3).box.at0
            have xT31 := (unhide T3).box.at1
            have xT40 := (unhide T4).box.at0
            have xT41 := (unhide T4).box.at1
            have xT50 := (unhide T5).box.at0
            have xT51 := (unhide T5).box.at1
            have xT70 := (unhide T7).box.at0
            have xT71 := (unhide T7).box.at1
            go_wp2_with fail
            refine (fits_ok oa ob (unhide T3).mem (unhide T4).mem true (decide_eq_true (hab))).mono ?_
            rintro e v0 ⟨rfl, hb⟩
            clear xT30 xT31 xT40 xT41 xT50 xT51 xT70 xT71
            replace T3 := hide ((unhide T3).keep hb)
            replace T4 := hide ((unhide T4).keep hb)
            replace T5 := hide ((unhide T5).keep hb)
            replace T7 := hide ((unhide T7).keep hb)
            have C0 := hide (below_via (unhide B7) hb)
            clear hb B7
            have xT30 := (unhide T3).box.at0
            have xT31 := (unhide T3).box.at1
            have xT40 := (unhide T4).box.at0
            have xT41 := (unhide T4).box.at1
            have xT50 := (unhide T5).box.at0
            have xT51 := (unhide T5).box.at1
            have xT70 := (unhide T7).box.at0
            have xT71 := (unhide T7).box.at1
            go_wp2_with fail
            refine (fits_ok ob oa (unhide T4).mem (unhide T3).mem true (decide_eq_true (hba))).mono ?_
            rintro e v1 ⟨rfl, hb⟩
            clear xT30 xT31 xT40 xT41 xT50 xT51 xT70 xT71
            replace T3 := hide ((unhide T3).keep hb)
            replace T4 := hide ((unhide T4).keep hb)
            replace T5 := hide ((unhide T5).keep hb)
            replace T7 := hide ((unhide T7).keep hb)
            have C1 := hide (below_via (unhide C0) hb)
            clear hb C0
            have xT30 := (unhide T3).box.at0
            have xT31 := (unhide T3).box.at1
            have xT40 := (unhide T4).box.at0
            have xT41 := (unhide T4).box.at1
            have xT50 := (unhide T5).box.at0
            have xT51 := (unhide T5).box.at1
            have xT70 := (unhide T7).box.at0
            have xT71 := (unhide T7).box.at1
            go_wp2_with fail
            refine (same_ok oa ob (unhide T3).mem (unhide T4).mem true (decide_eq_true (Sp.anti hab hba))).mono ?_
            rintro e v2 ⟨rfl, hb⟩
            clear xT30 xT31 xT40 xT41 xT50 xT51 xT70 xT71
            replace T3 := hide ((unhide T3).keep hb)
            replace T4 := hide ((unhide T4).keep hb)
            replace T5 := hide ((unhide T5).keep hb)
            replace T7 := hide ((unhide T7).keep hb)
            have C2 := hide (below_via (unhide C1) hb)
            clear hb C1
            have xT30 := (unhide T3).box.at0
            have xT31 := (unhide T3).box.at1
            have xT40 := (unhide T4).box.at0
            have xT41 := (unhide T4).box.at1
            have xT50 := (unhide T5).box.at0
            have xT51 := (unhide T5).box.at1
            have xT70 := (unhide T7).box.at0
            have xT71 := (unhide T7).box.at1
            go_wp2_with fail
            refine (fits_ok oa ob (unhide T3).mem (unhide T4).mem true (decide_eq_true (hab))).mono ?_
            rintro e v3 ⟨rfl, hb⟩
            clear xT30 xT31 xT40 xT41 xT50 xT51 xT70 xT71
            replace T3 := hide ((unhide T3).keep hb)
            replace T4 := hide ((unhide T4).keep hb)
            replace T5 := hide ((unhide T5).keep hb)
            replace T7 := hide ((unhide T7).keep hb)
            have C3 := hide (below_via (unhide C2) hb)
            clear hb C2
            have xT30 := (unhide T3).box.at0
            have xT31 := (unhide T3).box.at1
            have xT40 := (unhide T4).box.at0
            have xT41 := (unhide T4).box.at1
            have xT50 := (unhide T5).box.at0
            have xT51 := (unhide T5).box.at1
            have xT70 := (unhide T7).box.at0
            have xT71 := (unhide T7).box.at1
            go_wp2_with fail
            refine (fits_ok ob oc (unhide T4).mem (unhide T5).mem true (decide_eq_true (hbc))).mono ?_
            rintro e v4 ⟨rfl, hb⟩
            clear xT30 xT31 xT40 xT41 xT50 xT51 xT70 xT71
            replace T3 := hide ((unhide T3).keep hb)
            replace T4 := hide ((unhide T4).keep hb)
            replace T5 := hide ((unhide T5).keep hb)
            replace T7 := hide ((unhide T7).keep hb)
            have C4 := hide (below_via (unhide C3) hb)
            clear hb C3
            have xT30 := (unhide T3).box.at0
            have xT31 := (unhide T3).box.at1
            have xT40 := (unhide T4).box.at0
            have xT41 := (unhide T4).box.at1
            have xT50 := (unhide T5).box.at0
            have xT51 := (unhide T5).box.at1
            have xT70 := (unhide T7).box.at0
            have xT71 := (unhide T7).box.at1
            go_wp2_with fail
            refine (fits_ok oa oc (unhide T3).mem (unhide T5).mem true (decide_eq_true (Sp.trans hab hbc))).mono ?_
            rintro e v5 ⟨rfl, hb⟩
            clear xT30 xT31 xT40 xT41 xT50 xT51 xT70 xT71
            replace T3 := hide ((unhide T3).keep hb)
            replace T4 := hide ((unhide T4).keep hb)
            replace T5 := hide ((unhide T5).keep hb)
            replace T7 := hide ((unhide T7).keep hb)
            have C5 := hide (below_via (unhide C4) hb)
            clear hb C4
            go_wp2_with fail
            go_meet
            case rel => exact ⟨rfl, T3, T4, T5, T7, C5⟩
          · skip
            have xT30 := (unhide T3).box.at0
            have xT31 := (unhide T3).box.at1
            have xT40 := (unhide T4).box.at0
            have xT41 := (unhide T4).box.at1
            have xT50 := (unhide T5).box.at0
            have xT51 := (unhide T5).box.at1
            have xT70 := (unhide T7).box.at0
            have xT71 := (unhide T7).box.at1
            go_wp2_with fail
            refine (fits_ok oa ob (unhide T3).mem (unhide T4).mem true (decide_eq_true (hab))).mono ?_
            rintro e v0 ⟨rfl, hb⟩
            clear xT30 xT31 xT40 xT41 xT50 xT51 xT70 xT71
            replace T3 := hide ((unhide T3).keep hb)
            replace T4 := hide ((unhide T4).keep hb)
            replace T5 := hide ((unhide T5).keep hb)
            replace T7 := hide ((unhide T7).keep hb)
            have C0 := hide (below_via (unhide B7) hb)
            clear hb B7
            have xT30 := (unhide T3).box.at0
            have xT31 := (unhide T3).box.at1
            have xT40 := (unhide T4).box.at0
            have xT41 := (unhide T4).box.at1
            have xT50 := (unhide T5).box.at0
            have xT51 := (unhide T5).box.at1
            have xT70 := (unhide T7).box.at0
            have xT71 := (unhide T7).box.at1
            go_wp2_with fail
            refine (fits_ok ob oa (unhide T4).mem (unhide T3).mem true (decide_eq_true (hba))).mono ?_
            rintro e v1 ⟨rfl, hb⟩
            clear xT30 xT31 xT40 xT41 xT50 xT51 xT70 xT71
            replace T3 := hide ((unhide T3).keep hb)
            replace T4 := hide ((unhide T4).keep hb)
            replace T5 := hide ((unhide T5).keep hb)
            replace T7 := hide ((unhide T7).keep hb)
            have C1 := hide (below_via (unhide C0) hb)
            clear hb C0
            have xT30 := (unhide T3).box.at0
            have xT31 := (unhide T3).box.at1
            have xT40 := (unhide T4).box.at0
            have xT41 := (unhide T4).box.at1
            have xT50 := (unhide T5).box.at0
            have xT51 := (unhide T5).box.at1
            have xT70 := (unhide T7).box.at0
            have xT71 := (unhide T7).box.at1
            go_wp2_with fail
            refine (same_ok oa ob (unhide T3).mem (unhide T4).mem true (decide_eq_true (Sp.anti hab hba))).mono ?_
            rintro e v2 ⟨rfl, hb⟩
            clear xT30 xT31 xT40 xT41 xT50 xT51 xT70 xT71
            replace T3 := hide ((unhide T3).keep hb)
            replace T4 := hide ((unhide T4).keep hb)
            replace T5 := hide ((unhide T5).keep hb)
            replace T7 := hide ((unhide T7).keep hb)
            have C2 := hide (below_via (unhide C1) hb)
            clear hb C1
            have xT30 := (unhide T3).box.at0
            have xT31 := (unhide T3).box.at1
            have xT40 := (unhide T4).box.at0
            have xT41 := (unhide T4).box.at1
            have xT50 := (unhide T5).box.at0
            have xT51 := (unhide T5).box.at1
            have xT70 := (unhide T7).box.at0
            have xT71 := (unhide T7).box.at1
            go_wp2_with fail
            refine (fits_ok oa ob (unhide T3).mem (unhide T4).mem true (decide_eq_true (hab))).mono ?_
            rintro e v3 ⟨rfl, hb⟩
            clear xT30 xT31 xT40 xT41 xT50 xT51 xT70 xT71
            replace T3 := hide ((unhide T3).keep hb)
            replace T4 := hide ((unhide T4).keep hb)
            replace T5 := hide ((unhide T5).keep hb)
            replace T7 := hide ((unhide T7).keep hb)
            have C3 := hide (below_via (unhide C2) hb)
            clear hb C2
            have xT30 := (unhide T3).box.at0
            have xT31 := (unhide T3).box.at1
            have xT40 := (unhide T4).box.at0
            have xT41 := (unhide T4).box.at1
            have xT50 := (unhide T5).box.at0
            have xT51 := (unhide T5).box.at1
            have xT70 := (unhide T7).box.at0
            have xT71 := (unhide T7).box.at1
            go_wp2_with fail
            refine (fits_ok ob oc (unhide T4).mem (unhide T5).mem false (decide_eq_false (hbc))).mono ?_
            rintro e v4 ⟨rfl, hb⟩
            clear xT30 xT31 xT40 xT41 xT50 xT51 xT70 xT71
            replace T3 := hide ((unhide T3).keep hb)
            replace T4 := hide ((unhide T4).keep hb)
            replace T5 := hide ((unhide T5).keep hb)
            replace T7 := hide ((unhide T7).keep hb)
            have C4 := hide (below_via (unhide C3) hb)
            clear hb C3
            go_wp2_with fail
            go_meet
            case rel => exact ⟨rfl, T3, T4, T5, T7, C4⟩
        · by_cases hbc : b.Fits c
          · skip
            have xT30 := (unhide T3).box.at0
            have xT31 := (unhide T3).box.at1
            have xT40 := (unhide T4).box.at0
            have xT41 := (unhide T4).box.at1
            have xT50 := (unhide T5).box.at0
            have xT51 := (unhide T5).box.at1
            have xT70 := (unhide T7).box.at0
            have xT71 := (unhide T7).box.at1
            go_wp2_with fail
            refine (fits_ok oa ob (unhide T3).mem (unhide T4).mem true (decide_eq_true (hab))).mono ?_
            rintro e v0 ⟨rfl, hb⟩
            clear xT30 xT31 xT40 xT41 xT50 xT51 xT70 xT71
            replace T3 := hide ((unhide T3).keep hb)
            replace T4 := hide ((unhide T4).keep hb)
            replace T5 := hide ((unhide T5).keep hb)
            replace T7 := hide ((unhide T7).keep hb)
            have C0 := hide (below_via (unhide B7) hb)
            clear hb B7
            have xT30 := (unhide T3).box.at0
            have xT31 := (unhide T3).box.at1
            have xT40 := (unhide T4).box.at0
            have xT41 := (unhide T4).box.at1
            have xT50 := (unhide T5).box.at0
            have xT51 := (unhide T5).box.at1
            have xT70 := (unhide T7).box.at0
            have xT71 := (unhide T7).box.at1
            go_wp2_with fail
            refine (fits_ok ob oa (unhide T4).mem (unhide T3).mem false (decide_eq_false (hba))).mono ?_
            rintro e v1 ⟨rfl, hb⟩
            clear xT30 xT31 xT40 xT41 xT50 xT51 xT70 xT71
            replace T3 := hide ((unhide T3).keep hb)
            replace T4 := hide ((unhide T4).keep hb)
            replace T5 := hide ((unhide T5).keep hb)
            replace T7 := hide ((unhide T7).keep hb)
            have C1 := hide (below_via (unhide C0) hb)
            clear hb C0
            have xT30 := (unhide T3).box.at0
            have xT31 := (unhide T3).box.at1
            have xT40 := (unhide T4).box.at0
            have xT41 := (unhide T4).box.at1
            have xT50 := (unhide T5).box.at0
            have xT51 := (unhide T5).box.at1
            have xT70 := (unhide T7).box.at0
            have xT71 := (unhide T7).box.at1
            go_wp2_with fail
            refine (fits_ok oa ob (unhide T3).mem (unhide T4).mem true (decide_eq_true (hab))).mono ?_
            rintro e v2 ⟨rfl, hb⟩
            clear xT30 xT31 xT40 xT41 xT50 xT51 xT70 xT71
            replace T3 := hide ((unhide T3).keep hb)
            replace T4 := hide ((unhide T4).keep hb)
            replace T5 := hide ((unhide T5).keep hb)
            replace T7 := hide ((unhide T7).keep hb)
            have C2 := hide (below_via (unhide C1) hb)
            clear hb C1
            have xT30 := (unhide T3).box.at0
            have xT31 := (unhide T3).box.at1
            have xT40 := (unhide T4).box.at0
            have xT41 := (unhide T4).box.at1
            have xT50 := (unhide T5).box.at0
            have xT51 := (unhide T5).box.at1
            have xT70 := (unhide T7).box.at0
            have xT71 := (unhide T7).box.at1
            go_wp2_with fail
            refine (fits_ok ob oc (unhide T4).mem (unhide T5).mem true (decide_eq_true (hbc))).mono ?_
            rintro e v3 ⟨rfl, hb⟩
            clear xT30 xT31 xT40 xT41 xT50 xT51 xT70 xT71
            replace T3 := hide ((unhide T3).keep hb)
            replace T4 := hide ((unhide T4).keep hb)
            replace T5 := hide ((unhide T5).keep hb)
            replace T7 := hide ((unhide T7).keep hb)
            have C3 := hide (below_via (unhide C2) hb)
            clear hb C2
            have xT30 := (unhide T3).box.at0
            have xT31 := (unhide T3).box.at1
            have xT40 := (unhide T4).box.at0
            have xT41 := (unhide T4).box.at1
            have xT50 := (unhide T5).box.at0
            have xT51 := (unhide T5).box.at1
            have xT70 := (unhide T7).box.at0
            have xT71 := (unhide T7).box.at1
            go_wp2_with fail
            refine (fits_ok oa oc (unhide T3).mem (unhide T5).mem true (decide_eq_true (Sp.trans hab hbc))).mono ?_
            rintro e v4 ⟨rfl, hb⟩
            clear xT30 xT31 xT40 xT41 xT50 xT51 xT70 xT71
            replace T3 := hide ((unhide T3).keep hb)
            replace T4 := hide ((unhide T4).keep hb)
            replace T5 := hide ((unhide T5).keep hb)
            replace T7 := hide ((unhide T7).keep hb)
            have C4 := hide (below_via (unhide C3) hb)
            clear hb C3
            go_wp2_with fail
            go_meet
            case rel => exact ⟨rfl, T3, T4, T5, T7, C4⟩
          · skip
            have xT30 := (unhide T3).box.at0
            have xT31 := (unhide T3).box.at1
            have xT40 := (unhide T4).box.at0
            have xT41 := (unhide T4).box.at1
            have xT50 := (unhide T5).box.at0
            have xT51 := (unhide T5).box.at1
            have xT70 := (unhide T7).box.at0
            have xT71 := (unhide T7).box.at1
            go_wp2_with fail
            refine (fits_ok oa ob (unhide T3).mem (unhide T4).mem true (decide_eq_true (hab))).mono ?_
            rintro e v0 ⟨rfl, hb⟩
            clear xT30 xT31 xT40 xT41 xT50 xT51 xT70 xT71
            replace T3 := hide ((unhide T3).keep hb)
            replace T4 := hide ((unhide T4).keep hb)
            replace T5 := hide ((unhide T5).keep hb)
            replace T7 := hide ((unhide T7).keep hb)
            have C0 := hide (below_via (unhide B7) hb)
            clear hb B7
            have xT30 := (unhide T3).box.at0
            have xT31 := (unhide T3).box.at1
            have xT40 := (unhide T4).box.at0
            have xT41 := (unhide T4).box.at1
            have xT50 := (unhide T5).box.at0
            have xT51 := (unhide T5).box.at1
            have xT70 := (unhide T7).box.at0
            have xT71 := (unhide T7).box.at1
            go_wp2_with fail
            refine (fits_ok ob oa (unhide T4).mem (unhide T3).mem false (decide_eq_false (hba))).mono ?_
            rintro e v1 ⟨rfl, hb⟩
            clear xT30 xT31 xT40 xT41 xT50 xT51 xT70 xT71
            replace T3 := hide ((unhide T3).keep hb)
            replace T4 := hide ((unhide T4).keep hb)
            replace T5 := hide ((unhide T5).keep hb)
            replace T7 := hide ((unhide T7).keep hb)
            have C1 := hide (below_via (unhide C0) hb)
            clear hb C0
            have xT30 := (unhide T3).box.at0
            have xT31 := (unhide T3).box.at1
            have xT40 := (unhide T4).box.at0
            have xT41 := (unhide T4).box.at1
            have xT50 := (unhide T5).box.at0
            have xT51 := (unhide T5).box.at1
            have xT70 := (unhide T7).box.at0
            have xT71 := (unhide T7).box.at1
            go_wp2_with fail
            refine (fits_ok oa ob (unhide T3).mem (unhide T4).mem true (decide_eq_true (hab))).mono ?_
            rintro e v2 ⟨rfl, hb⟩
            clear xT30 xT31 xT40 xT41 xT50 xT51 xT70 xT71
            replace T3 := hide ((unhide T3).keep hb)
            replace T4 := hide ((unhide T4).keep hb)
            replace T5 := hide ((unhide T5).keep hb)
            replace T7 := hide ((unhide T7).keep hb)
            have C2 := hide (below_via (unhide C1) hb)
            clear hb C1
            have xT30 := (unhide T3).box.at0
            have xT31 := (unhide T3).box.at1
            have xT40 := (unhide T4).box.at0
            have xT41 := (unhide T4).box.at1
            have xT50 := (unhide T5).box.at0
            have xT51 := (unhide T5).box.at1
            have xT70 := (unhide T7).box.at0
            have xT71 := (unhide T7).box.at1
            go_wp2_with fail
            refine (fits_ok ob oc (unhide T4).mem (unhide T5).mem false (decide_eq_false (hbc))).mono ?_
            rintro e v3 ⟨rfl, hb⟩
            clear xT30 xT31 xT40 xT41 xT50 xT51 xT70 xT71
            replace T3 := hide ((unhide T3).keep hb)
            replace T4 := hide ((unhide T4).keep hb)
            replace T5 := hide ((unhide T5).keep hb)
            replace T7 := hide ((unhide T7).keep hb)
            have C3 := hide (below_via (unhide C2) hb)
            clear hb C2
            go_wp2_with fail
            go_meet
            case rel => exact ⟨rfl, T3, T4, T5, T7, C3⟩
      · skip
        have xT30 := (unhide T3).box.at0
        have xT31 := (unhide T3).box.at1
        have xT40 := (unhide T4).box.at0
        have xT41 := (unhide T4).box.at1
        have xT50 := (unhide T5).box.at0
        have xT51 := (unhide T5).box.at1
        have xT70 := (unhide T7).box.at0
        have xT71 := (unhide T7).box.at1
        go_wp2_with fail
        refine (fits_ok oa ob (unhide T3).mem (unhide T4).mem false (decide_eq_false (hab))).mono ?_
        rintro e v0 ⟨rfl, hb⟩
        clear xT30 xT31 xT40 xT41 xT50 xT51 xT70 xT71
        replace T3 := hide ((unhide T3).keep hb)
        replace T4 := hide ((unhide T4).keep hb)
        replace T5 := hide ((unhide T5).keep hb)
        replace T7 := hide ((unhide T7).keep hb)
        have C0 := hide (below_via (unhide B7) hb)
        clear hb B7
        have xT30 := (unhide T3).box.at0
        have xT31 := (unhide T3).box.at1
        have xT40 := (unhide T4).box.at0
        have xT41 := (unhide T4).box.at1
        have xT50 := (unhide T5).box.at0
        have xT51 := (unhide T5).box.at1
        have xT70 := (unhide T7).box.at0
        have xT71 := (unhide T7).box.at1
        go_wp2_with fail
        refine (fits_ok oa ob (unhide T3).mem (unhide T4).mem false (decide_eq_false (hab))).mono ?_
        rintro e v1 ⟨rfl, hb⟩
        clear xT30 xT31 xT40 xT41 xT50 xT51 xT70 xT71
        replace T3 := hide ((unhide T3).keep hb)
        replace T4 := hide ((unhide T4).keep hb)
        replace T5 := hide ((unhide T5).keep hb)
        replace T7 := hide ((unhide T7).keep hb)
        have C1 := hide (below_via (unhide C0) hb)
        clear hb C0
        go_wp2_with fail
        go_meet
        case rel => exact ⟨rfl, T3, T4, T5, T7, C1⟩
    case rest =>
      obtain ⟨rfl, S3, S4, S5, S7, S8⟩ := hcut
      clear T3 T4 T5 T7 B7
      have T3 := S3
      have T4 := S4
      have T5 := S5
      have T7 := S7
      clear S3 S4 S5 S7
      go_upto_region 10 with fail
      refine frame_intro (fun a => G a 3 = .pointer (some ⟨w.heap.size, 0, none⟩) ∧ G a 4 = .pointer (some ⟨w.heap.size + 1, 0, none⟩) ∧ G a 5 = .pointer (some ⟨w.heap.size + 1 + 1, 0, none⟩) ∧ G a 7 = .pointer (some ⟨p7, 0, none⟩) ∧ a.tmps.size = 114 ∧ a.defers = []) ⟨rfl, rfl, rfl, rfl, rfl, rfl⟩ ?_
      rintro f2 ⟨s3, s4, s5, s7, hsz, hdf⟩
      by_cases hac : a.Fits c
      · by_cases hbc : b.Fits c
        · skip
          refine region_any (I := RL wc f2 114 [88, 89, 90, 91, 92, 93, 94, 95, 96, 97, 98, 99, 100, 101, 102, 103, 104, 105, 106, 107, 108, 109, 110, 111, 112, 113, 6] [.lit (.agg #[.int .i64 k1, .slice a1 n1 c1]), .lit (.agg #[.int .i64 k3, .slice a3 n3 c3]), .lit (.bool true), .lit (.bool false), .lit (.bool false), .lit (.agg #[.int .i64 k2, .slice a2 n2 c2]), .lit (.agg #[.int .i64 k3, .slice a3 n3 c3]), .lit (.bool true), .lit (.bool false), .lit (.bool false), .lit (.bool false), .lit (.agg #[.int .i64 k4, .slice a4 n4 c4]), .lit (.agg #[.int .i64 k3, .slice a3 n3 c3]), .lit (.bool true), .lit (.bool true), .lit (.bool true), .lit (.agg #[.int .i64 k4, .slice a4 n4 c4]), .lit (.agg #[.int .i64 k3, .slice a3 n3 c3]), dmj ((a.join b).join c), .lit (.agg #[.int .i64 k1, .slice a1 n1 c1]), .lit (.agg #[.int .i64 k2, .slice a2 n2 c2]), .lit (.agg #[.int .i64 k3, .slice a3 n3 c3]), dmj (b.join c), dmj (a.join (b.join c)), .lit (.bool true), .lit (.bool true), .lit (.bool true)]) (by kernel_rfl) ?wait ?step ?done ?start
          case wait => exact ⟨by simp, by simp, by simp, by simp, by simp, by simp, by simp, by simp, by simp, by simp, by simp, by simp, by simp, by simp, by simp, by simp, by simp, by simp, by simp, by simp, by simp, by simp, by simp, by simp, by simp, by simp, by simp, trivial⟩
          case start => exact RI.start hsz hdf ((Below.refl _ _).drew)
          case step =>
            refine ⟨?_, ?_, ?_, ?_, ?_, ?_, ?_, ?_, ?_, ?_, ?_, ?_, ?_, ?_, ?_, ?_, ?_, ?_, ?_, ?_, ?_, ?_, ?_, ?_, ?_, ?_, ?_, trivial⟩
            · rintro L fa wx h hcl hL hw2
              exact rl_val h (by decide) rfl rfl rfl (by decide) rfl (run_ldT ((h.keep (s := 3) (by decide)).trans s3) ((unhide T3).box.keep h.old (unhide T3).box.low)) rfl
            · rintro L fa wx h hcl hL hw2
              exact rl_val h (by decide) rfl rfl rfl (by decide) rfl (run_ldT ((h.keep (s := 5) (by decide)).trans s5) ((unhide T5).box.keep h.old (unhide T5).box.low)) rfl
            · rintro L fa wx h hcl hL hw2
              exact rl_call (R := fun v _ => v = .bool true) h (by decide) rfl rfl rfl (by decide) rfl (run_call2 (eval_G (show G fa 88 = .agg #[.int .i64 k1, .slice a1 n1 c1] from (h.got 0 88 (hw2 ⟨0, .data⟩ (by simp) rfl) rfl))) (eval_G (show G fa 89 = .agg #[.int .i64 k3, .slice a3 n3 c3] from (h.got 1 89 (hw2 ⟨1, .data⟩ (by simp) rfl) rfl))) callFits) (fits_ev oa oc ((unhide T3).keep h.old).mem ((unhide T5).keep h.old).mem true (decide_eq_true (hac))) (fun _ _ q => q)
            · rintro L fa wx h hcl hL hw2
              exact rl_val h (by decide) rfl rfl rfl (by decide) rfl (run_not (eval_G (show G fa 90 = .bool true from (h.got 2 90 (hw2 ⟨2, .data⟩ (by simp) rfl) rfl)))) rfl
            · rintro L fa wx h hcl hL hw2
              exact rl_val h (by decide) rfl rfl rfl (by decide) rfl (run_mv (eval_G (show G fa 91 = .bool false from (h.got 3 91 (hw2 ⟨3, .data⟩ (by simp) rfl) rfl)))) rfl
            · rintro L fa wx h hcl hL hw2
              exact rl_val h (by decide) rfl rfl rfl (by decide) ((wanted_is (j := 4) (dj := 92) (b := false) (c := false) rfl rfl (by rw [h.size]; decide) (show G fa 92 = .bool false from (h.got 4 92 (hw2 ⟨4, .guard⟩ (by simp) rfl) rfl))).trans rfl) (run_ldT ((h.keep (s := 4) (by decide)).trans s4) ((unhide T4).box.keep h.old (unhide T4).box.low)) rfl
            · rintro L fa wx h hcl hL hw2
              exact rl_val h (by decide) rfl rfl rfl (by decide) ((wanted_is (j := 4) (dj := 92) (b := false) (c := false) rfl rfl (by rw [h.size]; decide) (show G fa 92 = .bool false from (h.got 4 92 (hw2 ⟨4, .guard⟩ (by simp) rfl) rfl))).trans rfl) (run_ldT ((h.keep (s := 5) (by decide)).trans s5) ((unhide T5).box.keep h.old (unhide T5).box.low)) rfl
            · rintro L fa wx h hcl hL hw2
              exact rl_call (R := fun v _ => v = .bool true) h (by decide) rfl rfl rfl (by decide) ((wanted_is (j := 4) (dj := 92) (b := false) (c := false) rfl rfl (by rw [h.size]; decide) (show G fa 92 = .bool false from (h.got 4 92 (hw2 ⟨4, .guard⟩ (by simp) rfl) rfl))).trans rfl) (run_call2 (eval_G (show G fa 93 = .agg #[.int .i64 k2, .slice a2 n2 c2] from (h.got 5 93 (hw2 ⟨5, .data⟩ (by simp) rfl) rfl))) (eval_G (show G fa 94 = .agg #[.int .i64 k3, .slice a3 n3 c3] from (h.got 6 94 (hw2 ⟨6, .data⟩ (by simp) rfl) rfl))) callFits) (fits_ev ob oc ((unhide T4).keep h.old).mem ((unhide T5).keep h.old).mem true (decide_eq_true (hbc))) (fun _ _ q => q)
            · rintro L fa wx h hcl hL hw2
              exact rl_val h (by decide) rfl rfl rfl (by decide) ((wanted_is (j := 4) (dj := 92) (b := false) (c := false) rfl rfl (by rw [h.size]; decide) (show G fa 92 = .bool false from (h.got 4 92 (hw2 ⟨4, .guard⟩ (by simp) rfl) rfl))).trans rfl) (run_not (eval_G (show G fa 95 = .bool true from (h.got 7 95 (hw2 ⟨7, .data⟩ (by simp) rfl) rfl)))) rfl
            · rintro L fa wx h hcl hL hw2
              exact rl_val h (by decide) rfl rfl rfl (by decide) rfl (run_pickF (eval_G (show G fa 92 = .bool false from (h.got 4 92 (hw2 ⟨4, .data⟩ (by simp) rfl) rfl))) (eval_G (show G fa 96 = .bool false from (h.got 8 96 (hw2 ⟨8, .data⟩ (by simp) rfl) rfl)))) rfl
            · rintro L fa wx h hcl hL hw2
              exact rl_val h (by decide) rfl rfl rfl (by decide) rfl (run_mv (eval_G (show G fa 97 = .bool false from (h.got 9 97 (hw2 ⟨9, .data⟩ (by simp) rfl) rfl)))) rfl
            · rintro L fa wx h hcl hL hw2
              exact rl_val h (by decide) rfl rfl rfl (by decide) ((wanted_is (j := 10) (dj := 98) (b := false) (c := false) rfl rfl (by rw [h.size]; decide) (show G fa 98 = .bool false from (h.got 10 98 (hw2 ⟨10, .guard⟩ (by simp) rfl) rfl))).trans rfl) (run_ldT ((h.keep (s := 7) (by decide)).trans s7) ((unhide T7).box.keep h.old (unhide T7).box.low)) rfl
            · rintro L fa wx h hcl hL hw2
              exact rl_val h (by decide) rfl rfl rfl (by decide) ((wanted_is (j := 10) (dj := 98) (b := false) (c := false) rfl rfl (by rw [h.size]; decide) (show G fa 98 = .bool false from (h.got 10 98 (hw2 ⟨10, .guard⟩ (by simp) rfl) rfl))).trans rfl) (run_ldT ((h.keep (s := 5) (by decide)).trans s5) ((unhide T5).box.keep h.old (unhide T5).box.low)) rfl
            · rintro L fa wx h hcl hL hw2
              exact rl_call (R := fun v _ => v = .bool true) h (by decide) rfl rfl rfl (by decide) ((wanted_is (j := 10) (dj := 98) (b := false) (c := false) rfl rfl (by rw [h.size]; decide) (show G fa 98 = .bool false from (h.got 10 98 (hw2 ⟨10, .guard⟩ (by simp) rfl) rfl))).trans rfl) (run_call2 (eval_G (show G fa 99 = .agg #[.int .i64 k4, .slice a4 n4 c4] from (h.got 11 99 (hw2 ⟨11, .data⟩ (by simp) rfl) rfl))) (eval_G (show G fa 100 = .agg #[.int .i64 k3, .slice a3 n3 c3] from (h.got 12 100 (hw2 ⟨12, .data⟩ (by simp) rfl) rfl))) callFits) (fits_ev oj oc ((unhide T7).keep h.old).mem ((unhide T5).keep h.old).mem true (decide_eq_true (Sp.least hac hbc))) (fun _ _ q => q)
            · rintro L fa wx h hcl hL hw2
              exact rl_val h (by decide) rfl rfl rfl (by decide) rfl (run_pickF (eval_G (show G fa 98 = .bool false from (h.got 10 98 (hw2 ⟨10, .data⟩ (by simp) rfl) rfl))) (eval_G (show G fa 101 = .bool true from (h.got 13 101 (hw2 ⟨13, .data⟩ (by simp) rfl) rfl)))) rfl
            · rintro L fa wx h hcl hL hw2
              exact rl_val h (by decide) rfl rfl rfl (by decide) rfl (run_mv (eval_G (show G fa 102 = .bool true from (h.got 14 102 (hw2 ⟨14, .data⟩ (by simp) rfl) rfl)))) rfl
            · rintro L fa wx h hcl hL hw2
              exact rl_val h (by decide) rfl rfl rfl (by decide) ((wanted_is (j := 15) (dj := 103) (b := true) (c := true) rfl rfl (by rw [h.size]; decide) (show G fa 103 = .bool true from (h.got 15 103 (hw2 ⟨15, .guard⟩ (by simp) rfl) rfl))).trans rfl) (run_ldT ((h.keep (s := 7) (by decide)).trans s7) ((unhide T7).box.keep h.old (unhide T7).box.low)) rfl
            · rintro L fa wx h hcl hL hw2
              exact rl_val h (by decide) rfl rfl rfl (by decide) ((wanted_is (j := 15) (dj := 103) (b := true) (c := true) rfl rfl (by rw [h.size]; decide) (show G fa 103 = .bool true from (h.got 15 103 (hw2 ⟨15, .guard⟩ (by simp) rfl) rfl))).trans rfl) (run_ldT ((h.keep (s := 5) (by decide)).trans s5) ((unhide T5).box.keep h.old (unhide T5).box.low)) rfl
            · rintro L fa wx h hcl hL hw2
              exact rl_call (R := MJ ((a.join b).join c)) h (by decide) rfl rfl rfl (by decide) ((wanted_is (j := 15) (dj := 103) (b := true) (c := true) rfl rfl (by rw [h.size]; decide) (show G fa 103 = .bool true from (h.got 15 103 (hw2 ⟨15, .guard⟩ (by simp) rfl) rfl))).trans rfl) (run_call2 (eval_G (show G fa 104 = .agg #[.int .i64 k4, .slice a4 n4 c4] from (h.got 16 104 (hw2 ⟨16, .data⟩ (by simp) rfl) rfl))) (eval_G (show G fa 105 = .agg #[.int .i64 k3, .slice a3 n3 c3] from (h.got 17 105 (hw2 ⟨17, .data⟩ (by simp) rfl) rfl))) callJoin) (join_ev oj oc ((unhide T7).keep h.old).mem ((unhide T5).keep h.old).mem) (fun _ _ q => q)
            · rintro L fa wx h hcl hL hw2
              exact rl_val h (by decide) rfl rfl rfl (by decide) ((wanted_is (j := 15) (dj := 103) (b := true) (c := true) rfl rfl (by rw [h.size]; decide) (show G fa 103 = .bool true from (h.got 15 103 (hw2 ⟨15, .guard⟩ (by simp) rfl) rfl))).trans rfl) (run_ldT ((h.keep (s := 3) (by decide)).trans s3) ((unhide T3).box.keep h.old (unhide T3).box.low)) rfl
            · rintro L fa wx h hcl hL hw2
              exact rl_val h (by decide) rfl rfl rfl (by decide) ((wanted_is (j := 15) (dj := 103) (b := true) (c := true) rfl rfl (by rw [h.size]; decide) (show G fa 103 = .bool true from (h.got 15 103 (hw2 ⟨15, .guard⟩ (by simp) rfl) rfl))).trans rfl) (run_ldT ((h.keep (s := 4) (by decide)).trans s4) ((unhide T4).box.keep h.old (unhide T4).box.low)) rfl
            · rintro L fa wx h hcl hL hw2
              exact rl_val h (by decide) rfl rfl rfl (by decide) ((wanted_is (j := 15) (dj := 103) (b := true) (c := true) rfl rfl (by rw [h.size]; decide) (show G fa 103 = .bool true from (h.got 15 103 (hw2 ⟨15, .guard⟩ (by simp) rfl) rfl))).trans rfl) (run_ldT ((h.keep (s := 5) (by decide)).trans s5) ((unhide T5).box.keep h.old (unhide T5).box.low)) rfl
            · rintro L fa wx h hcl hL hw2
              exact rl_call (R := MJ (b.join c)) h (by decide) rfl rfl rfl (by decide) ((wanted_is (j := 15) (dj := 103) (b := true) (c := true) rfl rfl (by rw [h.size]; decide) (show G fa 103 = .bool true from (h.got 15 103 (hw2 ⟨15, .guard⟩ (by simp) rfl) rfl))).trans rfl) (run_call2 (eval_G (show G fa 108 = .agg #[.int .i64 k2, .slice a2 n2 c2] from (h.got 20 108 (hw2 ⟨20, .data⟩ (by simp) rfl) rfl))) (eval_G (show G fa 109 = .agg #[.int .i64 k3, .slice a3 n3 c3] from (h.got 21 109 (hw2 ⟨21, .data⟩ (by simp) rfl) rfl))) callJoin) (join_ev ob oc ((unhide T4).keep h.old).mem ((unhide T5).keep h.old).mem) (fun _ _ q => q)
            · rintro L fa wx h hcl hL hw2
              obtain ⟨k23_1, s23_1, n23_1, c23_1, e23_1, m23_1⟩ := (h.got 22 110 (hw2 ⟨22, .data⟩ (by simp) rfl) rfl)
              exact rl_call (R := MJ (a.join (b.join c))) h (by decide) rfl rfl rfl (by decide) ((wanted_is (j := 15) (dj := 103) (b := true) (c := true) rfl rfl (by rw [h.size]; decide) (show G fa 103 = .bool true from (h.got 15 103 (hw2 ⟨15, .guard⟩ (by simp) rfl) rfl))).trans rfl) (run_call2 (eval_G (show G fa 107 = .agg #[.int .i64 k1, .slice a1 n1 c1] from (h.got 19 107 (hw2 ⟨19, .data⟩ (by simp) rfl) rfl))) (eval_G e23_1) callJoin) (join_ev oa (Sp.join_ok ob oc) ((unhide T3).keep h.old).mem m23_1) (fun _ _ q => q)
            · rintro L fa wx h hcl hL hw2
              obtain ⟨k24_0, s24_0, n24_0, c24_0, e24_0, m24_0⟩ := (h.got 18 106 (hw2 ⟨18, .data⟩ (by simp) rfl) rfl)
              obtain ⟨k24_1, s24_1, n24_1, c24_1, e24_1, m24_1⟩ := (h.got 23 111 (hw2 ⟨23, .data⟩ (by simp) rfl) rfl)
              exact rl_call (R := fun v _ => v = .bool true) h (by decide) rfl rfl rfl (by decide) ((wanted_is (j := 15) (dj := 103) (b := true) (c := true) rfl rfl (by rw [h.size]; decide) (show G fa 103 = .bool true from (h.got 15 103 (hw2 ⟨15, .guard⟩ (by simp) rfl) rfl))).trans rfl) (run_call2 (eval_G e24_0) (eval_G e24_1) callSame) (same_ev (Sp.join_ok oj oc) (Sp.join_ok oa (Sp.join_ok ob oc)) m24_0 m24_1 true (decide_eq_true (Sp.assoc a b c))) (fun _ _ q => q)
            · rintro L fa wx h hcl hL hw2
              exact rl_val h (by decide) rfl rfl rfl (by decide) rfl (run_pickT (eval_G (show G fa 103 = .bool true from (h.got 15 103 (hw2 ⟨15, .data⟩ (by simp) rfl) rfl))) (eval_G (show G fa 112 = .bool true from (h.got 24 112 (hw2 ⟨24, .data⟩ (by simp) rfl) rfl)))) rfl
            · rintro L fa wx h hcl hL hw2
              exact rl_val h (by decide) rfl rfl rfl (by decide) rfl (run_asg (eval_G (show G fa 113 = .bool true from (h.got 25 113 (hw2 ⟨25, .data⟩ (by simp) rfl) rfl)))) rfl
          case done =>
            rintro L f3 w8 h hall
            have q6 : G f3 6 = .bool true := h.got 26 6 (hall 26 (by simp)) rfl
            have hz := below_via (unhide S8) h.old
            have hdf2 := h.defs
            clear h
            go_wp2
            have e6 : f3.tmps[6]?.getD undef = .bool true := by simpa [G, Array.getD_eq_getD_getElem?] using q6
            exact bodyPost_ret (v := .bool true) (by simp [results, Tryz.results3, go_sem, e6]) hdf2 ⟨rfl, hz⟩
        · skip
          refine region_any (I := RL wc f2 114 [88, 89, 90, 91, 92, 93, 94, 95, 96, 97, 98, 99, 100, 101, 102, 103, 104, 105, 106, 107, 108, 109, 110, 111, 112, 113, 6] [.lit (.agg #[.int .i64 k1, .slice a1 n1 c1]), .lit (.agg #[.int .i64 k3, .slice a3 n3 c3]), .lit (.bool true), .lit (.bool false), .lit (.bool false), .lit (.agg #[.int .i64 k2, .slice a2 n2 c2]), .lit (.agg #[.int .i64 k3, .slice a3 n3 c3]), .lit (.bool false), .lit (.bool true), .lit (.bool true), .lit (.bool true), .any, .any, .any, .lit (.bool true), .lit (.bool true), .lit (.agg #[.int .i64 k4, .slice a4 n4 c4]), .lit (.agg #[.int .i64 k3, .slice a3 n3 c3]), dmj ((a.join b).join c), .lit (.agg #[.int .i64 k1, .slice a1 n1 c1]), .lit (.agg #[.int .i64 k2, .slice a2 n2 c2]), .lit (.agg #[.int .i64 k3, .slice a3 n3 c3]), dmj (b.join c), dmj (a.join (b.join c)), .lit (.bool true), .lit (.bool true), .lit (.bool true)]) (by kernel_rfl) ?wait ?step ?done ?start
          case wait => exact ⟨by simp, by simp, by simp, by simp, by simp, by simp, by simp, by simp, by simp, by simp, by simp, by simp, by simp, by simp, by simp, by simp, by simp, by simp, by simp, by simp, by simp, by simp, by simp, by simp, by simp, by simp, by simp, trivial⟩
          case start => exact RI.start hsz hdf ((Below.refl _ _).drew)
          case step =>
            refine ⟨?_, ?_, ?_, ?_, ?_, ?_, ?_, ?_, ?_, ?_, ?_, ?_, ?_, ?_, ?_, ?_, ?_, ?_, ?_, ?_, ?_, ?_, ?_, ?_, ?_, ?_, ?_, trivial⟩
            · rintro L fa wx h hcl hL hw2
              exact rl_val h (by decide) rfl rfl rfl (by decide) rfl (run_ldT ((h.keep (s := 3) (by decide)).trans s3) ((unhide T3).box.keep h.old (unhide T3).box.low)) rfl
            · rintro L fa wx h hcl hL hw2
              exact rl_val h (by decide) rfl rfl rfl (by decide) rfl (run_ldT ((h.keep (s := 5) (by decide)).trans s5) ((unhide T5).box.keep h.old (unhide T5).box.low)) rfl
            · rintro L fa wx h hcl hL hw2
              exact rl_call (R := fun v _ => v = .bool true) h (by decide) rfl rfl rfl (by decide) rfl (run_call2 (eval_G (show G fa 88 = .agg #[.int .i64 k1, .slice a1 n1 c1] from (h.got 0 88 (hw2 ⟨0, .data⟩ (by simp) rfl) rfl))) (eval_G (show G fa 89 = .agg #[.int .i64 k3, .slice a3 n3 c3] from (h.got 1 89 (hw2 ⟨1, .data⟩ (by simp) rfl) rfl))) callFits) (fits_ev oa oc ((unhide T3).keep h.old).mem ((unhide T5).keep h.old).mem true (decide_eq_true (hac))) (fun _ _ q => q)
            · rintro L fa wx h hcl hL hw2
              exact rl_val h (by decide) rfl rfl rfl (by decide) rfl (run_not (eval_G (show G fa 90 = .bool true from (h.got 2 90 (hw2 ⟨2, .data⟩ (by simp) rfl) rfl)))) rfl
            · rintro L fa wx h hcl hL hw2
              exact rl_val h (by decide) rfl rfl rfl (by decide) rfl (run_mv (eval_G (show G fa 91 = .bool false from (h.got 3 91 (hw2 ⟨3, .data⟩ (by simp) rfl) rfl)))) rfl
            · rintro L fa wx h hcl hL hw2
              exact rl_val h (by decide) rfl rfl rfl (by decide) ((wanted_is (j := 4) (dj := 92) (b := false) (c := false) rfl rfl (by rw [h.size]; decide) (show G fa 92 = .bool false from (h.got 4 92 (hw2 ⟨4, .guard⟩ (by simp) rfl) rfl))).trans rfl) (run_ldT ((h.keep (s := 4) (by decide)).trans s4) ((unhide T4).box.keep h.old (unhide T4).box.low)) rfl
            · rintro L fa wx h hcl hL hw2
              exact rl_val h (by decide) rfl rfl rfl (by decide) ((wanted_is (j := 4) (dj := 92) (b := false) (c := false) rfl rfl (by rw [h.size]; decide) (show G fa 92 = .bool false from (h.got 4 92 (hw2 ⟨4, .guard⟩ (by simp) rfl) rfl))).trans rfl) (run_ldT ((h.keep (s := 5) (by decide)).trans s5) ((unhide T5).box.keep h.old (unhide T5).box.low)) rfl
            · rintro L fa wx h hcl hL hw2
              exact rl_call (R := fun v _ => v = .bool false) h (by decide) rfl rfl rfl (by decide) ((wanted_is (j := 4) (dj := 92) (b := false) (c := false) rfl rfl (by rw [h.size]; decide) (show G fa 92 = .bool false from (h.got 4 92 (hw2 ⟨4, .guard⟩ (by simp) rfl) rfl))).trans rfl) (run_call2 (eval_G (show G fa 93 = .agg #[.int .i64 k2, .slice a2 n2 c2] from (h.got 5 93 (hw2 ⟨5, .data⟩ (by simp) rfl) rfl))) (eval_G (show G fa 94 = .agg #[.int .i64 k3, .slice a3 n3 c3] from (h.got 6 94 (hw2 ⟨6, .data⟩ (by simp) rfl) rfl))) callFits) (fits_ev ob oc ((unhide T4).keep h.old).mem ((unhide T5).keep h.old).mem false (decide_eq_false (hbc))) (fun _ _ q => q)
            · rintro L fa wx h hcl hL hw2
              exact rl_val h (by decide) rfl rfl rfl (by decide) ((wanted_is (j := 4) (dj := 92) (b := false) (c := false) rfl rfl (by rw [h.size]; decide) (show G fa 92 = .bool false from (h.got 4 92 (hw2 ⟨4, .guard⟩ (by simp) rfl) rfl))).trans rfl) (run_not (eval_G (show G fa 95 = .bool false from (h.got 7 95 (hw2 ⟨7, .data⟩ (by simp) rfl) rfl)))) rfl
            · rintro L fa wx h hcl hL hw2
              exact rl_val h (by decide) rfl rfl rfl (by decide) rfl (run_pickF (eval_G (show G fa 92 = .bool false from (h.got 4 92 (hw2 ⟨4, .data⟩ (by simp) rfl) rfl))) (eval_G (show G fa 96 = .bool true from (h.got 8 96 (hw2 ⟨8, .data⟩ (by simp) rfl) rfl)))) rfl
            · rintro L fa wx h hcl hL hw2
              exact rl_val h (by decide) rfl rfl rfl (by decide) rfl (run_mv (eval_G (show G fa 97 = .bool true from (h.got 9 97 (hw2 ⟨9, .data⟩ (by simp) rfl) rfl)))) rfl
            · rintro L fa wx h hcl hL hw2
              exact rl_skip h (by decide) rfl rfl rfl (by decide) ((wanted_is (j := 10) (dj := 98) (b := true) (c := false) rfl rfl (by rw [h.size]; decide) (show G fa 98 = .bool true from (h.got 10 98 (hw2 ⟨10, .guard⟩ (by simp) rfl) rfl))).trans rfl) trivial
            · rintro L fa wx h hcl hL hw2
              exact rl_skip h (by decide) rfl rfl rfl (by decide) ((wanted_is (j := 10) (dj := 98) (b := true) (c := false) rfl rfl (by rw [h.size]; decide) (show G fa 98 = .bool true from (h.got 10 98 (hw2 ⟨10, .guard⟩ (by simp) rfl) rfl))).trans rfl) trivial
            · rintro L fa wx h hcl hL hw2
              exact rl_skip h (by decide) rfl rfl rfl (by decide) ((wanted_is (j := 10) (dj := 98) (b := true) (c := false) rfl rfl (by rw [h.size]; decide) (show G fa 98 = .bool true from (h.got 10 98 (hw2 ⟨10, .guard⟩ (by simp) rfl) rfl))).trans rfl) trivial
            · rintro L fa wx h hcl hL hw2
              exact rl_val h (by decide) rfl rfl rfl (by decide) rfl (run_pickT (eval_G (show G fa 98 = .bool true from (h.got 10 98 (hw2 ⟨10, .data⟩ (by simp) rfl) rfl))) rfl) rfl
            · rintro L fa wx h hcl hL hw2
              exact rl_val h (by decide) rfl rfl rfl (by decide) rfl (run_mv (eval_G (show G fa 102 = .bool true from (h.got 14 102 (hw2 ⟨14, .data⟩ (by simp) rfl) rfl)))) rfl
            · rintro L fa wx h hcl hL hw2
              exact rl_val h (by decide) rfl rfl rfl (by decide) ((wanted_is (j := 15) (dj := 103) (b := true) (c := true) rfl rfl (by rw [h.size]; decide) (show G fa 103 = .bool true from (h.got 15 103 (hw2 ⟨15, .guard⟩ (by simp) rfl) rfl))).trans rfl) (run_ldT ((h.keep (s := 7) (by decide)).trans s7) ((unhide T7).box.keep h.old (unhide T7).box.low)) rfl
            · rintro L fa wx h hcl hL hw2
              exact rl_val h (by decide) rfl rfl rfl (by decide) ((wanted_is (j := 15) (dj := 103) (b := true) (c := true) rfl rfl (by rw [h.size]; decide) (show G fa 103 = .bool true from (h.got 15 103 (hw2 ⟨15, .guard⟩ (by simp) rfl) rfl))).trans rfl) (run_ldT ((h.keep (s := 5) (by decide)).trans s5) ((unhide T5).box.keep h.old (unhide T5).box.low)) rfl
            · rintro L fa wx h hcl hL hw2
              exact rl_call (R := MJ ((a.join b).join c)) h (by decide) rfl rfl rfl (by decide) ((wanted_is (j := 15) (dj := 103) (b := true) (c := true) rfl rfl (by rw [h.size]; decide) (show G fa 103 = .bool true from (h.got 15 103 (hw2 ⟨15, .guard⟩ (by simp) rfl) rfl))).trans rfl) (run_call2 (eval_G (show G fa 104 = .agg #[.int .i64 k4, .slice a4 n4 c4] from (h.got 16 104 (hw2 ⟨16, .data⟩ (by simp) rfl) rfl))) (eval_G (show G fa 105 = .agg #[.int .i64 k3, .slice a3 n3 c3] from (h.got 17 105 (hw2 ⟨17, .data⟩ (by simp) rfl) rfl))) callJoin) (join_ev oj oc ((unhide T7).keep h.old).mem ((unhide T5).keep h.old).mem) (fun _ _ q => q)
            · rintro L fa wx h hcl hL hw2
              exact rl_val h (by decide) rfl rfl rfl (by decide) ((wanted_is (j := 15) (dj := 103) (b := true) (c := true) rfl rfl (by rw [h.size]; decide) (show G fa 103 = .bool true from (h.got 15 103 (hw2 ⟨15, .guard⟩ (by simp) rfl) rfl))).trans rfl) (run_ldT ((h.keep (s := 3) (by decide)).trans s3) ((unhide T3).box.keep h.old (unhide T3).box.low)) rfl
            · rintro L fa wx h hcl hL hw2
              exact rl_val h (by decide) rfl rfl rfl (by decide) ((wanted_is (j := 15) (dj := 103) (b := true) (c := true) rfl rfl (by rw [h.size]; decide) (show G fa 103 = .bool true from (h.got 15 103 (hw2 ⟨15, .guard⟩ (by simp) rfl) rfl))).trans rfl) (run_ldT ((h.keep (s := 4) (by decide)).trans s4) ((unhide T4).box.keep h.old (unhide T4).box.low)) rfl
            · rintro L fa wx h hcl hL hw2
              exact rl_val h (by decide) rfl rfl rfl (by decide) ((wanted_is (j := 15) (dj := 103) (b := true) (c := true) rfl rfl (by rw [h.size]; decide) (show G fa 103 = .bool true from (h.got 15 103 (hw2 ⟨15, .guard⟩ (by simp) rfl) rfl))).trans rfl) (run_ldT ((h.keep (s := 5) (by decide)).trans s5) ((unhide T5).box.keep h.old (unhide T5).box.low)) rfl
            · rintro L fa wx h hcl hL hw2
              exact rl_call (R := MJ (b.join c)) h (by decide) rfl rfl rfl (by decide) ((wanted_is (j := 15) (dj := 103) (b := true) (c := true) rfl rfl (by rw [h.size]; decide) (show G fa 103 = .bool true from (h.got 15 103 (hw2 ⟨15, .guard⟩ (by simp) rfl) rfl))).trans rfl) (run_call2 (eval_G (show G fa 108 = .agg #[.int .i64 k2, .slice a2 n2 c2] from (h.got 20 108 (hw2 ⟨20, .data⟩ (by simp) rfl) rfl))) (eval_G (show G fa 109 = .agg #[.int .i64 k3, .slice a3 n3 c3] from (h.got 21 109 (hw2 ⟨21, .data⟩ (by simp) rfl) rfl))) callJoin) (join_ev ob oc ((unhide T4).keep h.old).mem ((unhide T5).keep h.old).mem) (fun _ _ q => q)
            · rintro L fa wx h hcl hL hw2
              obtain ⟨k23_1, s23_1, n23_1, c23_1, e23_1, m23_1⟩ := (h.got 22 110 (hw2 ⟨22, .data⟩ (by simp) rfl) rfl)
              exact rl_call (R := MJ (a.join (b.join c))) h (by decide) rfl rfl rfl (by decide) ((wanted_is (j := 15) (dj := 103) (b := true) (c := true) rfl rfl (by rw [h.size]; decide) (show G fa 103 = .bool true from (h.got 15 103 (hw2 ⟨15, .guard⟩ (by simp) rfl) rfl))).trans rfl) (run_call2 (eval_G (show G fa 107 = .agg #[.int .i64 k1, .slice a1 n1 c1] from (h.got 19 107 (hw2 ⟨19, .data⟩ (by simp) rfl) rfl))) (eval_G e23_1) callJoin) (join_ev oa (Sp.join_ok ob oc) ((unhide T3).keep h.old).mem m23_1) (fun _ _ q => q)
            · rintro L fa wx h hcl hL hw2
              obtain ⟨k24_0, s24_0, n24_0, c24_0, e24_0, m24_0⟩ := (h.got 18 106 (hw2 ⟨18, .data⟩ (by simp) rfl) rfl)
              obtain ⟨k24_1, s24_1, n24_1, c24_1, e24_1, m24_1⟩ := (h.got 23 111 (hw2 ⟨23, .data⟩ (by simp) rfl) rfl)
              exact rl_call (R := fun v _ => v = .bool true) h (by decide) rfl rfl rfl (by decide) ((wanted_is (j := 15) (dj := 103) (b := true) (c := true) rfl rfl (by rw [h.size]; decide) (show G fa 103 = .bool true from (h.got 15 103 (hw2 ⟨15, .guard⟩ (by simp) rfl) rfl))).trans rfl) (run_call2 (eval_G e24_0) (eval_G e24_1) callSame) (same_ev (Sp.join_ok oj oc) (Sp.join_ok oa (Sp.join_ok ob oc)) m24_0 m24_1 true (decide_eq_true (Sp.assoc a b c))) (fun _ _ q => q)
            · rintro L fa wx h hcl hL hw2
              exact rl_val h (by decide) rfl rfl rfl (by decide) rfl (run_pickT (eval_G (show G fa 103 = .bool true from (h.got 15 103 (hw2 ⟨15, .data⟩ (by simp) rfl) rfl))) (eval_G (show G fa 112 = .bool true from (h.got 24 112 (hw2 ⟨24, .data⟩ (by simp) rfl) rfl)))) rfl
            · rintro L fa wx h hcl hL hw2
              exact rl_val h (by decide) rfl rfl rfl (by decide) rfl (run_asg (eval_G (show G fa 113 = .bool true from (h.got 25 113 (hw2 ⟨25, .data⟩ (by simp) rfl) rfl)))) rfl
          case done =>
            rintro L f3 w8 h hall
            have q6 : G f3 6 = .bool true := h.got 26 6 (hall 26 (by simp)) rfl
            have hz := below_via (unhide S8) h.old
            have hdf2 := h.defs
            clear h
            go_wp2
            have e6 : f3.tmps[6]?.getD undef = .bool true := by simpa [G, Array.getD_eq_getD_getElem?] using q6
            exact bodyPost_ret (v := .bool true) (by simp [results, Tryz.results3, go_sem, e6]) hdf2 ⟨rfl, hz⟩
      · skip
        refine region_any (I := RL wc f2 114 [88, 89, 90, 91, 92, 93, 94, 95, 96, 97, 98, 99, 100, 101, 102, 103, 104, 105, 106, 107, 108, 109, 110, 111, 112, 113, 6] [.lit (.agg #[.int .i64 k1, .slice a1 n1 c1]), .lit (.agg #[.int .i64 k3, .slice a3 n3 c3]), .lit (.bool false), .lit (.bool true), .lit (.bool true), .any, .any, .any, .any, .lit (.bool true), .lit (.bool true), .any, .any, .any, .lit (.bool true), .lit (.bool true), .lit (.agg #[.int .i64 k4, .slice a4 n4 c4]), .lit (.agg #[.int .i64 k3, .slice a3 n3 c3]), dmj ((a.join b).join c), .lit (.agg #[.int .i64 k1, .slice a1 n1 c1]), .lit (.agg #[.int .i64 k2, .slice a2 n2 c2]), .lit (.agg #[.int .i64 k3, .slice a3 n3 c3]), dmj (b.join c), dmj (a.join (b.join c)), .lit (.bool true), .lit (.bool true), .lit (.bool true)]) (by kernel_rfl) ?wait ?step ?done ?start
        case wait => exact ⟨by simp, by simp, by simp, by simp, by simp, by simp, by simp, by simp, by simp, by simp, by simp, by simp, by simp, by simp, by simp, by simp, by simp, by simp, by simp, by simp, by simp, by simp, by simp, by simp, by simp, by simp, by simp, trivial⟩
        case start => exact RI.start hsz hdf ((Below.refl _ _).drew)
        case step =>
          refine ⟨?_, ?_, ?_, ?_, ?_, ?_, ?_, ?_, ?_, ?_, ?_, ?_, ?_, ?_, ?_, ?_, ?_, ?_, ?_, ?_, ?_, ?_, ?_, ?_, ?_, ?_, ?_, trivial⟩
          · rintro L fa wx h hcl hL hw2
            exact rl_val h (by decide) rfl rfl rfl (by decide) rfl (run_ldT ((h.keep (s := 3) (by decide)).trans s3) ((unhide T3).box.keep h.old (unhide T3).box.low)) rfl
          · rintro L fa wx h hcl hL hw2
            exact rl_val h (by decide) rfl rfl rfl (by decide) rfl (run_ldT ((h.keep (s := 5) (by decide)).trans s5) ((unhide T5).box.keep h.old (unhide T5).box.low)) rfl
          · rintro L fa wx h hcl hL hw2
            exact rl_call (R := fun v _ => v = .bool false) h (by decide) rfl rfl rfl (by decide) rfl (run_call2 (eval_G (show G fa 88 = .agg #[.int .i64 k1, .slice a1 n1 c1] from (h.got 0 88 (hw2 ⟨0, .data⟩ (by simp) rfl) rfl))) (eval_G (show G fa 89 = .agg #[.int .i64 k3, .slice a3 n3 c3] from (h.got 1 89 (hw2 ⟨1, .data⟩ (by simp) rfl) rfl))) callFits) (fits_ev oa oc ((unhide T3).keep h.old).mem ((unhide T5).keep h.old).mem false (decide_eq_false (hac))) (fun _ _ q => q)
          · rintro L fa wx h hcl hL hw2
            exact rl_val h (by decide) rfl rfl rfl (by decide) rfl (run_not (eval_G (show G fa 90 = .bool false from (h.got 2 90 (hw2 ⟨2, .data⟩ (by simp) rfl) rfl)))) rfl
          · rintro L fa wx h hcl hL hw2
            exact rl_val h (by decide) rfl rfl rfl (by decide) rfl (run_mv (eval_G (show G fa 91 = .bool true from (h.got 3 91 (hw2 ⟨3, .data⟩ (by simp) rfl) rfl)))) rfl
          · rintro L fa wx h hcl hL hw2
            exact rl_skip h (by decide) rfl rfl rfl (by decide) ((wanted_is (j := 4) (dj := 92) (b := true) (c := false) rfl rfl (by rw [h.size]; decide) (show G fa 92 = .bool true from (h.got 4 92 (hw2 ⟨4, .guard⟩ (by simp) rfl) rfl))).trans rfl) trivial
          · rintro L fa wx h hcl hL hw2
            exact rl_skip h (by decide) rfl rfl rfl (by decide) ((wanted_is (j := 4) (dj := 92) (b := true) (c := false) rfl rfl (by rw [h.size]; decide) (show G fa 92 = .bool true from (h.got 4 92 (hw2 ⟨4, .guard⟩ (by simp) rfl) rfl))).trans rfl) trivial
          · rintro L fa wx h hcl hL hw2
            exact rl_skip h (by decide) rfl rfl rfl (by decide) ((wanted_is (j := 4) (dj := 92) (b := true) (c := false) rfl rfl (by rw [h.size]; decide) (show G fa 92 = .bool true from (h.got 4 92 (hw2 ⟨4, .guard⟩ (by simp) rfl) rfl))).trans rfl) trivial
          · rintro L fa wx h hcl hL hw2
            exact rl_skip h (by decide) rfl rfl rfl (by decide) ((wanted_is (j := 4) (dj := 92) (b := true) (c := false) rfl rfl (by rw [h.size]; decide) (show G fa 92 = .bool true from (h.got 4 92 (hw2 ⟨4, .guard⟩ (by simp) rfl) rfl))).trans rfl) trivial
          · rintro L fa wx h hcl hL hw2
            exact rl_val h (by decide) rfl rfl rfl (by decide) rfl (run_pickT (eval_G (show G fa 92 = .bool true from (h.got 4 92 (hw2 ⟨4, .data⟩ (by simp) rfl) rfl))) rfl) rfl
          · rintro L fa wx h hcl hL hw2
            exact rl_val h (by decide) rfl rfl rfl (by decide) rfl (run_mv (eval_G (show G fa 97 = .bool true from (h.got 9 97 (hw2 ⟨9, .data⟩ (by simp) rfl) rfl)))) rfl
          · rintro L fa wx h hcl hL hw2
            exact rl_skip h (by decide) rfl rfl rfl (by decide) ((wanted_is (j := 10) (dj := 98) (b := true) (c := false) rfl rfl (by rw [h.size]; decide) (show G fa 98 = .bool true from (h.got 10 98 (hw2 ⟨10, .guard⟩ (by simp) rfl) rfl))).trans rfl) trivial
          · rintro L fa wx h hcl hL hw2
            exact rl_skip h (by decide) rfl rfl rfl (by decide) ((wanted_is (j := 10) (dj := 98) (b := true) (c := false) rfl rfl (by rw [h.size]; decide) (show G fa 98 = .bool true from (h.got 10 98 (hw2 ⟨10, .guard⟩ (by simp) rfl) rfl))).trans rfl) trivial
          · rintro L fa wx h hcl hL hw2
            exact rl_skip h (by decide) rfl rfl rfl (by decide) ((wanted_is (j := 10) (dj := 98) (b := true) (c := false) rfl rfl (by rw [h.size]; decide) (show G fa 98 = .bool true from (h.got 10 98 (hw2 ⟨10, .guard⟩ (by simp) rfl) rfl))).trans rfl) trivial
          · rintro L fa wx h hcl hL hw2
            exact rl_val h (by decide) rfl rfl rfl (by decide) rfl (run_pickT (eval_G (show G fa 98 = .bool true from (h.got 10 98 (hw2 ⟨10, .data⟩ (by simp) rfl) rfl))) rfl) rfl
          · rintro L fa wx h hcl hL hw2
            exact rl_val h (by decide) rfl rfl rfl (by decide) rfl (run_mv (eval_G (show G fa 102 = .bool true from (h.got 14 102 (hw2 ⟨14, .data⟩ (by simp) rfl) rfl)))) rfl
          · rintro L fa wx h hcl hL hw2
            exact rl_val h (by decide) rfl rfl rfl (by decide) ((wanted_is (j := 15) (dj := 103) (b := true) (c := true) rfl rfl (by rw [h.size]; decide) (show G fa 103 = .bool true from (h.got 15 103 (hw2 ⟨15, .guard⟩ (by simp) rfl) rfl))).trans rfl) (run_ldT ((h.keep (s := 7) (by decide)).trans s7) ((unhide T7).box.keep h.old (unhide T7).box.low)) rfl
          · rintro L fa wx h hcl hL hw2
            exact rl_val h (by decide) rfl rfl rfl (by decide) ((wanted_is (j := 15) (dj := 103) (b := true) (c := true) rfl rfl (by rw [h.size]; decide) (show G fa 103 = .bool true from (h.got 15 103 (hw2 ⟨15, .guard⟩ (by simp) rfl) rfl))).trans rfl) (run_ldT ((h.keep (s := 5) (by decide)).trans s5) ((unhide T5).box.keep h.old (unhide T5).box.low)) rfl
          · rintro L fa wx h hcl hL hw2
            exact rl_call (R := MJ ((a.join b).join c)) h (by decide) rfl rfl rfl (by decide) ((wanted_is (j := 15) (dj := 103) (b := true) (c := true) rfl rfl (by rw [h.size]; decide) (show G fa 103 = .bool true from (h.got 15 103 (hw2 ⟨15, .guard⟩ (by simp) rfl) rfl))).trans rfl) (run_call2 (eval_G (show G fa 104 = .agg #[.int .i64 k4, .slice a4 n4 c4] from (h.got 16 104 (hw2 ⟨16, .data⟩ (by simp) rfl) rfl))) (eval_G (show G fa 105 = .agg #[.int .i64 k3, .slice a3 n3 c3] from (h.got 17 105 (hw2 ⟨17, .data⟩ (by simp) rfl) rfl))) callJoin) (join_ev oj oc ((unhide T7).keep h.old).mem ((unhide T5).keep h.old).mem) (fun _ _ q => q)
          · rintro L fa wx h hcl hL hw2
            exact rl_val h (by decide) rfl rfl rfl (by decide) ((wanted_is (j := 15) (dj := 103) (b := true) (c := true) rfl rfl (by rw [h.size]; decide) (show G fa 103 = .bool true from (h.got 15 103 (hw2 ⟨15, .guard⟩ (by simp) rfl) rfl))).trans rfl) (run_ldT ((h.keep (s := 3) (by decide)).trans s3) ((unhide T3).box.keep h.old (unhide T3).box.low)) rfl
          · rintro L fa wx h hcl hL hw2
            exact rl_val h (by decide) rfl rfl rfl (by decide) ((wanted_is (j := 15) (dj := 103) (b := true) (c := true) rfl rfl (by rw [h.size]; decide) (show G fa 103 = .bool true from (h.got 15 103 (hw2 ⟨15, .guard⟩ (by simp) rfl) rfl))).trans rfl) (run_ldT ((h.keep (s := 4) (by decide)).trans s4) ((unhide T4).box.keep h.old (unhide T4).box.low)) rfl
          · rintro L fa wx h hcl hL hw2
            exact rl_val h (by decide) rfl rfl rfl (by decide) ((wanted_is (j := 15) (dj := 103) (b := true) (c := true) rfl rfl (by rw [h.size]; decide) (show G fa 103 = .bool true from (h.got 15 103 (hw2 ⟨15, .guard⟩ (by simp) rfl) rfl))).trans rfl) (run_ldT ((h.keep (s := 5) (by decide)).trans s5) ((unhide T5).box.keep h.old (unhide T5).box.low)) rfl
          · rintro L fa wx h hcl hL hw2
            exact rl_call (R := MJ (b.join c)) h (by decide) rfl rfl rfl (by decide) ((wanted_is (j := 15) (dj := 103) (b := true) (c := true) rfl rfl (by rw [h.size]; decide) (show G fa 103 = .bool true from (h.got 15 103 (hw2 ⟨15, .guard⟩ (by simp) rfl) rfl))).trans rfl) (run_call2 (eval_G (show G fa 108 = .agg #[.int .i64 k2, .slice a2 n2 c2] from (h.got 20 108 (hw2 ⟨20, .data⟩ (by simp) rfl) rfl))) (eval_G (show G fa 109 = .agg #[.int .i64 k3, .slice a3 n3 c3] from (h.got 21 109 (hw2 ⟨21, .data⟩ (by simp) rfl) rfl))) callJoin) (join_ev ob oc ((unhide T4).keep h.old).mem ((unhide T5).keep h.old).mem) (fun _ _ q => q)
          · rintro L fa wx h hcl hL hw2
            obtain ⟨k23_1, s23_1, n23_1, c23_1, e23_1, m23_1⟩ := (h.got 22 110 (hw2 ⟨22, .data⟩ (by simp) rfl) rfl)
            exact rl_call (R := MJ (a.join (b.join c))) h (by decide) rfl rfl rfl (by decide) ((wanted_is (j := 15) (dj := 103) (b := true) (c := true) rfl rfl (by rw [h.size]; decide) (show G fa 103 = .bool true from (h.got 15 103 (hw2 ⟨15, .guard⟩ (by simp) rfl) rfl))).trans rfl) (run_call2 (eval_G (show G fa 107 = .agg #[.int .i64 k1, .slice a1 n1 c1] from (h.got 19 107 (hw2 ⟨19, .data⟩ (by simp) rfl) rfl))) (eval_G e23_1) callJoin) (join_ev oa (Sp.join_ok ob oc) ((unhide T3).keep h.old).mem m23_1) (fun _ _ q => q)
          · rintro L fa wx h hcl hL hw2
            obtain ⟨k24_0, s24_0, n24_0, c24_0, e24_0, m24_0⟩ := (h.got 18 106 (hw2 ⟨18, .data⟩ (by simp) rfl) rfl)
            obtain ⟨k24_1, s24_1, n24_1, c24_1, e24_1, m24_1⟩ := (h.got 23 111 (hw2 ⟨23, .data⟩ (by simp) rfl) rfl)
            exact rl_call (R := fun v _ => v = .bool true) h (by decide) rfl rfl rfl (by decide) ((wanted_is (j := 15) (dj := 103) (b := true) (c := true) rfl rfl (by rw [h.size]; decide) (show G fa 103 = .bool true from (h.got 15 103 (hw2 ⟨15, .guard⟩ (by simp) rfl) rfl))).trans rfl) (run_call2 (eval_G e24_0) (eval_G e24_1) callSame) (same_ev (Sp.join_ok oj oc) (Sp.join_ok oa (Sp.join_ok ob oc)) m24_0 m24_1 true (decide_eq_true (Sp.assoc a b c))) (fun _ _ q => q)
          · rintro L fa wx h hcl hL hw2
            exact rl_val h (by decide) rfl rfl rfl (by decide) rfl (run_pickT (eval_G (show G fa 103 = .bool true from (h.got 15 103 (hw2 ⟨15, .data⟩ (by simp) rfl) rfl))) (eval_G (show G fa 112 = .bool true from (h.got 24 112 (hw2 ⟨24, .data⟩ (by simp) rfl) rfl)))) rfl
          · rintro L fa wx h hcl hL hw2
            exact rl_val h (by decide) rfl rfl rfl (by decide) rfl (run_asg (eval_G (show G fa 113 = .bool true from (h.got 25 113 (hw2 ⟨25, .data⟩ (by simp) rfl) rfl)))) rfl
        case done =>
          rintro L f3 w8 h hall
          have q6 : G f3 6 = .bool true := h.got 26 6 (hall 26 (by simp)) rfl
          have hz := below_via (unhide S8) h.old
          have hdf2 := h.defs
          clear h
          go_wp2
          have e6 : f3.tmps[6]?.getD undef = .bool true := by simpa [G, Array.getD_eq_getD_getElem?] using q6
          exact bodyPost_ret (v := .bool true) (by simp [results, Tryz.results3, go_sem, e6]) hdf2 ⟨rfl, hz⟩
end Go.Proofs.YtjgonkcfnfgakaaGreatDoor
