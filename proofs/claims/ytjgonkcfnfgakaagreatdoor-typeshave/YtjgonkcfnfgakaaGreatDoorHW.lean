/- The walk over TypesHave where nothing is wrong with the two types. -/
import Derived.Test.YtjgonkcfnfgakaaGreatDoorHV
namespace Go.Proofs.YtjgonkcfnfgakaaGreatDoor
open Go.RowKit

set_option maxRecDepth 100000 in
set_option maxHeartbeats 20000000 in
theorem have_right (a b : Sp) (T : Tree) (u v x : Array Value) (w : World) (oa : a.ok) (ob : b.ok) (hu : MemT w.heap.size w (rt a) u) (hv : MemT w.heap.size w (rt b) v) (hx : Mem w.heap.size w T x) :
    Calls Tryz.prog 4 #[.agg u, .agg v, .agg x] w fun e w' => e = .returned (.bool true) ∧ Below w.heap.size w w' := by
  obtain ⟨k1, a1, n1, c1, rfl⟩ := hu.form
  obtain ⟨k2, a2, n2, c2, rfl⟩ := hv.form
  obtain ⟨k0, y0, c0, x0, t0, l0, n0, p0, rfl⟩ := mem_form hx
  have T3 := hide (((TB.new hu).keep (below_new _ (.cells #[.int .i64 k2, .slice a2 n2 c2] 24))).keep (below_new _ (.cells #[.int .i64 k0, .bool y0, .int .i64 c0, .int .i64 x0, .string t0, .slice l0 n0 p0] 35)))
  have T4 := hide ((TB.new (hv.grow (below_new _ (.cells #[.int .i64 k1, .slice a1 n1 c1] 24)))).keep (below_new _ (.cells #[.int .i64 k0, .bool y0, .int .i64 c0, .int .i64 x0, .string t0, .slice l0 n0 p0] 35)))
  have T5 := hide (TV.new (mem_grow (mem_grow hx (below_new _ (.cells #[.int .i64 k1, .slice a1 n1 c1] 24))) (below_new _ (.cells #[.int .i64 k2, .slice a2 n2 c2] 24))))
  have B0 := hide ((((Below.refl w.heap.size w).alloc (Nat.le_refl _) (.cells #[.int .i64 k1, .slice a1 n1 c1] 24)).alloc (by simp) (.cells #[.int .i64 k2, .slice a2 n2 c2] 24)).alloc (by simp; omega) (.cells #[.int .i64 k0, .bool y0, .int .i64 c0, .int .i64 x0, .string t0, .slice l0 n0 p0] 35))
  simp only [World.size_alloc] at T4 T5
  clear hu hv hx
  go_enter Tryz.func4, Tryz.ntmps4
  go_wp2_with fail
  refine (alive_any _).mono ?_
  rintro e w0 ⟨rfl, hb⟩
  replace T3 := hide ((unhide T3).keep hb)
  replace T4 := hide ((unhide T4).keep hb)
  replace T5 := hide ((unhide T5).keep hb)
  have B1 := hide (below_via (unhide B0) hb)
  clear hb B0
  have xT30 := (unhide T3).box.at0
  have xT31 := (unhide T3).box.at1
  have xT40 := (unhide T4).box.at0
  have xT41 := (unhide T4).box.at1
  obtain ⟨x50, x51, x52, x53, x54, x55⟩ := (unhide T5).box.tell
  go_wp2_with fail
  refine (wrong_ok oa (unhide T3).mem).mono ?_
  rintro e w1 ⟨rfl, hb⟩
  clear xT30 xT31 xT40 xT41 x50 x51 x52 x53 x54 x55
  replace T3 := hide ((unhide T3).keep hb)
  replace T4 := hide ((unhide T4).keep hb)
  replace T5 := hide ((unhide T5).keep hb)
  have B2 := hide (below_via (unhide B1) hb)
  clear hb B1
  have xT30 := (unhide T3).box.at0
  have xT31 := (unhide T3).box.at1
  have xT40 := (unhide T4).box.at0
  have xT41 := (unhide T4).box.at1
  obtain ⟨x50, x51, x52, x53, x54, x55⟩ := (unhide T5).box.tell
  go_wp2_with fail
  refine (wrong_ok ob (unhide T4).mem).mono ?_
  rintro e w2 ⟨rfl, hb⟩
  clear xT30 xT31 xT40 xT41 x50 x51 x52 x53 x54 x55
  replace T3 := hide ((unhide T3).keep hb)
  replace T4 := hide ((unhide T4).keep hb)
  replace T5 := hide ((unhide T5).keep hb)
  have B3 := hide (below_via (unhide B2) hb)
  clear hb B2
  go_upto_region 5 with fail
  refine frame_intro (fun a => G a 3 = .pointer (some ⟨w.heap.size, 0, none⟩) ∧ G a 4 = .pointer (some ⟨w.heap.size + 1, 0, none⟩) ∧ G a 5 = .pointer (some ⟨w.heap.size + 1 + 1, 0, none⟩) ∧ a.tmps.size = 43 ∧ a.defers = []) ⟨rfl, rfl, rfl, rfl, rfl⟩ ?_
  rintro f0 ⟨s3, s4, s5, hsz, hdf⟩
  cases hA : (hasF T a 0).1 with
  | true =>
    refine region_any (I := RL w2 f0 43 [17, 18, 19, 20, 21, 22, 23, 24, 25, 26, 27] [.lit (.agg #[.int .i64 k0, .bool y0, .int .i64 c0, .int .i64 x0, .string t0, .slice l0 n0 p0]), .lit (.agg #[.int .i64 k1, .slice a1 n1 c1]), .lit (.bool true), .lit (.bool true), .lit (.agg #[.int .i64 k0, .bool y0, .int .i64 c0, .int .i64 x0, .string t0, .slice l0 n0 p0]), .lit (.agg #[.int .i64 k1, .slice a1 n1 c1]), .lit (.agg #[.int .i64 k2, .slice a2 n2 c2]), dmj (a.join b), .lit (.bool true), .lit (.bool false), .lit (.bool false)]) (by kernel_rfl) ?wait ?step ?done ?start
    case wait => exact ⟨by simp, by simp, by simp, by simp, by simp, by simp, by simp, by simp, by simp, by simp, by simp, trivial⟩
    case start => exact RI.start hsz hdf ((Below.refl _ _).drew)
    case step =>
      refine ⟨?_, ?_, ?_, ?_, ?_, ?_, ?_, ?_, ?_, ?_, ?_, trivial⟩
      · rintro L fa wx h hcl hL hw2
        exact rl_val h (by decide) rfl rfl rfl (by decide) rfl (run_ldV ((h.keep (s := 5) (by decide)).trans s5) ((unhide T5).box.keep h.old (unhide T5).box.low)) rfl
      · rintro L fa wx h hcl hL hw2
        exact rl_val h (by decide) rfl rfl rfl (by decide) rfl (run_ldT ((h.keep (s := 3) (by decide)).trans s3) ((unhide T3).box.keep h.old (unhide T3).box.low)) rfl
      · rintro L fa wx h hcl hL hw2
        exact rl_call (R := fun v _ => v = .bool true) h (by decide) rfl rfl rfl (by decide) rfl (run_call2 (eval_G (show G fa 17 = .agg #[.int .i64 k0, .bool y0, .int .i64 c0, .int .i64 x0, .string t0, .slice l0 n0 p0] from (h.got 0 17 (hw2 ⟨0, .data⟩ (by simp) rfl) rfl))) (eval_G (show G fa 18 = .agg #[.int .i64 k1, .slice a1 n1 c1] from (h.got 1 18 (hw2 ⟨1, .data⟩ (by simp) rfl) rfl))) callHas) (has_ev oa ((unhide T5).keep h.old).mem ((unhide T3).keep h.old).mem true hA) (fun _ _ q => q)
      · rintro L fa wx h hcl hL hw2
        exact rl_val h (by decide) rfl rfl rfl (by decide) rfl (run_mv (eval_G (show G fa 19 = .bool true from (h.got 2 19 (hw2 ⟨2, .data⟩ (by simp) rfl) rfl)))) rfl
      · rintro L fa wx h hcl hL hw2
        exact rl_val h (by decide) rfl rfl rfl (by decide) ((wanted_is (j := 3) (dj := 20) (b := true) (c := true) rfl rfl (by rw [h.size]; decide) (show G fa 20 = .bool true from (h.got 3 20 (hw2 ⟨3, .guard⟩ (by simp) rfl) rfl))).trans rfl) (run_ldV ((h.keep (s := 5) (by decide)).trans s5) ((unhide T5).box.keep h.old (unhide T5).box.low)) rfl
      · rintro L fa wx h hcl hL hw2
        exact rl_val h (by decide) rfl rfl rfl (by decide) ((wanted_is (j := 3) (dj := 20) (b := true) (c := true) rfl rfl (by rw [h.size]; decide) (show G fa 20 = .bool true from (h.got 3 20 (hw2 ⟨3, .guard⟩ (by simp) rfl) rfl))).trans rfl) (run_ldT ((h.keep (s := 3) (by decide)).trans s3) ((unhide T3).box.keep h.old (unhide T3).box.low)) rfl
      · rintro L fa wx h hcl hL hw2
        exact rl_val h (by decide) rfl rfl rfl (by decide) ((wanted_is (j := 3) (dj := 20) (b := true) (c := true) rfl rfl (by rw [h.size]; decide) (show G fa 20 = .bool true from (h.got 3 20 (hw2 ⟨3, .guard⟩ (by simp) rfl) rfl))).trans rfl) (run_ldT ((h.keep (s := 4) (by decide)).trans s4) ((unhide T4).box.keep h.old (unhide T4).box.low)) rfl
      · rintro L fa wx h hcl hL hw2
        exact rl_call (R := MJ (a.join b)) h (by decide) rfl rfl rfl (by decide) ((wanted_is (j := 3) (dj := 20) (b := true) (c := true) rfl rfl (by rw [h.size]; decide) (show G fa 20 = .bool true from (h.got 3 20 (hw2 ⟨3, .guard⟩ (by simp) rfl) rfl))).trans rfl) (run_call2 (eval_G (show G fa 22 = .agg #[.int .i64 k1, .slice a1 n1 c1] from (h.got 5 22 (hw2 ⟨5, .data⟩ (by simp) rfl) rfl))) (eval_G (show G fa 23 = .agg #[.int .i64 k2, .slice a2 n2 c2] from (h.got 6 23 (hw2 ⟨6, .data⟩ (by simp) rfl) rfl))) callJoin) (join_ev oa ob ((unhide T3).keep h.old).mem ((unhide T4).keep h.old).mem) (fun _ _ q => q)
      · rintro L fa wx h hcl hL hw2
        obtain ⟨k8_1, s8_1, n8_1, c8_1, e8_1, m8_1⟩ := (h.got 7 24 (hw2 ⟨7, .data⟩ (by simp) rfl) rfl)
        exact rl_call (R := fun v _ => v = .bool true) h (by decide) rfl rfl rfl (by decide) ((wanted_is (j := 3) (dj := 20) (b := true) (c := true) rfl rfl (by rw [h.size]; decide) (show G fa 20 = .bool true from (h.got 3 20 (hw2 ⟨3, .guard⟩ (by simp) rfl) rfl))).trans rfl) (run_call2 (eval_G (show G fa 21 = .agg #[.int .i64 k0, .bool y0, .int .i64 c0, .int .i64 x0, .string t0, .slice l0 n0 p0] from (h.got 4 21 (hw2 ⟨4, .data⟩ (by simp) rfl) rfl))) (eval_G e8_1) callHas) (has_ev (Sp.join_ok oa ob) ((unhide T5).keep h.old).mem m8_1 true (hasF_fits T a (a.join b) 0 0 (Sp.left a b) (Nat.le_refl _) (by omega) hA).1) (fun _ _ q => q)
      · rintro L fa wx h hcl hL hw2
        exact rl_val h (by decide) rfl rfl rfl (by decide) ((wanted_is (j := 3) (dj := 20) (b := true) (c := true) rfl rfl (by rw [h.size]; decide) (show G fa 20 = .bool true from (h.got 3 20 (hw2 ⟨3, .guard⟩ (by simp) rfl) rfl))).trans rfl) (run_not (eval_G (show G fa 25 = .bool true from (h.got 8 25 (hw2 ⟨8, .data⟩ (by simp) rfl) rfl)))) rfl
      · rintro L fa wx h hcl hL hw2
        exact rl_val h (by decide) rfl rfl rfl (by decide) rfl (run_pickT (eval_G (show G fa 20 = .bool true from (h.got 3 20 (hw2 ⟨3, .data⟩ (by simp) rfl) rfl))) (eval_G (show G fa 26 = .bool false from (h.got 9 26 (hw2 ⟨9, .data⟩ (by simp) rfl) rfl)))) rfl
    case done =>
      rintro L f1 w3 h hall
      have q27 : G f1 27 = .bool false := h.got 10 27 (hall 10 (by simp)) rfl
      replace s3 := (h.keep (s := 3) (by decide)).trans s3
      replace s4 := (h.keep (s := 4) (by decide)).trans s4
      replace s5 := (h.keep (s := 5) (by decide)).trans s5
      have hb := h.old
      replace T3 := hide ((unhide T3).keep hb)
      replace T4 := hide ((unhide T4).keep hb)
      replace T5 := hide ((unhide T5).keep hb)
      have B4 := hide (below_via (unhide B3) hb)
      clear B3
      replace hsz := h.size
      replace hdf := h.defs
      clear h hall hb
      obtain ⟨u0, u1, u2, u3, u4, u5, u6, u7, u8, u9, u10, u11, u12, u13, u14, u15, u16, u17, u18, u19, u20, u21, u22, u23, u24, u25, u26, u27, u28, u29, u30, u31, u32, u33, u34, u35, u36, u37, u38, u39, u40, u41, u42, rfl, q3, q4, q5, q27'⟩ := frame_ex43 hsz hdf
      rw [s3] at q3
      rw [s4] at q4
      rw [s5] at q5
      rw [q27] at q27'
      subst q3 q4 q5 q27'
      clear s3 s4 s5 q27 hsz hdf
      by_cases hab : a.Fits b
      · skip
        have xT30 := (unhide T3).box.at0
        have xT31 := (unhide T3).box.at1
        have xT40 := (unhide T4).box.at0
        have xT41 := (unhide T4).box.at1
        obtain ⟨x50, x51, x52, x53, x54, x55⟩ := (unhide T5).box.tell
        go_wp2_with fail
        refine (fits_ok oa ob (unhide T3).mem (unhide T4).mem true (decide_eq_true (hab))).mono ?_
        rintro e v0 ⟨rfl, hb⟩
        clear xT30 xT31 xT40 xT41 x50 x51 x52 x53 x54 x55
        replace T3 := hide ((unhide T3).keep hb)
        replace T4 := hide ((unhide T4).keep hb)
        replace T5 := hide ((unhide T5).keep hb)
        have C0 := hide (below_via (unhide B4) hb)
        clear hb B4
        have xT30 := (unhide T3).box.at0
        have xT31 := (unhide T3).box.at1
        have xT40 := (unhide T4).box.at0
        have xT41 := (unhide T4).box.at1
        obtain ⟨x50, x51, x52, x53, x54, x55⟩ := (unhide T5).box.tell
        go_wp2_with fail
        refine (has_ok oa (unhide T5).mem (unhide T3).mem true hA).mono ?_
        rintro e v1 ⟨rfl, hb⟩
        clear xT30 xT31 xT40 xT41 x50 x51 x52 x53 x54 x55
        replace T3 := hide ((unhide T3).keep hb)
        replace T4 := hide ((unhide T4).keep hb)
        replace T5 := hide ((unhide T5).keep hb)
        have C1 := hide (below_via (unhide C0) hb)
        clear hb C0
        have xT30 := (unhide T3).box.at0
        have xT31 := (unhide T3).box.at1
        have xT40 := (unhide T4).box.at0
        have xT41 := (unhide T4).box.at1
        obtain ⟨x50, x51, x52, x53, x54, x55⟩ := (unhide T5).box.tell
        go_wp2_with fail
        refine (has_ok ob (unhide T5).mem (unhide T4).mem true (hasF_fits T a b 0 0 hab (Nat.le_refl _) (by omega) hA).1).mono ?_
        rintro e v2 ⟨rfl, hb⟩
        clear xT30 xT31 xT40 xT41 x50 x51 x52 x53 x54 x55
        replace T3 := hide ((unhide T3).keep hb)
        replace T4 := hide ((unhide T4).keep hb)
        replace T5 := hide ((unhide T5).keep hb)
        have C2 := hide (below_via (unhide C1) hb)
        clear hb C1
        go_wp2
        go_ret
        exact ⟨rfl, unhide C2⟩
      · skip
        have xT30 := (unhide T3).box.at0
        have xT31 := (unhide T3).box.at1
        have xT40 := (unhide T4).box.at0
        have xT41 := (unhide T4).box.at1
        obtain ⟨x50, x51, x52, x53, x54, x55⟩ := (unhide T5).box.tell
        go_wp2_with fail
        refine (fits_ok oa ob (unhide T3).mem (unhide T4).mem false (decide_eq_false (hab))).mono ?_
        rintro e v0 ⟨rfl, hb⟩
        clear xT30 xT31 xT40 xT41 x50 x51 x52 x53 x54 x55
        replace T3 := hide ((unhide T3).keep hb)
        replace T4 := hide ((unhide T4).keep hb)
        replace T5 := hide ((unhide T5).keep hb)
        have C0 := hide (below_via (unhide B4) hb)
        clear hb B4
        go_wp2
        go_ret
        exact ⟨rfl, unhide C0⟩
  | false =>
    refine region_any (I := RL w2 f0 43 [17, 18, 19, 20, 21, 22, 23, 24, 25, 26, 27] [.lit (.agg #[.int .i64 k0, .bool y0, .int .i64 c0, .int .i64 x0, .string t0, .slice l0 n0 p0]), .lit (.agg #[.int .i64 k1, .slice a1 n1 c1]), .lit (.bool false), .lit (.bool false), .any, .any, .any, .any, .any, .any, .lit (.bool false)]) (by kernel_rfl) ?wait ?step ?done ?start
    case wait => exact ⟨by simp, by simp, by simp, by simp, by simp, by simp, by simp, by simp, by simp, by simp, by simp, trivial⟩
    case start => exact RI.start hsz hdf ((Below.refl _ _).drew)
    case step =>
      refine ⟨?_, ?_, ?_, ?_, ?_, ?_, ?_, ?_, ?_, ?_, ?_, trivial⟩
      · rintro L fa wx h hcl hL hw2
        exact rl_val h (by decide) rfl rfl rfl (by decide) rfl (run_ldV ((h.keep (s := 5) (by decide)).trans s5) ((unhide T5).box.keep h.old (unhide T5).box.low)) rfl
      · rintro L fa wx h hcl hL hw2
        exact rl_val h (by decide) rfl rfl rfl (by decide) rfl (run_ldT ((h.keep (s := 3) (by decide)).trans s3) ((unhide T3).box.keep h.old (unhide T3).box.low)) rfl
      · rintro L fa wx h hcl hL hw2
        exact rl_call (R := fun v _ => v = .bool false) h (by decide) rfl rfl rfl (by decide) rfl (run_call2 (eval_G (show G fa 17 = .agg #[.int .i64 k0, .bool y0, .int .i64 c0, .int .i64 x0, .string t0, .slice l0 n0 p0] from (h.got 0 17 (hw2 ⟨0, .data⟩ (by simp) rfl) rfl))) (eval_G (show G fa 18 = .agg #[.int .i64 k1, .slice a1 n1 c1] from (h.got 1 18 (hw2 ⟨1, .data⟩ (by simp) rfl) rfl))) callHas) (has_ev oa ((unhide T5).keep h.old).mem ((unhide T3).keep h.old).mem false hA) (fun _ _ q => q)
      · rintro L fa wx h hcl hL hw2
        exact rl_val h (by decide) rfl rfl rfl (by decide) rfl (run_mv (eval_G (show G fa 19 = .bool false from (h.got 2 19 (hw2 ⟨2, .data⟩ (by simp) rfl) rfl)))) rfl
      · rintro L fa wx h hcl hL hw2
        exact rl_skip h (by decide) rfl rfl rfl (by decide) ((wanted_is (j := 3) (dj := 20) (b := false) (c := true) rfl rfl (by rw [h.size]; decide) (show G fa 20 = .bool false from (h.got 3 20 (hw2 ⟨3, .guard⟩ (by simp) rfl) rfl))).trans rfl) trivial
      · rintro L fa wx h hcl hL hw2
        exact rl_skip h (by decide) rfl rfl rfl (by decide) ((wanted_is (j := 3) (dj := 20) (b := false) (c := true) rfl rfl (by rw [h.size]; decide) (show G fa 20 = .bool false from (h.got 3 20 (hw2 ⟨3, .guard⟩ (by simp) rfl) rfl))).trans rfl) trivial
      · rintro L fa wx h hcl hL hw2
        exact rl_skip h (by decide) rfl rfl rfl (by decide) ((wanted_is (j := 3) (dj := 20) (b := false) (c := true) rfl rfl (by rw [h.size]; decide) (show G fa 20 = .bool false from (h.got 3 20 (hw2 ⟨3, .guard⟩ (by simp) rfl) rfl))).trans rfl) trivial
      · rintro L fa wx h hcl hL hw2
        exact rl_skip h (by decide) rfl rfl rfl (by decide) ((wanted_is (j := 3) (dj := 20) (b := false) (c := true) rfl rfl (by rw [h.size]; decide) (show G fa 20 = .bool false from (h.got 3 20 (hw2 ⟨3, .guard⟩ (by simp) rfl) rfl))).trans rfl) trivial
      · rintro L fa wx h hcl hL hw2
        exact rl_skip h (by decide) rfl rfl rfl (by decide) ((wanted_is (j := 3) (dj := 20) (b := false) (c := true) rfl rfl (by rw [h.size]; decide) (show G fa 20 = .bool false from (h.got 3 20 (hw2 ⟨3, .guard⟩ (by simp) rfl) rfl))).trans rfl) trivial
      · rintro L fa wx h hcl hL hw2
        exact rl_skip h (by decide) rfl rfl rfl (by decide) ((wanted_is (j := 3) (dj := 20) (b := false) (c := true) rfl rfl (by rw [h.size]; decide) (show G fa 20 = .bool false from (h.got 3 20 (hw2 ⟨3, .guard⟩ (by simp) rfl) rfl))).trans rfl) trivial
      · rintro L fa wx h hcl hL hw2
        exact rl_val h (by decide) rfl rfl rfl (by decide) rfl (run_pickF (eval_G (show G fa 20 = .bool false from (h.got 3 20 (hw2 ⟨3, .data⟩ (by simp) rfl) rfl))) rfl) rfl
    case done =>
      rintro L f1 w3 h hall
      have q27 : G f1 27 = .bool false := h.got 10 27 (hall 10 (by simp)) rfl
      replace s3 := (h.keep (s := 3) (by decide)).trans s3
      replace s4 := (h.keep (s := 4) (by decide)).trans s4
      replace s5 := (h.keep (s := 5) (by decide)).trans s5
      have hb := h.old
      replace T3 := hide ((unhide T3).keep hb)
      replace T4 := hide ((unhide T4).keep hb)
      replace T5 := hide ((unhide T5).keep hb)
      have B4 := hide (below_via (unhide B3) hb)
      clear B3
      replace hsz := h.size
      replace hdf := h.defs
      clear h hall hb
      obtain ⟨u0, u1, u2, u3, u4, u5, u6, u7, u8, u9, u10, u11, u12, u13, u14, u15, u16, u17, u18, u19, u20, u21, u22, u23, u24, u25, u26, u27, u28, u29, u30, u31, u32, u33, u34, u35, u36, u37, u38, u39, u40, u41, u42, rfl, q3, q4, q5, q27'⟩ := frame_ex43 hsz hdf
      rw [s3] at q3
      rw [s4] at q4
      rw [s5] at q5
      rw [q27] at q27'
      subst q3 q4 q5 q27'
      clear s3 s4 s5 q27 hsz hdf
      by_cases hab : a.Fits b
      · skip
        have xT30 := (unhide T3).box.at0
        have xT31 := (unhide T3).box.at1
        have xT40 := (unhide T4).box.at0
        have xT41 := (unhide T4).box.at1
        obtain ⟨x50, x51, x52, x53, x54, x55⟩ := (unhide T5).box.tell
        go_wp2_with fail
        refine (fits_ok oa ob (unhide T3).mem (unhide T4).mem true (decide_eq_true (hab))).mono ?_
        rintro e v0 ⟨rfl, hb⟩
        clear xT30 xT31 xT40 xT41 x50 x51 x52 x53 x54 x55
        replace T3 := hide ((unhide T3).keep hb)
        replace T4 := hide ((unhide T4).keep hb)
        replace T5 := hide ((unhide T5).keep hb)
        have C0 := hide (below_via (unhide B4) hb)
        clear hb B4
        have xT30 := (unhide T3).box.at0
        have xT31 := (unhide T3).box.at1
        have xT40 := (unhide T4).box.at0
        have xT41 := (unhide T4).box.at1
        obtain ⟨x50, x51, x52, x53, x54, x55⟩ := (unhide T5).box.tell
        go_wp2_with fail
        refine (has_ok oa (unhide T5).mem (unhide T3).mem false hA).mono ?_
        rintro e v1 ⟨rfl, hb⟩
        clear xT30 xT31 xT40 xT41 x50 x51 x52 x53 x54 x55
        replace T3 := hide ((unhide T3).keep hb)
        replace T4 := hide ((unhide T4).keep hb)
        replace T5 := hide ((unhide T5).keep hb)
        have C1 := hide (below_via (unhide C0) hb)
        clear hb C0
        go_wp2
        go_ret
        exact ⟨rfl, unhide C1⟩
      · skip
        have xT30 := (unhide T3).box.at0
        have xT31 := (unhide T3).box.at1
        have xT40 := (unhide T4).box.at0
        have xT41 := (unhide T4).box.at1
        obtain ⟨x50, x51, x52, x53, x54, x55⟩ := (unhide T5).box.tell
        go_wp2_with fail
        refine (fits_ok oa ob (unhide T3).mem (unhide T4).mem false (decide_eq_false (hab))).mono ?_
        rintro e v0 ⟨rfl, hb⟩
        clear xT30 xT31 xT40 xT41 x50 x51 x52 x53 x54 x55
        replace T3 := hide ((unhide T3).keep hb)
        replace T4 := hide ((unhide T4).keep hb)
        replace T5 := hide ((unhide T5).keep hb)
        have C0 := hide (below_via (unhide B4) hb)
        clear hb B4
        go_wp2
        go_ret
        exact ⟨rfl, unhide C0⟩
end Go.Proofs.YtjgonkcfnfgakaaGreatDoor
