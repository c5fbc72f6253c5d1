/- Walks: ratios: Add, Sub (written by gen_bz5.py). -/
import Derived.Test.YtibkemolmpcdcaaGreatDoorG09
import Derived.Test.YtibkemolmpcdcaaGreatDoorG02
namespace Go.Proofs.YtibkemolmpcdcaaGreatDoor
open Go.RowKit

theorem fr33 {a : Act} (hs : a.tmps.size = 33) (hd : a.defers = []) : a = { tmps := #[G a 0, G a 1, G a 2, G a 3, G a 4, G a 5, G a 6, G a 7, G a 8, G a 9, G a 10, G a 11, G a 12, G a 13, G a 14, G a 15, G a 16, G a 17, G a 18, G a 19, G a 20, G a 21, G a 22, G a 23, G a 24, G a 25, G a 26, G a 27, G a 28, G a 29, G a 30, G a 31, G a 32], defers := [] } := frame_is hs hd

set_option maxRecDepth 100000 in
set_option maxHeartbeats 4000000 in
theorem radd_any (p px py : Nat) (N1 D1 N2 D2 : Int) (w : World) (hz : ZA w p 2) (hx : RV w px N1 D1) (hy : RV w py N2 D2) (d1 : D1 ≠ 0) (d2 : D2 ≠ 0) (lx : Ln N1 ≤ 20000) (kx : Ln D1 ≤ 20000) (ly : Ln N2 ≤ 20000) (ky : Ln D2 ≤ 20000) :
    Calls Tryz.prog 15 #[.pointer (some ⟨p, 0, none⟩), .pointer (some ⟨px, 0, none⟩), .pointer (some ⟨py, 0, none⟩)] w fun e w' => e = .returned (.pointer (some ⟨p, 0, none⟩)) ∧ RV w' p (N1 * D2 + (N2 * D1)) (D1 * D2) ∧ Blk p w w' := by
  obtain ⟨n1, m1, qx, e1, g1⟩ := hx
  obtain ⟨n2, m2, qy, e2, g2⟩ := hy
  have r1 := Ln_mono (ratio_le d1 e1 g1)
  have r2 := Ln_mono (ratio_le d2 e2 g2)
  have r3 := Ln_mono g1
  have r4 := Ln_mono g2
  have p1 := qx.pos
  have p2 := qy.pos
  have DX := hide (den_make qx)
  have DY := hide (den_make qy)
  have t1 := Ln_mul n1 m2
  have t2 := Ln_mul n2 m1
  have t3 := Ln_mul m1 m2
  have t4 := Ln_add (n1 * m2) ((n2 * m1))
  have t5 := Ln_neg (n2 * m1)
  have SF := hide (frac_last (A := n1 * m2 + (n2 * m1)) (B := m1 * m2) (N := N1 * D2 + (N2 * D1)) (D := D1 * D2) hz (Int.mul_ne_zero (by omega) (by omega)) (by omega) (by omega) (by
    have a : n1 * m2 * (D1 * D2) = N1 * D2 * (m1 * m2) := by rw [show n1 * m2 * (D1 * D2) = (n1 * D1) * (m2 * D2) by grind, e1]; grind
    have b : n2 * m1 * (D1 * D2) = N2 * D1 * (m1 * m2) := by rw [show n2 * m1 * (D1 * D2) = (n2 * D2) * (m1 * D1) by grind, e2]; grind
    grind) (abs_mul_le g1 g2))
  have HX := hide qx
  have HY := hide qy
  clear qx qy hz e1 e2 t3 t4 t5
  go_enter Tryz.func15, Tryz.ntmps15
  go_upto_region 1 with fail
  refine frame_intro (fun a => G a 0 = .pointer (some ⟨p, 0, none⟩) ∧ G a 1 = .pointer (some ⟨px, 0, none⟩) ∧ G a 2 = .pointer (some ⟨py, 0, none⟩) ∧ a.tmps.size = 33 ∧ a.defers = []) ⟨rfl, rfl, rfl, rfl, rfl⟩ ?_
  rintro f0 ⟨s0, s1, s2, hsz, hdf⟩
  refine region_any (I := RP w f0 33 [8, 9, 10, 11, 12, 13, 14, 15, 16, 17, 18, 19, 20, 21, 22, 23, 7] 99 (fun _ => True) [.new 0 0, .new 1 0, .lit (.pointer (some ⟨px, 0, none⟩)), .lit (.pointer (some ⟨px, 0, none⟩)), .lit (.pointer (some ⟨px, 0, none⟩)), .lit (.pointer (some ⟨py, 0, none⟩)), .ptr 6 (pI m2), .ptr 1 (pI (n1 * m2)), .new 8 0, .lit (.pointer (some ⟨py, 0, none⟩)), .lit (.pointer (some ⟨py, 0, none⟩)), .lit (.pointer (some ⟨py, 0, none⟩)), .lit (.pointer (some ⟨px, 0, none⟩)), .ptr 13 (pI m1), .ptr 8 (pI (n2 * m1)), .ptr 0 (pI (n1 * m2 + (n2 * m1))), .ptr 0 (pI (n1 * m2 + (n2 * m1)))]) (by kernel_rfl) ?wait ?step ?done ?start
  case wait => exact ⟨by simp, by simp, by simp, by simp, by simp, by simp, by simp, by simp, by simp, by simp, by simp, by simp, by simp, by simp, by simp, by simp, by simp, trivial⟩
  case start => exact RP.start hsz hdf ((Below.refl _ _).drew)
  case step =>
    refine ⟨?_, ?_, ?_, ?_, ?_, ?_, ?_, ?_, ?_, ?_, ?_, ?_, ?_, ?_, ?_, ?_, ?_, trivial⟩
    · rintro L fa wx h hcl hL hw2
      exact rp_new h (by decide) rfl rfl rfl (by decide) (by decide) (h.nogi (by decide)) rfl run_newI ZA.new rfl
    · rintro L fa wx h hcl hL hw2
      exact rp_new h (by decide) rfl rfl rfl (by decide) (by decide) (h.nogi (by decide)) rfl run_newI ZA.new rfl
    · rintro L fa wx h hcl hL hw2
      exact rp_val h (by decide) rfl rfl rfl (by decide) (by decide) rfl (run_mv (eval_G ((h.keep (s := 1) (by decide)).trans s1))) rfl
    · rintro L fa wx h hcl hL hw2
      exact rp_val h (by decide) rfl rfl rfl (by decide) (by decide) rfl (run_nil (eval_G (show G fa 10 = .pointer (some ⟨px, 0, none⟩) from h.lit (hw2 ⟨2, .data⟩ (by simp) rfl) rfl rfl))) rfl
    · rintro L fa wx h hcl hL hw2
      exact rp_val h (by decide) rfl rfl rfl (by decide) (by decide) rfl (run_fldA (eval_G (show G fa 11 = .pointer (some ⟨px, 0, none⟩) from h.lit (hw2 ⟨3, .data⟩ (by simp) rfl) rfl rfl))) rfl
    · rintro L fa wx h hcl hL hw2
      exact rp_val h (by decide) rfl rfl rfl (by decide) (by decide) rfl (run_mv (eval_G ((h.keep (s := 2) (by decide)).trans s2))) rfl
    · rintro L fa wx h hcl hL hw2
      exact rp_make h (by decide) rfl rfl rfl (by decide) (by decide) (h.nogi (by decide)) rfl (run_call1 (eval_G (show G fa 13 = .pointer (some ⟨py, 0, none⟩) from h.lit (hw2 ⟨5, .data⟩ (by simp) rfl) rfl rfl)) callDen) (unhide DY wx (h.old (h.nogi (by decide)))) rfl
    · rintro L fa wx h hcl hL hw2
      obtain ⟨b0, e0, z0, l0⟩ := h.new (h.nogi (by decide)) (hw2 ⟨1, .data⟩ (by simp) rfl) rfl rfl
      obtain ⟨b2, o2, e2, mm2⟩ := h.ptr (h.nogi (by decide)) (hw2 ⟨6, .data⟩ (by simp) rfl) rfl rfl
      exact rp_put h (by decide) rfl rfl rfl (by decide) (by decide) (h.nogi (by decide)) rfl (run_call3 (eval_G e0) (eval_G (show G fa 12 = .pointer (some ⟨px, 0, none⟩) from h.lit (hw2 ⟨4, .data⟩ (by simp) rfl) rfl rfl)) (eval_G e2) callIMul) (hw2 ⟨1, .data⟩ (by simp) rfl) rfl rfl e0 (mul_put z0 ((unhide HX).num.below (h.old (h.nogi (by decide)))) mm2 (by omega) (by omega)) rfl (al_of (bad := [7]) rfl (by
        intro k hk
        simp only [List.mem_cons, List.not_mem_nil, or_false] at hk
        rcases hk with rfl
        · exact hL))
    · rintro L fa wx h hcl hL hw2
      exact rp_new h (by decide) rfl rfl rfl (by decide) (by decide) (h.nogi (by decide)) rfl run_newI ZA.new rfl
    · rintro L fa wx h hcl hL hw2
      exact rp_val h (by decide) rfl rfl rfl (by decide) (by decide) rfl (run_mv (eval_G ((h.keep (s := 2) (by decide)).trans s2))) rfl
    · rintro L fa wx h hcl hL hw2
      exact rp_val h (by decide) rfl rfl rfl (by decide) (by decide) rfl (run_nil (eval_G (show G fa 17 = .pointer (some ⟨py, 0, none⟩) from h.lit (hw2 ⟨9, .data⟩ (by simp) rfl) rfl rfl))) rfl
    · rintro L fa wx h hcl hL hw2
      exact rp_val h (by decide) rfl rfl rfl (by decide) (by decide) rfl (run_fldA (eval_G (show G fa 18 = .pointer (some ⟨py, 0, none⟩) from h.lit (hw2 ⟨10, .data⟩ (by simp) rfl) rfl rfl))) rfl
    · rintro L fa wx h hcl hL hw2
      exact rp_val h (by decide) rfl rfl rfl (by decide) (by decide) rfl (run_mv (eval_G ((h.keep (s := 1) (by decide)).trans s1))) rfl
    · rintro L fa wx h hcl hL hw2
      exact rp_make h (by decide) rfl rfl rfl (by decide) (by decide) (h.nogi (by decide)) rfl (run_call1 (eval_G (show G fa 20 = .pointer (some ⟨px, 0, none⟩) from h.lit (hw2 ⟨12, .data⟩ (by simp) rfl) rfl rfl)) callDen) (unhide DX wx (h.old (h.nogi (by decide)))) rfl
    · rintro L fa wx h hcl hL hw2
      obtain ⟨b0, e0, z0, l0⟩ := h.new (h.nogi (by decide)) (hw2 ⟨8, .data⟩ (by simp) rfl) rfl rfl
      obtain ⟨b2, o2, e2, mm2⟩ := h.ptr (h.nogi (by decide)) (hw2 ⟨13, .data⟩ (by simp) rfl) rfl rfl
      exact rp_put h (by decide) rfl rfl rfl (by decide) (by decide) (h.nogi (by decide)) rfl (run_call3 (eval_G e0) (eval_G (show G fa 19 = .pointer (some ⟨py, 0, none⟩) from h.lit (hw2 ⟨11, .data⟩ (by simp) rfl) rfl rfl)) (eval_G e2) callIMul) (hw2 ⟨8, .data⟩ (by simp) rfl) rfl rfl e0 (mul_put z0 ((unhide HY).num.below (h.old (h.nogi (by decide)))) mm2 (by omega) (by omega)) rfl (al_of (bad := [14]) rfl (by
        intro k hk
        simp only [List.mem_cons, List.not_mem_nil, or_false] at hk
        rcases hk with rfl
        · exact hL))
    · rintro L fa wx h hcl hL hw2
      obtain ⟨b0, e0, z0, l0⟩ := h.new (h.nogi (by decide)) (hw2 ⟨0, .data⟩ (by simp) rfl) rfl rfl
      obtain ⟨b1, o1, e1, mm1⟩ := h.ptr (h.nogi (by decide)) (hw2 ⟨7, .data⟩ (by simp) rfl) rfl rfl
      obtain ⟨b2, o2, e2, mm2⟩ := h.ptr (h.nogi (by decide)) (hw2 ⟨14, .data⟩ (by simp) rfl) rfl rfl
      exact rp_put h (by decide) rfl rfl rfl (by decide) (by decide) (h.nogi (by decide)) rfl (run_call3 (eval_G e0) (eval_G e1) (eval_G e2) callIAdd) (hw2 ⟨0, .data⟩ (by simp) rfl) rfl rfl e0 (add_put z0 mm1 mm2 (by omega) (by omega)) rfl (al_of (bad := [15, 16]) rfl (by
        intro k hk
        simp only [List.mem_cons, List.not_mem_nil, or_false] at hk
        rcases hk with rfl | rfl
        · exact hL
        · exact (Bool.eq_false_iff.2 fun hq => by have hz := (hcl 16 _ rfl hq ⟨15, .data⟩ (by simp) rfl); rw [hL] at hz; cases hz)))
    · rintro L fa wx h hcl hL hw2
      exact rp_copy h (by decide) rfl rfl rfl (by decide) (by decide) (h.nogi (by decide)) rfl (hw2 ⟨15, .data⟩ (by simp) rfl) rfl (run_asg rfl) rfl
  case done =>
    rintro L f1 w3 h hall
    have hno : L 99 = false := h.nogi (by decide)
    obtain ⟨b7, o7, q7, i7⟩ := h.ptr (i := 16) hno (hall 16 (by simp)) rfl rfl
    have q0 := (h.keep (s := 0) (by decide)).trans s0
    have q1 := (h.keep (s := 1) (by decide)).trans s1
    have q2 := (h.keep (s := 2) (by decide)).trans s2
    have HO := hide (h.old hno)
    have HI := hide (show IA w3 b7 o7 (n1 * m2 + (n2 * m1)) from i7)
    rw [fr33 h.size h.defs, q0, q1, q2, q7]
    clear h hall q0 q1 q2 q7 i7 hno
    have N3 := below_new w3 (.cells #[.bool false, .slice none 0 0] 43)
    have hs3 := (unhide HO).size
    have B3 := below_step (unhide HO) N3
    have C1 := hide (unhide DX _ B3)
    have HI3 := hide ((unhide HI).below N3)
    have HB3 := hide B3
    have HZ3 := hide (ZA.new w3)
    clear N3 B3
    go_wp2_with fail
    refine (unhide C1).mono ?_
    rintro e w4 ⟨b4, o4, rfl, i4, -, hb4⟩
    have B4 := below_step (unhide HB3) hb4
    have C2 := hide (unhide DY _ B4)
    have hs4 := hb4.size
    have HI4 := hide ((unhide HI3).below hb4)
    have HB4 := hide B4
    have HZ4 := hide ((unhide HZ3).below hb4)
    have HJ4 := hide (show IA w4 b4 o4 m1 from i4)
    clear hb4 B4 i4
    go_wp2_with fail
    refine (unhide C2).mono ?_
    rintro e w5 ⟨b5, o5, rfl, i5, -, hb5⟩
    have hs5 := hb5.size
    have MM := hide (mul_put ((unhide HZ4).below hb5) ((unhide HJ4).below hb5) (show IA w5 b5 o5 m2 from i5) (by omega) (by omega))
    have HI5 := hide ((unhide HI4).below hb5)
    have HB5 := hide (below_step (unhide HB4) hb5)
    have HZ5 := hide ((unhide HZ4).below hb5)
    clear hb5 i5
    go_wp2_with fail
    refine (unhide MM).mono ?_
    rintro e w6 ⟨rfl, i6, hk6⟩
    have l7 := (unhide HI).place.low
    have B6 : Below w.heap.size w w6 := (unhide HB5).trans (hk6.below hs3 (unhide HB5).size)
    have CF := hide (unhide SF w6 _ _ _ _ B6 ((unhide HI5).blk hk6 (unhide HZ5) (by omega)) (show IA w6 w3.heap.size 0 (m1 * m2) from i6))
    clear i6 hk6 B6
    go_wp2_with fail
    refine (unhide CF).mono ?_
    rintro e w7 ⟨rfl, hr7, hk7⟩
    have HR := hide hr7
    have HK := hide hk7
    clear hr7 hk7
    go_wp2
    go_ret
    exact ⟨rfl, unhide HR, unhide HK⟩

set_option maxRecDepth 100000 in
set_option maxHeartbeats 4000000 in
theorem rsub_any (p px py : Nat) (N1 D1 N2 D2 : Int) (w : World) (hz : ZA w p 2) (hx : RV w px N1 D1) (hy : RV w py N2 D2) (d1 : D1 ≠ 0) (d2 : D2 ≠ 0) (lx : Ln N1 ≤ 20000) (kx : Ln D1 ≤ 20000) (ly : Ln N2 ≤ 20000) (ky : Ln D2 ≤ 20000) :
    Calls Tryz.prog 65 #[.pointer (some ⟨p, 0, none⟩), .pointer (some ⟨px, 0, none⟩), .pointer (some ⟨py, 0, none⟩)] w fun e w' => e = .returned (.pointer (some ⟨p, 0, none⟩)) ∧ RV w' p (N1 * D2 + -(N2 * D1)) (D1 * D2) ∧ Blk p w w' := by
  obtain ⟨n1, m1, qx, e1, g1⟩ := hx
  obtain ⟨n2, m2, qy, e2, g2⟩ := hy
  have r1 := Ln_mono (ratio_le d1 e1 g1)
  have r2 := Ln_mono (ratio_le d2 e2 g2)
  have r3 := Ln_mono g1
  have r4 := Ln_mono g2
  have p1 := qx.pos
  have p2 := qy.pos
  have DX := hide (den_make qx)
  have DY := hide (den_make qy)
  have t1 := Ln_mul n1 m2
  have t2 := Ln_mul n2 m1
  have t3 := Ln_mul m1 m2
  have t4 := Ln_add (n1 * m2) (-(n2 * m1))
  have t5 := Ln_neg (n2 * m1)
  have SF := hide (frac_last (A := n1 * m2 + -(n2 * m1)) (B := m1 * m2) (N := N1 * D2 + -(N2 * D1)) (D := D1 * D2) hz (Int.mul_ne_zero (by omega) (by omega)) (by omega) (by omega) (by
    have a : n1 * m2 * (D1 * D2) = N1 * D2 * (m1 * m2) := by rw [show n1 * m2 * (D1 * D2) = (n1 * D1) * (m2 * D2) by grind, e1]; grind
    have b : n2 * m1 * (D1 * D2) = N2 * D1 * (m1 * m2) := by rw [show n2 * m1 * (D1 * D2) = (n2 * D2) * (m1 * D1) by grind, e2]; grind
    grind) (abs_mul_le g1 g2))
  have HX := hide qx
  have HY := hide qy
  clear qx qy hz e1 e2 t3 t4 t5
  go_enter Tryz.func65, Tryz.ntmps65
  go_upto_region 1 with fail
  refine frame_intro (fun a => G a 0 = .pointer (some ⟨p, 0, none⟩) ∧ G a 1 = .pointer (some ⟨px, 0, none⟩) ∧ G a 2 = .pointer (some ⟨py, 0, none⟩) ∧ a.tmps.size = 33 ∧ a.defers = []) ⟨rfl, rfl, rfl, rfl, rfl⟩ ?_
  rintro f0 ⟨s0, s1, s2, hsz, hdf⟩
  refine region_any (I := RP w f0 33 [8, 9, 10, 11, 12, 13, 14, 15, 16, 17, 18, 19, 20, 21, 22, 23, 7] 99 (fun _ => True) [.new 0 0, .new 1 0, .lit (.pointer (some ⟨px, 0, none⟩)), .lit (.pointer (some ⟨px, 0, none⟩)), .lit (.pointer (some ⟨px, 0, none⟩)), .lit (.pointer (some ⟨py, 0, none⟩)), .ptr 6 (pI m2), .ptr 1 (pI (n1 * m2)), .new 8 0, .lit (.pointer (some ⟨py, 0, none⟩)), .lit (.pointer (some ⟨py, 0, none⟩)), .lit (.pointer (some ⟨py, 0, none⟩)), .lit (.pointer (some ⟨px, 0, none⟩)), .ptr 13 (pI m1), .ptr 8 (pI (n2 * m1)), .ptr 0 (pI (n1 * m2 + -(n2 * m1))), .ptr 0 (pI (n1 * m2 + -(n2 * m1)))]) (by kernel_rfl) ?wait ?step ?done ?start
  case wait => exact ⟨by simp, by simp, by simp, by simp, by simp, by simp, by simp, by simp, by simp, by simp, by simp, by simp, by simp, by simp, by simp, by simp, by simp, trivial⟩
  case start => exact RP.start hsz hdf ((Below.refl _ _).drew)
  case step =>
    refine ⟨?_, ?_, ?_, ?_, ?_, ?_, ?_, ?_, ?_, ?_, ?_, ?_, ?_, ?_, ?_, ?_, ?_, trivial⟩
    · rintro L fa wx h hcl hL hw2
      exact rp_new h (by decide) rfl rfl rfl (by decide) (by decide) (h.nogi (by decide)) rfl run_newI ZA.new rfl
    · rintro L fa wx h hcl hL hw2
      exact rp_new h (by decide) rfl rfl rfl (by decide) (by decide) (h.nogi (by decide)) rfl run_newI ZA.new rfl
    · rintro L fa wx h hcl hL hw2
      exact rp_val h (by decide) rfl rfl rfl (by decide) (by decide) rfl (run_mv (eval_G ((h.keep (s := 1) (by decide)).trans s1))) rfl
    · rintro L fa wx h hcl hL hw2
      exact rp_val h (by decide) rfl rfl rfl (by decide) (by decide) rfl (run_nil (eval_G (show G fa 10 = .pointer (some ⟨px, 0, none⟩) from h.lit (hw2 ⟨2, .data⟩ (by simp) rfl) rfl rfl))) rfl
    · rintro L fa wx h hcl hL hw2
      exact rp_val h (by decide) rfl rfl rfl (by decide) (by decide) rfl (run_fldA (eval_G (show G fa 11 = .pointer (some ⟨px, 0, none⟩) from h.lit (hw2 ⟨3, .data⟩ (by simp) rfl) rfl rfl))) rfl
    · rintro L fa wx h hcl hL hw2
      exact rp_val h (by decide) rfl rfl rfl (by decide) (by decide) rfl (run_mv (eval_G ((h.keep (s := 2) (by decide)).trans s2))) rfl
    · rintro L fa wx h hcl hL hw2
      exact rp_make h (by decide) rfl rfl rfl (by decide) (by decide) (h.nogi (by decide)) rfl (run_call1 (eval_G (show G fa 13 = .pointer (some ⟨py, 0, none⟩) from h.lit (hw2 ⟨5, .data⟩ (by simp) rfl) rfl rfl)) callDen) (unhide DY wx (h.old (h.nogi (by decide)))) rfl
    · rintro L fa wx h hcl hL hw2
      obtain ⟨b0, e0, z0, l0⟩ := h.new (h.nogi (by decide)) (hw2 ⟨1, .data⟩ (by simp) rfl) rfl rfl
      obtain ⟨b2, o2, e2, mm2⟩ := h.ptr (h.nogi (by decide)) (hw2 ⟨6, .data⟩ (by simp) rfl) rfl rfl
      exact rp_put h (by decide) rfl rfl rfl (by decide) (by decide) (h.nogi (by decide)) rfl (run_call3 (eval_G e0) (eval_G (show G fa 12 = .pointer (some ⟨px, 0, none⟩) from h.lit (hw2 ⟨4, .data⟩ (by simp) rfl) rfl rfl)) (eval_G e2) callIMul) (hw2 ⟨1, .data⟩ (by simp) rfl) rfl rfl e0 (mul_put z0 ((unhide HX).num.below (h.old (h.nogi (by decide)))) mm2 (by omega) (by omega)) rfl (al_of (bad := [7]) rfl (by
        intro k hk
        simp only [List.mem_cons, List.not_mem_nil, or_false] at hk
        rcases hk with rfl
        · exact hL))
    · rintro L fa wx h hcl hL hw2
      exact rp_new h (by decide) rfl rfl rfl (by decide) (by decide) (h.nogi (by decide)) rfl run_newI ZA.new rfl
    · rintro L fa wx h hcl hL hw2
      exact rp_val h (by decide) rfl rfl rfl (by decide) (by decide) rfl (run_mv (eval_G ((h.keep (s := 2) (by decide)).trans s2))) rfl
    · rintro L fa wx h hcl hL hw2
      exact rp_val h (by decide) rfl rfl rfl (by decide) (by decide) rfl (run_nil (eval_G (show G fa 17 = .pointer (some ⟨py, 0, none⟩) from h.lit (hw2 ⟨9, .data⟩ (by simp) rfl) rfl rfl))) rfl
    · rintro L fa wx h hcl hL hw2
      exact rp_val h (by decide) rfl rfl rfl (by decide) (by decide) rfl (run_fldA (eval_G (show G fa 18 = .pointer (some ⟨py, 0, none⟩) from h.lit (hw2 ⟨10, .data⟩ (by simp) rfl) rfl rfl))) rfl
    · rintro L fa wx h hcl hL hw2
      exact rp_val h (by decide) rfl rfl rfl (by decide) (by decide) rfl (run_mv (eval_G ((h.keep (s := 1) (by decide)).trans s1))) rfl
    · rintro L fa wx h hcl hL hw2
      exact rp_make h (by decide) rfl rfl rfl (by decide) (by decide) (h.nogi (by decide)) rfl (run_call1 (eval_G (show G fa 20 = .pointer (some ⟨px, 0, none⟩) from h.lit (hw2 ⟨12, .data⟩ (by simp) rfl) rfl rfl)) callDen) (unhide DX wx (h.old (h.nogi (by decide)))) rfl
    · rintro L fa wx h hcl hL hw2
      obtain ⟨b0, e0, z0, l0⟩ := h.new (h.nogi (by decide)) (hw2 ⟨8, .data⟩ (by simp) rfl) rfl rfl
      obtain ⟨b2, o2, e2, mm2⟩ := h.ptr (h.nogi (by decide)) (hw2 ⟨13, .data⟩ (by simp) rfl) rfl rfl
      exact rp_put h (by decide) rfl rfl rfl (by decide) (by decide) (h.nogi (by decide)) rfl (run_call3 (eval_G e0) (eval_G (show G fa 19 = .pointer (some ⟨py, 0, none⟩) from h.lit (hw2 ⟨11, .data⟩ (by simp) rfl) rfl rfl)) (eval_G e2) callIMul) (hw2 ⟨8, .data⟩ (by simp) rfl) rfl rfl e0 (mul_put z0 ((unhide HY).num.below (h.old (h.nogi (by decide)))) mm2 (by omega) (by omega)) rfl (al_of (bad := [14]) rfl (by
        intro k hk
        simp only [List.mem_cons, List.not_mem_nil, or_false] at hk
        rcases hk with rfl
        · exact hL))
    · rintro L fa wx h hcl hL hw2
      obtain ⟨b0, e0, z0, l0⟩ := h.new (h.nogi (by decide)) (hw2 ⟨0, .data⟩ (by simp) rfl) rfl rfl
      obtain ⟨b1, o1, e1, mm1⟩ := h.ptr (h.nogi (by decide)) (hw2 ⟨7, .data⟩ (by simp) rfl) rfl rfl
      obtain ⟨b2, o2, e2, mm2⟩ := h.ptr (h.nogi (by decide)) (hw2 ⟨14, .data⟩ (by simp) rfl) rfl rfl
      exact rp_put h (by decide) rfl rfl rfl (by decide) (by decide) (h.nogi (by decide)) rfl (run_call3 (eval_G e0) (eval_G e1) (eval_G e2) callISub) (hw2 ⟨0, .data⟩ (by simp) rfl) rfl rfl e0 (sub_put z0 mm1 mm2 (by omega) (by omega)) rfl (al_of (bad := [15, 16]) rfl (by
        intro k hk
        simp only [List.mem_cons, List.not_mem_nil, or_false] at hk
        rcases hk with rfl | rfl
        · exact hL
        · exact (Bool.eq_false_iff.2 fun hq => by have hz := (hcl 16 _ rfl hq ⟨15, .data⟩ (by simp) rfl); rw [hL] at hz; cases hz)))
    · rintro L fa wx h hcl hL hw2
      exact rp_copy h (by decide) rfl rfl rfl (by decide) (by decide) (h.nogi (by decide)) rfl (hw2 ⟨15, .data⟩ (by simp) rfl) rfl (run_asg rfl) rfl
  case done =>
    rintro L f1 w3 h hall
    have hno : L 99 = false := h.nogi (by decide)
    obtain ⟨b7, o7, q7, i7⟩ := h.ptr (i := 16) hno (hall 16 (by simp)) rfl rfl
    have q0 := (h.keep (s := 0) (by decide)).trans s0
    have q1 := (h.keep (s := 1) (by decide)).trans s1
    have q2 := (h.keep (s := 2) (by decide)).trans s2
    have HO := hide (h.old hno)
    have HI := hide (show IA w3 b7 o7 (n1 * m2 + -(n2 * m1)) from i7)
    rw [fr33 h.size h.defs, q0, q1, q2, q7]
    clear h hall q0 q1 q2 q7 i7 hno
    have N3 := below_new w3 (.cells #[.bool false, .slice none 0 0] 43)
    have hs3 := (unhide HO).size
    have B3 := below_step (unhide HO) N3
    have C1 := hide (unhide DX _ B3)
    have HI3 := hide ((unhide HI).below N3)
    have HB3 := hide B3
    have HZ3 := hide (ZA.new w3)
    clear N3 B3
    go_wp2_with fail
    refine (unhide C1).mono ?_
    rintro e w4 ⟨b4, o4, rfl, i4, -, hb4⟩
    have B4 := below_step (unhide HB3) hb4
    have C2 := hide (unhide DY _ B4)
    have hs4 := hb4.size
    have HI4 := hide ((unhide HI3).below hb4)
    have HB4 := hide B4
    have HZ4 := hide ((unhide HZ3).below hb4)
    have HJ4 := hide (show IA w4 b4 o4 m1 from i4)
    clear hb4 B4 i4
    go_wp2_with fail
    refine (unhide C2).mono ?_
    rintro e w5 ⟨b5, o5, rfl, i5, -, hb5⟩
    have hs5 := hb5.size
    have MM := hide (mul_put ((unhide HZ4).below hb5) ((unhide HJ4).below hb5) (show IA w5 b5 o5 m2 from i5) (by omega) (by omega))
    have HI5 := hide ((unhide HI4).below hb5)
    have HB5 := hide (below_step (unhide HB4) hb5)
    have HZ5 := hide ((unhide HZ4).below hb5)
    clear hb5 i5
    go_wp2_with fail
    refine (unhide MM).mono ?_
    rintro e w6 ⟨rfl, i6, hk6⟩
    have l7 := (unhide HI).place.low
    have B6 : Below w.heap.size w w6 := (unhide HB5).trans (hk6.below hs3 (unhide HB5).size)
    have CF := hide (unhide SF w6 _ _ _ _ B6 ((unhide HI5).blk hk6 (unhide HZ5) (by omega)) (show IA w6 w3.heap.size 0 (m1 * m2) from i6))
    clear i6 hk6 B6
    go_wp2_with fail
    refine (unhide CF).mono ?_
    rintro e w7 ⟨rfl, hr7, hk7⟩
    have HR := hide hr7
    have HK := hide hk7
    clear hr7 hk7
    go_wp2
    go_ret
    exact ⟨rfl, unhide HR, unhide HK⟩

end Go.Proofs.YtibkemolmpcdcaaGreatDoor

/- Walks: Abs of whole numbers; ratios: SetInt, SetInt64, NewRat, Num, Denom. -/
namespace Go.Proofs.YtibkemolmpcdcaaGreatDoor
open Go.RowKit

theorem ZA.newR (w : World) : ZA (w.alloc (.cells #[.bool false, .slice none 0 0, .bool false, .slice none 0 0] 45)) w.heap.size 2 :=
  ⟨#[.bool false, .slice none 0 0, .bool false, .slice none 0 0], 45, by show (w.heap.push _)[w.heap.size]? = _; simp, by decide, by simp⟩

set_option maxHeartbeats 2000000 in
theorem rsetInt_any (p bx ox : Nat) (x : Int) (w : World) (hz : ZA w p 2) (hx : IA w bx ox x) (lx : Ln x ≤ 20000) :
    Calls Tryz.prog 63 #[.pointer (some ⟨p, 0, none⟩), .pointer (some ⟨bx, ox, none⟩)] w fun e w' => e = .returned (.pointer (some ⟨p, 0, none⟩)) ∧ RV w' p x 1 ∧ Blk p w w' := by
  have NI := hide (newInt_any 1 w (by omega) (by omega))
  have HX := hide hx
  have SF := hide (frac_last (A := x) (B := 1) (N := x) (D := 1) hz (by omega) (by omega) (Nat.le_trans (Ln_small (by decide)) (by omega)) rfl (Nat.le_refl _))
  clear hx hz
  go_enter Tryz.func63, Tryz.ntmps63
  go_wp2_with fail
  refine (unhide NI).mono ?_
  rintro e w1 ⟨rfl, h1, hb⟩
  have CF := hide (unhide SF w1 _ _ _ _ hb ((unhide HX).below hb) h1)
  clear h1 hb
  go_wp2_with fail
  refine (unhide CF).mono ?_
  rintro e w2 ⟨rfl, hr, hk⟩
  have HR := hide hr
  have HK := hide hk
  clear hr hk
  go_wp2
  go_ret
  exact ⟨rfl, unhide HR, unhide HK⟩

theorem newInt_at (x : Int) (w : World) (n : Nat) (hn : w.heap.size = n) (h1 : -9223372036854775808 ≤ x) (h2 : x ≤ 9223372036854775807) :
    Calls Tryz.prog 33 #[.int .i64 x] w fun e w' => e = .returned (.pointer (some ⟨n, 0, none⟩)) ∧ IA w' n 0 x ∧ Below w.heap.size w w' := by
  subst hn
  exact newInt_any x w h1 h2

set_option maxHeartbeats 2000000 in
theorem newRat_any (a b : Int) (w : World) (a1 : -9223372036854775808 ≤ a) (a2 : a ≤ 9223372036854775807) (b1 : 0 < b) (b2 : b ≤ 9223372036854775807) :
    Calls Tryz.prog 14 #[.int .i64 a, .int .i64 b] w fun e w' => e = .returned (.pointer (some ⟨w.heap.size, 0, none⟩)) ∧ RV w' w.heap.size a b ∧ Below w.heap.size w w' := by
  have N := below_new w (.cells #[.bool false, .slice none 0 0, .bool false, .slice none 0 0] 45)
  have NI := hide (newInt_at a (w.alloc (.cells #[.bool false, .slice none 0 0, .bool false, .slice none 0 0] 45)) (w.heap.size + 1) (by simp) a1 a2)
  have la : Ln a ≤ 2 := Ln_small (by omega)
  have lb : Ln b ≤ 2 := Ln_small (by omega)
  have SF := hide (frac_last (A := a) (B := b) (N := a) (D := b) (ZA.newR w) (by omega) (by omega) (by omega) rfl (Nat.le_refl _))
  have g : (b == 0) = false := by rw [beq_eq_false_iff_ne]; omega
  have HN := hide N
  clear N
  go_enter Tryz.func14, Tryz.ntmps14
  go_wp2_with fail
  refine (unhide NI).mono ?_
  rintro e w1 ⟨rfl, i1, hb⟩
  have N2 := hide (newInt_any b w1 (by omega) b2)
  have HI := hide i1
  have HB := hide hb
  clear i1 hb
  go_wp2_with fail
  refine (unhide N2).mono ?_
  rintro e w2 ⟨rfl, i2, hb2⟩
  have CF := hide (unhide SF w2 _ _ _ _ (below_step (unhide HB) hb2) ((unhide HI).below hb2) i2)
  clear i2 hb2
  go_wp2_with fail
  refine (unhide CF).mono ?_
  rintro e w3 ⟨rfl, hr, hk⟩
  have HR := hide hr
  have HK := hide hk
  clear hr hk
  go_wp2
  go_ret
  exact ⟨rfl, unhide HR, (unhide HN).trans ((unhide HK).below (Nat.le_refl _) (unhide HN).size)⟩

set_option maxHeartbeats 1000000 in
theorem num_any (p : Nat) (w : World) :
    Calls Tryz.prog 89 #[.pointer (some ⟨p, 0, none⟩)] w fun e w' => e = .returned (.pointer (some ⟨p, 0, none⟩)) ∧ w' = w := by
  go_enter Tryz.func89, Tryz.ntmps89
  go_wp2
  go_ret
  exact ⟨rfl, rfl⟩

set_option maxHeartbeats 2000000 in
theorem denom_any (p : Nat) (n d : Int) (w : World) (h : RQ w p n d) (ld : Ln d ≤ 90000) :
    Calls Tryz.prog 90 #[.pointer (some ⟨p, 0, none⟩)] w fun e w' => e = .returned (.pointer (some ⟨w.heap.size, 0, none⟩)) ∧ IA w' w.heap.size 0 d ∧ Below w.heap.size w w' := by
  have N := below_new w (.cells #[.bool false, .slice none 0 0] 43)
  have DQ := hide (den_q p n d _ (h.below N))
  have HN := hide N
  clear h N
  go_enter Tryz.func90, Tryz.ntmps90
  go_wp2_with fail
  refine (unhide DQ).mono ?_
  rintro e w1 ⟨b, o, rfl, hi, -, hb⟩
  have ST := hide (iset_any w.heap.size 0 b o d w1 ((ZA.new w).below hb) hi (by unfold Ln at ld; omega))
  have HB := hide hb
  clear hi hb
  go_wp2_with fail
  refine (unhide ST).mono ?_
  rintro e w2 ⟨rfl, hi, ho⟩
  have HI := hide hi
  have HO := hide ho
  clear hi ho
  go_wp2
  go_ret
  have B1 := below_step (unhide HN) (unhide HB)
  exact ⟨rfl, unhide HI, B1.trans ((unhide HO).below (Nat.le_refl _) B1.size)⟩

/-- two that stand in the same ratio compare alike -/
theorem icmp_cross {x y X Y K M : Int} (hK : 0 < K) (hM : 0 < M) (ex : x * K = X * M) (ey : y * K = Y * M) : icmp x y = icmp X Y := by
  unfold icmp
  rcases Int.lt_trichotomy x y with h | h | h
  · have h1 : X * M < Y * M := by rw [← ex, ← ey]; exact Int.mul_lt_mul_of_pos_right h hK
    have h2 : X < Y := Int.lt_of_mul_lt_mul_right h1 (by omega)
    rw [if_pos h, if_pos h2]
  · have h1 : X * M = Y * M := by rw [← ex, ← ey, h]
    have h2 : X = Y := Int.eq_of_mul_eq_mul_right (by omega) h1
    rw [if_neg (by omega), if_pos h, if_neg (by omega), if_pos h2]
  · have h1 : Y * M < X * M := by rw [← ex, ← ey]; exact Int.mul_lt_mul_of_pos_right h hK
    have h2 : Y < X := Int.lt_of_mul_lt_mul_right h1 (by omega)
    rw [if_neg (by omega), if_neg (by omega), if_neg (by omega), if_neg (by omega)]
theorem icmp_zero {x y : Int} : icmp x y = 0 ↔ x = y := by
  unfold icmp
  split
  · constructor
    · intro h; omega
    · intro h; omega
  · split
    · rename_i h; simp [h]
    · rename_i h; constructor
      · intro g; omega
      · intro g; exact absurd g h
end Go.Proofs.YtibkemolmpcdcaaGreatDoor

/- Walks: ratios: Neg, Abs, Cmp (written by gen_bz8.py). -/
namespace Go.Proofs.YtibkemolmpcdcaaGreatDoor
open Go.RowKit

theorem callINeg (zs : Array Value) (w : World) : Sem.run Tryz.prog (callFunc 36 zs) w = .ok (.enter 36 zs) w := by simp [go_sem]

theorem callICmp (zs : Array Value) (w : World) : Sem.run Tryz.prog (callFunc 92 zs) w = .ok (.enter 92 zs) w := by simp [go_sem]

theorem abs_ratio {n d N D : Int} (hD : 0 < D) (hd : 0 < d) (e : n * D = N * d) : (n.natAbs : Int) * D = (N.natAbs : Int) * d := by
  have : n.natAbs * D.natAbs = N.natAbs * d.natAbs := by rw [← Int.natAbs_mul, ← Int.natAbs_mul, e]
  have h : ((n.natAbs * D.natAbs : Nat) : Int) = ((N.natAbs * d.natAbs : Nat) : Int) := by rw [this]
  rw [Int.natCast_mul, Int.natCast_mul] at h
  rwa [show ((D.natAbs : Nat) : Int) = D by omega, show ((d.natAbs : Nat) : Int) = d by omega] at h

theorem fr16 {a : Act} (hs : a.tmps.size = 16) (hd : a.defers = []) : a = { tmps := #[G a 0, G a 1, G a 2, G a 3, G a 4, G a 5, G a 6, G a 7, G a 8, G a 9, G a 10, G a 11, G a 12, G a 13, G a 14, G a 15], defers := [] } := frame_is hs hd

set_option maxRecDepth 100000 in
set_option maxHeartbeats 4000000 in
theorem rneg_any (p px : Nat) (N1 D1 : Int) (w : World) (hz : ZA w p 2) (hx : RV w px N1 D1) (d1 : D1 ≠ 0) (lx : Ln N1 ≤ 20000) (kx : Ln D1 ≤ 20000) :
    Calls Tryz.prog 17 #[.pointer (some ⟨p, 0, none⟩), .pointer (some ⟨px, 0, none⟩)] w fun e w' => e = .returned (.pointer (some ⟨p, 0, none⟩)) ∧ RV w' p (-N1) D1 ∧ Blk p w w' := by
  have RS := hide (rset_any p px N1 D1 w hz hx (by omega) lx kx)
  clear hz hx
  go_enter Tryz.func17, Tryz.ntmps17
  go_wp2_with fail
  refine (unhide RS).mono ?_
  rintro e w1 ⟨rfl, hr, hk⟩
  obtain ⟨n, d, q, e1, g1⟩ := hr
  have ln : Ln n ≤ Ln N1 := Ln_mono (ratio_le (by omega) e1 g1)
  have hpos := q.pos
  have NG : Hid (∀ wx, Below w1.heap.size w1 wx → Calls Tryz.prog 36 #[.pointer (some ⟨p, 0, none⟩), .pointer (some ⟨p, 0, none⟩)] wx fun e w' => e = .returned (.pointer (some ⟨p, 0, none⟩)) ∧ RQ w' p (-n) d ∧ Blk p w1 w') := hide fun wx hb => by
    have qx := q.below hb
    refine (ineg_any p 0 p 0 n wx qx.num.place qx.num (by unfold Ln at *; omega)).mono ?_
    rintro e w' ⟨rfl, hi, ho⟩
    refine ⟨rfl, ⟨hi, ?_, hpos⟩, (Blk.of hb).trans ho.blk⟩
    rcases qx.den with h | ⟨h, h2⟩
    · exact .inl (h.out ho qx.num.place (.inr (.inr (by omega))))
    · exact .inr ⟨h.out ho qx.num.place (.inr (.inr (by omega))), h2⟩
  have HE := hide e1
  have HG := hide g1
  have HK := hide hk
  clear q e1 g1 hk
  go_upto_region 2 with fail
  refine frame_intro (fun a => G a 0 = .pointer (some ⟨p, 0, none⟩) ∧ a.tmps.size = 16 ∧ a.defers = []) ⟨rfl, rfl, rfl⟩ ?_
  rintro f0 ⟨s0, hsz, hdf⟩
  refine region_any (I := RP w1 f0 16 [8, 9, 10, 11, 12, 13, 14] 6 (fun w' => RQ w' p (-n) d ∧ Blk p w1 w') [.lit (.pointer (some ⟨p, 0, none⟩)), .lit (.pointer (some ⟨p, 0, none⟩)), .lit (.pointer (some ⟨p, 0, none⟩)), .lit (.pointer (some ⟨p, 0, none⟩)), .lit (.pointer (some ⟨p, 0, none⟩)), .lit (.pointer (some ⟨p, 0, none⟩)), .lit (.pointer (some ⟨p, 0, none⟩))]) (by kernel_rfl) ?wait ?step ?done ?start
  case wait => exact ⟨by simp, by simp, by simp, by simp, by simp, by simp, by simp, trivial⟩
  case start => exact RP.start hsz hdf ((Below.refl _ _).drew)
  case step =>
    refine ⟨?_, ?_, ?_, ?_, ?_, ?_, ?_, trivial⟩
    · rintro L fa wx h hcl hL hw2
      exact rp_val h (by decide) rfl rfl rfl (by decide) (by decide) rfl (run_mv (eval_G ((h.keep (s := 0) (by decide)).trans s0))) rfl
    · rintro L fa wx h hcl hL hw2
      exact rp_val h (by decide) rfl rfl rfl (by decide) (by decide) rfl (run_nil (eval_G (show G fa 8 = .pointer (some ⟨p, 0, none⟩) from h.lit (hw2 ⟨0, .data⟩ (by simp) rfl) rfl rfl))) rfl
    · rintro L fa wx h hcl hL hw2
      exact rp_val h (by decide) rfl rfl rfl (by decide) (by decide) rfl (run_fldA (eval_G (show G fa 9 = .pointer (some ⟨p, 0, none⟩) from h.lit (hw2 ⟨1, .data⟩ (by simp) rfl) rfl rfl))) rfl
    · rintro L fa wx h hcl hL hw2
      exact rp_val h (by decide) rfl rfl rfl (by decide) (by decide) rfl (run_mv (eval_G ((h.keep (s := 0) (by decide)).trans s0))) rfl
    · rintro L fa wx h hcl hL hw2
      exact rp_val h (by decide) rfl rfl rfl (by decide) (by decide) rfl (run_nil (eval_G (show G fa 11 = .pointer (some ⟨p, 0, none⟩) from h.lit (hw2 ⟨3, .data⟩ (by simp) rfl) rfl rfl))) rfl
    · rintro L fa wx h hcl hL hw2
      exact rp_val h (by decide) rfl rfl rfl (by decide) (by decide) rfl (run_fldA (eval_G (show G fa 12 = .pointer (some ⟨p, 0, none⟩) from h.lit (hw2 ⟨4, .data⟩ (by simp) rfl) rfl rfl))) rfl
    · rintro L fa wx h hcl hL hw2
      exact rp_last h (by decide) rfl rfl rfl (by decide) hL rfl (run_call2 (eval_G (show G fa 10 = .pointer (some ⟨p, 0, none⟩) from h.lit (hw2 ⟨2, .data⟩ (by simp) rfl) rfl rfl)) (eval_G (show G fa 13 = .pointer (some ⟨p, 0, none⟩) from h.lit (hw2 ⟨5, .data⟩ (by simp) rfl) rfl rfl)) callINeg) (unhide NG wx (h.old hL)) rfl
  case done =>
    rintro L f1 w3 h hall
    have q0 := (h.keep (s := 0) (by decide)).trans s0
    have HF := hide (h.fin (hall 6 (by simp)))
    rw [fr16 h.size h.defs, q0]
    clear h hall q0
    go_wp2
    go_ret
    exact ⟨rfl, ⟨-n, d, (unhide HF).1, by rw [Int.neg_mul, Int.neg_mul, unhide HE], unhide HG⟩, (unhide HK).trans (unhide HF).2⟩

set_option maxRecDepth 100000 in
set_option maxHeartbeats 4000000 in
theorem rcmp_any (px py : Nat) (N1 D1 N2 D2 : Int) (w : World) (hx : RV w px N1 D1) (hy : RV w py N2 D2) (d1 : 0 < D1) (d2 : 0 < D2) (lx : Ln N1 ≤ 20000) (kx : Ln D1 ≤ 20000) (ly : Ln N2 ≤ 20000) (ky : Ln D2 ≤ 20000) :
    Calls Tryz.prog 66 #[.pointer (some ⟨px, 0, none⟩), .pointer (some ⟨py, 0, none⟩)] w fun e w' => e = .returned (.int .i64 (icmp (N1 * D2) (N2 * D1))) ∧ Below w.heap.size w w' := by
  obtain ⟨n1, m1, qx, e1, g1⟩ := hx
  obtain ⟨n2, m2, qy, e2, g2⟩ := hy
  have r1 := Ln_mono (ratio_le (by omega) e1 g1)
  have r2 := Ln_mono (ratio_le (by omega) e2 g2)
  have r3 := Ln_mono g1
  have r4 := Ln_mono g2
  have p1 := qx.pos
  have p2 := qy.pos
  have key : Hid (icmp (n1 * m2) (n2 * m1) = icmp (N1 * D2) (N2 * D1)) := hide (icmp_cross (K := D1 * D2) (M := m1 * m2) (Int.mul_pos d1 d2) (Int.mul_pos p1 p2) (by rw [show n1 * m2 * (D1 * D2) = (n1 * D1) * (m2 * D2) by grind, e1]; grind) (by rw [show n2 * m1 * (D1 * D2) = (n2 * D2) * (m1 * D1) by grind, e2]; grind))
  have C1 := hide (den_q px n1 m1 w qx)
  have HX := hide qx
  have HY := hide qy
  clear qx qy e1 e2
  go_enter Tryz.func66, Tryz.ntmps66
  go_wp2_with fail
  refine (unhide C1).mono ?_
  rintro e w1 ⟨b1, o1, rfl, i1, -, hb1⟩
  have C2 := hide (den_q py n2 m2 w1 ((unhide HY).below hb1))
  have HI1 := hide i1
  have HB1 := hide hb1
  clear i1 hb1
  go_wp2_with fail
  refine (unhide C2).mono ?_
  rintro e w2 ⟨b2, o2, rfl, i2, -, hb2⟩
  have CC := hide (icmp_any b1 o1 b2 o2 m1 m2 w2 ((unhide HI1).below hb2) i2)
  have HB2 := hide (below_step (unhide HB1) hb2)
  clear i2 hb2
  go_wp2_with fail
  refine (unhide CC).mono ?_
  rintro e w3 ⟨rfl, hb3⟩
  have B3 := below_step (unhide HB2) hb3
  have HX3 := hide ((unhide HX).below B3)
  have HY3 := hide ((unhide HY).below B3)
  have HB3 := hide B3
  have DX3 := hide (den_make (unhide HX3))
  have DY3 := hide (den_make (unhide HY3))
  have t1 := Ln_mul n1 m2
  have t2 := Ln_mul n2 m1
  clear hb3 B3
  by_cases hm : m1 = m2
  · have g : (icmp m1 m2 == 0) = true := by rw [beq_iff_eq]; exact icmp_zero.2 hm
    have k2 : Hid (icmp n1 n2 = icmp (n1 * m2) (n2 * m1)) := hide (by subst hm; exact icmp_cross (K := m1) (M := 1) p1 (by omega) (by rw [Int.mul_one]) (by rw [Int.mul_one]))
    clear hm
    go_upto_region 2 with fail
    refine frame_intro (fun a => G a 0 = .pointer (some ⟨px, 0, none⟩) ∧ G a 1 = .pointer (some ⟨py, 0, none⟩) ∧ a.tmps.size = 33 ∧ a.defers = []) ⟨rfl, rfl, rfl, rfl⟩ ?_
    rintro f0 ⟨s0, s1, hsz, hdf⟩
    refine region_any (I := RP w3 f0 33 [11, 12, 13, 14, 15, 16, 17, 4] 99 (fun _ => True) [.lit (.pointer (some ⟨px, 0, none⟩)), .lit (.pointer (some ⟨px, 0, none⟩)), .lit (.pointer (some ⟨px, 0, none⟩)), .lit (.pointer (some ⟨py, 0, none⟩)), .lit (.pointer (some ⟨py, 0, none⟩)), .lit (.pointer (some ⟨py, 0, none⟩)), .lit (.int .i64 (icmp n1 n2)), .lit (.int .i64 (icmp n1 n2))]) (by kernel_rfl) ?wait ?step ?done ?start
    case wait => exact ⟨by simp, by simp, by simp, by simp, by simp, by simp, by simp, by simp, trivial⟩
    case start => exact RP.start hsz hdf ((Below.refl _ _).drew)
    case step =>
      refine ⟨?_, ?_, ?_, ?_, ?_, ?_, ?_, ?_, trivial⟩
      · rintro L fa wx h hcl hL hw2
        exact rp_val h (by decide) rfl rfl rfl (by decide) (by decide) rfl (run_mv (eval_G ((h.keep (s := 0) (by decide)).trans s0))) rfl
      · rintro L fa wx h hcl hL hw2
        exact rp_val h (by decide) rfl rfl rfl (by decide) (by decide) rfl (run_nil (eval_G (show G fa 11 = .pointer (some ⟨px, 0, none⟩) from h.lit (hw2 ⟨0, .data⟩ (by simp) rfl) rfl rfl))) rfl
      · rintro L fa wx h hcl hL hw2
        exact rp_val h (by decide) rfl rfl rfl (by decide) (by decide) rfl (run_fldA (eval_G (show G fa 12 = .pointer (some ⟨px, 0, none⟩) from h.lit (hw2 ⟨1, .data⟩ (by simp) rfl) rfl rfl))) rfl
      · rintro L fa wx h hcl hL hw2
        exact rp_val h (by decide) rfl rfl rfl (by decide) (by decide) rfl (run_mv (eval_G ((h.keep (s := 1) (by decide)).trans s1))) rfl
      · rintro L fa wx h hcl hL hw2
        exact rp_val h (by decide) rfl rfl rfl (by decide) (by decide) rfl (run_nil (eval_G (show G fa 14 = .pointer (some ⟨py, 0, none⟩) from h.lit (hw2 ⟨3, .data⟩ (by simp) rfl) rfl rfl))) rfl
      · rintro L fa wx h hcl hL hw2
        exact rp_val h (by decide) rfl rfl rfl (by decide) (by decide) rfl (run_fldA (eval_G (show G fa 15 = .pointer (some ⟨py, 0, none⟩) from h.lit (hw2 ⟨4, .data⟩ (by simp) rfl) rfl rfl))) rfl
      · rintro L fa wx h hcl hL hw2
        exact rp_read h (by decide) rfl rfl rfl (by decide) (by decide) (h.nogi (by decide)) rfl (run_call2 (eval_G (show G fa 13 = .pointer (some ⟨px, 0, none⟩) from h.lit (hw2 ⟨2, .data⟩ (by simp) rfl) rfl rfl)) (eval_G (show G fa 16 = .pointer (some ⟨py, 0, none⟩) from h.lit (hw2 ⟨5, .data⟩ (by simp) rfl) rfl rfl)) callICmp) (icmp_any _ _ _ _ n1 n2 wx ((unhide HX3).num.below (h.old (h.nogi (by decide)))) ((unhide HY3).num.below (h.old (h.nogi (by decide))))) rfl
      · rintro L fa wx h hcl hL hw2
        exact rp_val h (by decide) rfl rfl rfl (by decide) (by decide) rfl (run_asg (eval_G (show G fa 17 = .int .i64 (icmp n1 n2) from h.lit (hw2 ⟨6, .data⟩ (by simp) rfl) rfl rfl))) rfl
    case done =>
      rintro L f1 w4 h hall
      have q4 : G f1 4 = .int .i64 (icmp n1 n2) := h.lit (i := 7) (hall 7 (by simp)) rfl rfl
      have HO := hide (h.old (h.nogi (by decide)))
      rw [fr33 h.size h.defs, q4]
      clear h hall q4
      go_wp2
      go_ret
      exact ⟨congrArg (fun z => Ending.returned (Value.int .i64 z)) ((unhide k2).trans (unhide key)), below_step (unhide HB3) (unhide HO)⟩
  · have g : (icmp m1 m2 == 0) = false := by rw [beq_eq_false_iff_ne]; exact fun h => hm (icmp_zero.1 h)
    clear hm
    go_upto_region 3 with fail
    refine frame_intro (fun a => G a 0 = .pointer (some ⟨px, 0, none⟩) ∧ G a 1 = .pointer (some ⟨py, 0, none⟩) ∧ a.tmps.size = 33 ∧ a.defers = []) ⟨rfl, rfl, rfl, rfl⟩ ?_
    rintro f0 ⟨s0, s1, hsz, hdf⟩
    refine region_any (I := RP w3 f0 33 [18, 19, 20, 21, 22, 23, 24, 25, 26, 27, 28, 29, 30, 31, 32, 4] 99 (fun _ => True) [.new 0 0, .lit (.pointer (some ⟨px, 0, none⟩)), .lit (.pointer (some ⟨px, 0, none⟩)), .lit (.pointer (some ⟨px, 0, none⟩)), .lit (.pointer (some ⟨py, 0, none⟩)), .ptr 5 (pI m2), .ptr 0 (pI (n1 * m2)), .new 7 0, .lit (.pointer (some ⟨py, 0, none⟩)), .lit (.pointer (some ⟨py, 0, none⟩)), .lit (.pointer (some ⟨py, 0, none⟩)), .lit (.pointer (some ⟨px, 0, none⟩)), .ptr 12 (pI m1), .ptr 7 (pI (n2 * m1)), .lit (.int .i64 (icmp (n1 * m2) (n2 * m1))), .lit (.int .i64 (icmp (n1 * m2) (n2 * m1)))]) (by kernel_rfl) ?wait ?step ?done ?start
    case wait => exact ⟨by simp, by simp, by simp, by simp, by simp, by simp, by simp, by simp, by simp, by simp, by simp, by simp, by simp, by simp, by simp, by simp, trivial⟩
    case start => exact RP.start hsz hdf ((Below.refl _ _).drew)
    case step =>
      refine ⟨?_, ?_, ?_, ?_, ?_, ?_, ?_, ?_, ?_, ?_, ?_, ?_, ?_, ?_, ?_, ?_, trivial⟩
      · rintro L fa wx h hcl hL hw2
        exact rp_new h (by decide) rfl rfl rfl (by decide) (by decide) (h.nogi (by decide)) rfl run_newI ZA.new rfl
      · rintro L fa wx h hcl hL hw2
        exact rp_val h (by decide) rfl rfl rfl (by decide) (by decide) rfl (run_mv (eval_G ((h.keep (s := 0) (by decide)).trans s0))) rfl
      · rintro L fa wx h hcl hL hw2
        exact rp_val h (by decide) rfl rfl rfl (by decide) (by decide) rfl (run_nil (eval_G (show G fa 19 = .pointer (some ⟨px, 0, none⟩) from h.lit (hw2 ⟨1, .data⟩ (by simp) rfl) rfl rfl))) rfl
      · rintro L fa wx h hcl hL hw2
        exact rp_val h (by decide) rfl rfl rfl (by decide) (by decide) rfl (run_fldA (eval_G (show G fa 20 = .pointer (some ⟨px, 0, none⟩) from h.lit (hw2 ⟨2, .data⟩ (by simp) rfl) rfl rfl))) rfl
      · rintro L fa wx h hcl hL hw2
        exact rp_val h (by decide) rfl rfl rfl (by decide) (by decide) rfl (run_mv (eval_G ((h.keep (s := 1) (by decide)).trans s1))) rfl
      · rintro L fa wx h hcl hL hw2
        exact rp_make h (by decide) rfl rfl rfl (by decide) (by decide) (h.nogi (by decide)) rfl (run_call1 (eval_G (show G fa 22 = .pointer (some ⟨py, 0, none⟩) from h.lit (hw2 ⟨4, .data⟩ (by simp) rfl) rfl rfl)) callDen) (unhide DY3 wx (h.old (h.nogi (by decide)))) rfl
      · rintro L fa wx h hcl hL hw2
        obtain ⟨b0, e0, z0, l0⟩ := h.new (h.nogi (by decide)) (hw2 ⟨0, .data⟩ (by simp) rfl) rfl rfl
        obtain ⟨b2, o2, e2, mm2⟩ := h.ptr (h.nogi (by decide)) (hw2 ⟨5, .data⟩ (by simp) rfl) rfl rfl
        exact rp_put h (by decide) rfl rfl rfl (by decide) (by decide) (h.nogi (by decide)) rfl (run_call3 (eval_G e0) (eval_G (show G fa 21 = .pointer (some ⟨px, 0, none⟩) from h.lit (hw2 ⟨3, .data⟩ (by simp) rfl) rfl rfl)) (eval_G e2) callIMul) (hw2 ⟨0, .data⟩ (by simp) rfl) rfl rfl e0 (mul_put z0 ((unhide HX3).num.below (h.old (h.nogi (by decide)))) mm2 (by omega) (by omega)) rfl (al_of (bad := [6]) rfl (by
        intro k hk
        simp only [List.mem_cons, List.not_mem_nil, or_false] at hk
        rcases hk with rfl
        · exact hL))
      · rintro L fa wx h hcl hL hw2
        exact rp_new h (by decide) rfl rfl rfl (by decide) (by decide) (h.nogi (by decide)) rfl run_newI ZA.new rfl
      · rintro L fa wx h hcl hL hw2
        exact rp_val h (by decide) rfl rfl rfl (by decide) (by decide) rfl (run_mv (eval_G ((h.keep (s := 1) (by decide)).trans s1))) rfl
      · rintro L fa wx h hcl hL hw2
        exact rp_val h (by decide) rfl rfl rfl (by decide) (by decide) rfl (run_nil (eval_G (show G fa 26 = .pointer (some ⟨py, 0, none⟩) from h.lit (hw2 ⟨8, .data⟩ (by simp) rfl) rfl rfl))) rfl
      · rintro L fa wx h hcl hL hw2
        exact rp_val h (by decide) rfl rfl rfl (by decide) (by decide) rfl (run_fldA (eval_G (show G fa 27 = .pointer (some ⟨py, 0, none⟩) from h.lit (hw2 ⟨9, .data⟩ (by simp) rfl) rfl rfl))) rfl
      · rintro L fa wx h hcl hL hw2
        exact rp_val h (by decide) rfl rfl rfl (by decide) (by decide) rfl (run_mv (eval_G ((h.keep (s := 0) (by decide)).trans s0))) rfl
      · rintro L fa wx h hcl hL hw2
        exact rp_make h (by decide) rfl rfl rfl (by decide) (by decide) (h.nogi (by decide)) rfl (run_call1 (eval_G (show G fa 29 = .pointer (some ⟨px, 0, none⟩) from h.lit (hw2 ⟨11, .data⟩ (by simp) rfl) rfl rfl)) callDen) (unhide DX3 wx (h.old (h.nogi (by decide)))) rfl
      · rintro L fa wx h hcl hL hw2
        obtain ⟨b0, e0, z0, l0⟩ := h.new (h.nogi (by decide)) (hw2 ⟨7, .data⟩ (by simp) rfl) rfl rfl
        obtain ⟨b2, o2, e2, mm2⟩ := h.ptr (h.nogi (by decide)) (hw2 ⟨12, .data⟩ (by simp) rfl) rfl rfl
        exact rp_put h (by decide) rfl rfl rfl (by decide) (by decide) (h.nogi (by decide)) rfl (run_call3 (eval_G e0) (eval_G (show G fa 28 = .pointer (some ⟨py, 0, none⟩) from h.lit (hw2 ⟨10, .data⟩ (by simp) rfl) rfl rfl)) (eval_G e2) callIMul) (hw2 ⟨7, .data⟩ (by simp) rfl) rfl rfl e0 (mul_put z0 ((unhide HY3).num.below (h.old (h.nogi (by decide)))) mm2 (by omega) (by omega)) rfl (al_of (bad := [13]) rfl (by
        intro k hk
        simp only [List.mem_cons, List.not_mem_nil, or_false] at hk
        rcases hk with rfl
        · exact hL))
      · rintro L fa wx h hcl hL hw2
        obtain ⟨b0, o0, e0, mm0⟩ := h.ptr (h.nogi (by decide)) (hw2 ⟨6, .data⟩ (by simp) rfl) rfl rfl
        obtain ⟨b1, o1, e1, mm1⟩ := h.ptr (h.nogi (by decide)) (hw2 ⟨13, .data⟩ (by simp) rfl) rfl rfl
        exact rp_read h (by decide) rfl rfl rfl (by decide) (by decide) (h.nogi (by decide)) rfl (run_call2 (eval_G e0) (eval_G e1) callICmp) (icmp_any _ _ _ _ (n1 * m2) (n2 * m1) wx mm0 mm1) rfl
      · rintro L fa wx h hcl hL hw2
        exact rp_val h (by decide) rfl rfl rfl (by decide) (by decide) rfl (run_asg (eval_G (show G fa 32 = .int .i64 (icmp (n1 * m2) (n2 * m1)) from h.lit (hw2 ⟨14, .data⟩ (by simp) rfl) rfl rfl))) rfl
    case done =>
      rintro L f1 w4 h hall
      have q4 : G f1 4 = .int .i64 (icmp (n1 * m2) (n2 * m1)) := h.lit (i := 15) (hall 15 (by simp)) rfl rfl
      have HO := hide (h.old (h.nogi (by decide)))
      rw [fr33 h.size h.defs, q4]
      clear h hall q4
      go_wp2
      go_ret
      exact ⟨congrArg (fun z => Ending.returned (Value.int .i64 z)) (unhide key), below_step (unhide HB3) (unhide HO)⟩

end Go.Proofs.YtibkemolmpcdcaaGreatDoor

/- Walks: the document's answer: Ten, Rat2, Down. -/
namespace Go.Proofs.YtibkemolmpcdcaaGreatDoor
open Go.RowKit

theorem Bl2.low {b m B : Nat} {w w' : World} (h : Bl2 b m w w') (hb : B ≤ b) (hm : B ≤ m) (hw : B ≤ w.heap.size) : Below B w w' := ⟨h.os, h.tape, h.output, h.size, fun k hk => h.block k (by omega) (by omega) (by omega)⟩
theorem Ln_ten (k : Nat) : Ln ((10 : Int) ^ k) ≤ k + 1 := by
  apply Ln_le
  rw [Int.natAbs_pow]
  have h1 : (10 : Int).natAbs ^ k ≤ 4294967296 ^ k := Nat.pow_le_pow_left (by decide) k
  have h2 : 4294967296 ^ k < 4294967296 ^ (k + 1) := Nat.pow_lt_pow_right (by omega) (by omega)
  omega

set_option maxHeartbeats 2000000 in
theorem ten_any (n : Int) (w : World) (h1 : -200 ≤ n) (h2 : n ≤ 200) :
    Calls Tryz.prog 62 #[.int .i64 n] w fun e w' => e = .returned (.pointer (some ⟨w.heap.size, 0, none⟩)) ∧ IA w' w.heap.size 0 ((10 : Int) ^ n.toNat) ∧ Below w.heap.size w w' := by
  have NI := hide (newInt_any 1 w (by omega) (by omega))
  go_enter Tryz.func62, Tryz.ntmps62
  go_wp2_with fail
  refine (unhide NI).mono ?_
  rintro e w1 ⟨rfl, i1, hb1⟩
  have HI := hide i1
  have HB := hide hb1
  clear i1 hb1 NI
  go_wp2_with fail
  go_loopw [0] (fun i wr => ∃ k : Nat, k ≤ n.toNat ∧ i = .int .i64 (n - k) ∧ Hid (IA wr w.heap.size 0 ((10 : Int) ^ k)) ∧ Hid (Below w.heap.size w wr)) (fun i _ => (intOf i).toNat)
  case atStart => exact ⟨0, Nat.zero_le _, by simp, HI, HB⟩
  case round =>
    obtain ⟨k, hk, rfl, HI2, HB2⟩ := hrel
    clear HI HB
    by_cases g : 0 < n - (k : Int)
    · have hs := (unhide HB2).size
      have N2 := hide (newInt_any 10 wr (by omega) (by omega))
      go_wp2_with fail
      refine (unhide N2).mono ?_
      rintro e w2 ⟨rfl, i2, hb2⟩
      have lk := Ln_ten k
      have MU := hide (imul_any w.heap.size 0 w.heap.size 0 wr.heap.size 0 ((10 : Int) ^ k) 10 w2 ((unhide HI2).place.below hb2) ((unhide HI2).below hb2) i2 (by unfold Ln at lk; omega) (len_small (by decide)))
      have HB3 := hide (below_step (unhide HB2) hb2)
      clear i2 hb2 N2 lk
      go_wp2_with fail
      refine (unhide MU).mono ?_
      rintro e w3 ⟨rfl, i3, ho3⟩
      have HI3 := hide i3
      have HB4 := hide ((unhide HB3).trans (ho3.below (Nat.le_refl _) (unhide HB3).size))
      clear i3 ho3 MU
      go_wp2
      refine ⟨⟨k + 1, by omega, by congr 1; omega, hide ?_, HB4⟩, ?_⟩
      · rw [Int.pow_succ]; exact unhide HI3
      · simp [intOf]; omega
    · have HE : Hid (n.toNat = k) := hide (by omega)
      go_wp2
      go_ret
      rw [unhide HE]
      exact ⟨rfl, unhide HI2, unhide HB2⟩
end Go.Proofs.YtibkemolmpcdcaaGreatDoor

/- Plain facts: what is more stays more. No Go in sight. -/
namespace Dm

theorem rnd_mono {a b p : Nat} (R : Bool) (h : a ≤ b) : rnd a p R ≤ rnd b p R := by
  have hq : a / p ≤ b / p := Nat.div_le_div_right h
  rcases Nat.lt_or_ge (a / p) (b / p) with g | g
  · unfold rnd
    split <;> split <;> omega
  · have e : a / p = b / p := Nat.le_antisymm hq g
    have da := Nat.div_add_mod a p
    have db := Nat.div_add_mod b p
    rw [e] at da
    have hr : a % p ≤ b % p := by omega
    have hu : up a p R = true → up b p R = true := by
      unfold up
      rw [e]
      simp only [decide_eq_true_eq]
      intro q
      rcases q with q | ⟨q, t⟩
      · left; omega
      · rcases Nat.lt_or_ge p (2 * (b % p)) with z | z
        · left; exact z
        · right; exact ⟨by omega, t⟩
    unfold rnd
    by_cases u : up a p R = true
    · rw [if_pos u, if_pos (hu u)]; omega
    · rw [if_neg u]; split <;> omega
theorem rnd_scale (N q j : Nat) (R : Bool) : rnd (N * 10 ^ j) (q * 10 ^ j) R = rnd N q R := by
  have p := p10_pos j
  have u : up (N * 10 ^ j) (q * 10 ^ j) R = up N q R := by
    unfold up
    rw [Nat.mul_div_mul_right _ _ p, Nat.mul_mod_mul_right]
    congr 1
    have a : q * 10 ^ j < 2 * (N % q * 10 ^ j) ↔ q < 2 * (N % q) := by
      rw [← Nat.mul_assoc]; exact Nat.mul_lt_mul_right p
    have b : 2 * (N % q * 10 ^ j) = q * 10 ^ j ↔ 2 * (N % q) = q := by
      rw [← Nat.mul_assoc]; exact Nat.mul_right_cancel_iff p
    rw [a, b]
  unfold rnd
  rw [u, Nat.mul_div_mul_right _ _ p]
theorem sc_shift (N j : Nat) (s : Int) : sc (N * 10 ^ j) (s - j) false = sc N s false := by
  by_cases h : 0 ≤ s
  · obtain ⟨k, hk⟩ : ∃ k : Nat, s = (k : Int) := ⟨s.toNat, by omega⟩
    rw [sc_exact (k := k) (by omega)]
    unfold sc
    rw [if_pos h, hk, Int.toNat_natCast]
  · unfold sc
    rw [if_neg h, if_neg (by omega), show (-(s - j)).toNat = (-s).toNat + j by omega, Nat.pow_add]
    exact rnd_scale _ _ _ _

theorem p10_lt {a b : Nat} (h : 10 ^ a < 10 ^ b) : a < b := (Nat.pow_lt_pow_iff_right (by decide)).1 h
theorem p10_le {a b : Nat} (h : a ≤ b) : 10 ^ a ≤ 10 ^ b := Nat.pow_le_pow_right (by decide) h
theorem nd_spec {N : Nat} (h : 1 ≤ N) (hl : N < 10 ^ 200) : 1 ≤ nd N ∧ nd N ≤ 200 ∧ 10 ^ (nd N - 1) ≤ N ∧ N < 10 ^ nd N := by
  obtain ⟨L, a, b, c, d⟩ := has_len 200 N h hl
  have e : nd N = L := nd_at b d (.inr c)
  rw [e]
  exact ⟨a, b, c, d⟩
theorem nd_zero : nd 0 = 0 := by decide
theorem nd_mono {a b : Nat} (h : a ≤ b) (hb : b < 10 ^ 200) : nd a ≤ nd b := by
  rcases Nat.eq_zero_or_pos a with z | z
  · subst z; rw [nd_zero]; omega
  · obtain ⟨a1, a2, a3, a4⟩ := nd_spec z (by omega)
    obtain ⟨b1, b2, b3, b4⟩ := nd_spec (N := b) (by omega) hb
    have := p10_lt (a := nd a - 1) (b := nd b) (by omega)
    omega
theorem nd_shift {N j : Nat} (h : 1 ≤ N) (hl : N * 10 ^ j < 10 ^ 200) : nd (N * 10 ^ j) = nd N + j := by
  have p := p10_pos j
  have n : N ≤ N * 10 ^ j := Nat.le_mul_of_pos_right _ p
  obtain ⟨a1, a2, a3, a4⟩ := nd_spec h (by omega)
  have q : 10 ^ (nd N - 1 + j) ≤ N * 10 ^ j := by rw [Nat.pow_add]; exact Nat.mul_le_mul_right _ a3
  have := p10_lt (a := nd N - 1 + j) (b := 200) (by omega)
  exact nd_tens a1 (by omega) a3 a4

/-- what stands at 10^-80, told in units of 10^-40 -/
def uE (N : Nat) : Nat := (nE N (-80) + 40).toNat
def uQ (N : Nat) : Nat := nQ N (-80) false * 10 ^ uE N
theorem uE_eq {N : Nat} : (uE N : Int) = nE N (-80) + 40 ∧ nQ N (-80) false = rnd N (10 ^ (uE N + 40)) false := by
  have e : nE N (-80) = max (-40 : Int) (-80 + (nd N : Int) - 18) := rfl
  have a : (uE N : Int) = nE N (-80) + 40 := by unfold uE; omega
  refine ⟨a, ?_⟩
  unfold nQ sc
  rw [if_neg (by omega), show (-(-80 - nE N (-80))).toNat = uE N + 40 by omega]
theorem uQ_le {N : Nat} (hN : N < 10 ^ 200) : nQ N (-80) false ≤ 10 ^ 18 := by
  obtain ⟨a, b⟩ := @uE_eq N
  have e : nE N (-80) = max (-40 : Int) (-80 + (nd N : Int) - 18) := rfl
  rw [b]
  rcases Nat.eq_zero_or_pos N with z | z
  · subst z
    have := rnd_exact 0 (uE 0 + 40) false rfl
    rw [Nat.zero_mul] at this
    rw [this]
    exact Nat.zero_le _
  · obtain ⟨n1, n2, n3, n4⟩ := nd_spec z hN
    have hl : N < 10 ^ 18 * 10 ^ (uE N + 40) := by
      rw [← Nat.pow_add]
      exact Nat.lt_of_lt_of_le n4 (p10_le (by omega))
    have hq : N / 10 ^ (uE N + 40) < 10 ^ 18 := by
      rw [Nat.div_lt_iff_lt_mul (p10_pos _)]; exact hl
    unfold rnd
    split <;> omega
theorem uQ_mono {a b : Nat} (h : a ≤ b) (hb : b < 10 ^ 200) : uQ a ≤ uQ b := by
  obtain ⟨a1, a2⟩ := @uE_eq a
  obtain ⟨b1, b2⟩ := @uE_eq b
  have ea : nE a (-80) = max (-40 : Int) (-80 + (nd a : Int) - 18) := rfl
  have eb : nE b (-80) = max (-40 : Int) (-80 + (nd b : Int) - 18) := rfl
  have m := nd_mono h hb
  unfold uQ
  rcases Nat.lt_or_ge (uE a) (uE b) with g | g
  · have l := uQ_le (N := a) (by omega)
    have hb1 : 1 ≤ b := by
      rcases Nat.eq_zero_or_pos b with z | z
      · subst z; rw [nd_zero] at eb; omega
      · exact z
    obtain ⟨n1, n2, n3, n4⟩ := nd_spec hb1 hb
    have q : 10 ^ 17 ≤ nQ b (-80) false := by
      rw [b2]
      have r : 10 ^ 17 ≤ b / 10 ^ (uE b + 40) := by
        rw [Nat.le_div_iff_mul_le (p10_pos _), ← Nat.pow_add]
        exact Nat.le_trans (p10_le (by omega)) n3
      unfold rnd
      split <;> omega
    have s1 : nQ a (-80) false * 10 ^ uE a ≤ 10 ^ 18 * 10 ^ uE a := Nat.mul_le_mul_right _ l
    have s2 : 10 ^ 18 * 10 ^ uE a ≤ 10 ^ 17 * 10 ^ uE b := by
      rw [← Nat.pow_add, ← Nat.pow_add]; exact p10_le (by omega)
    have s3 : 10 ^ 17 * 10 ^ uE b ≤ nQ b (-80) false * 10 ^ uE b := Nat.mul_le_mul_right _ q
    omega
  · have e : uE a = uE b := by omega
    rw [a2, b2, e]
    exact Nat.mul_le_mul_right _ (rnd_mono _ h)

/-- told in units of 10^-40, with its sign -/
def uZ (A : Int) : Int := sg (decide (A < 0)) (uQ A.natAbs)
theorem uZ_mono {A B : Int} (h : A ≤ B) (hA : A.natAbs < 10 ^ 200) (hB : B.natAbs < 10 ^ 200) : uZ A ≤ uZ B := by
  unfold uZ sg
  by_cases a : A < 0
  · by_cases b : B < 0
    · have := uQ_mono (a := B.natAbs) (b := A.natAbs) (by omega) hA
      rw [decide_eq_true a, decide_eq_true b, if_pos rfl, if_pos rfl]
      omega
    · rw [decide_eq_true a, decide_eq_false b, if_pos rfl, if_neg (by decide)]
      omega
  · have b : ¬ B < 0 := by omega
    have := uQ_mono (a := A.natAbs) (b := B.natAbs) (by omega) hB
    rw [decide_eq_false a, decide_eq_false b, if_neg (by decide), if_neg (by decide)]
    omega

theorem V_fC {C e : Int} (h1 : -1000000000000000000 ≤ C) (h2 : C ≤ 1000000000000000000) (he : -40 ≤ e) (hr : fR C e = 0) : V (fC C e) (fE C e) = tens C (e + 40).toNat := by
  by_cases h0 : C = 0
  · subst h0
    rw [tens_zero]
    simp [fC, fE]
    exact V_zero 0
  · obtain ⟨a, b⟩ := tz_of h0 (by omega)
    have g : ¬ (40 : Int) < e + (tz C : Int) := by
      intro q
      unfold fR at hr
      rw [if_neg h0, if_pos q] at hr
      omega
    have eC : fC C e = tc C := by unfold fC; rw [if_neg h0, if_neg g]
    have eE : fE C e = e + (tz C : Int) := by unfold fE; rw [if_neg h0, if_neg g]
    rw [eC, eE]
    unfold V
    rw [show (e + (tz C : Int) + 40).toNat = tz C + (e + 40).toNat by omega, ← tens_add, ← a]

/-- what is told of S times 10^x is what is told of the same at 10^-80 -/
theorem told_V {S x : Int} (hx : -80 ≤ x) (hl : S.natAbs * 10 ^ (x + 80).toNat < 10 ^ 200) (hr : fR (nearZ S x false) (nE S.natAbs x) = 0) :
    wrongN (fC (nearZ S x false) (nE S.natAbs x)) (fE (nearZ S x false) (nE S.natAbs x)) = 0 ∧ V (fC (nearZ S x false) (nE S.natAbs x)) (fE (nearZ S x false) (nE S.natAbs x)) = uZ (tens S (x + 80).toNat) := by
  have he : -40 ≤ nE S.natAbs x := by unfold nE; omega
  by_cases h0 : S = 0
  · subst h0
    have e : nearZ 0 x false = 0 := by
      unfold nearZ
      rw [show Int.natAbs 0 = 0 by rfl, nQ_zero]
      rfl
    rw [e, tens_zero]
    refine ⟨by simp [fC, fE]; decide, ?_⟩
    have z : uZ 0 = 0 := by decide +kernel
    rw [z]
    simp only [fC, fE]
    exact V_zero 0
  · obtain ⟨j, hj⟩ : ∃ j : Nat, x + 80 = (j : Int) := ⟨(x + 80).toNat, by omega⟩
    rw [hj, Int.toNat_natCast] at hl ⊢
    have hN : 1 ≤ S.natAbs := by omega
    have hA : (tens S j).natAbs = S.natAbs * 10 ^ j := by
      rcases Int.lt_trichotomy S 0 with g | g | g
      · rw [(tens_abs S j).1 g]; omega
      · exact absurd g h0
      · rw [(tens_abs S j).2 (by omega)]; omega
    have hsg : (decide (tens S j < 0)) = decide (S < 0) := by
      have p := Nat.mul_pos (show 0 < S.natAbs by omega) (p10_pos j)
      rcases Int.lt_trichotomy S 0 with g | g | g
      · rw [(tens_abs S j).1 g, decide_eq_true g, decide_eq_true]; omega
      · exact absurd g h0
      · rw [(tens_abs S j).2 (by omega), decide_eq_false (show ¬ S < 0 by omega), decide_eq_false]; omega
    have nn := nd_shift hN hl
    have hE : nE (S.natAbs * 10 ^ j) (-80) = nE S.natAbs x := by
      unfold nE
      rw [nn]
      congr 1
      omega
    have hQ : nQ (S.natAbs * 10 ^ j) (-80) false = nQ S.natAbs x false := by
      unfold nQ
      rw [hE, show -80 - nE S.natAbs x = (x - nE S.natAbs x) - (j : Int) by omega]
      exact sc_shift _ _ _
    have bq := uQ_le hl
    rw [hQ] at bq
    have bC : -1000000000000000000 ≤ nearZ S x false ∧ nearZ S x false ≤ 1000000000000000000 := by
      unfold nearZ sg; split <;> omega
    refine ⟨(round_told bC.1 bC.2 he hr).1, ?_⟩
    rw [V_fC bC.1 bC.2 he hr]
    unfold uZ uQ uE
    rw [hA, hsg, hQ, hE]
    unfold nearZ
    generalize nQ S.natAbs x false = q
    generalize (nE S.natAbs x + 40).toNat = k
    unfold sg
    split
    · rw [tens_neg, tens_eq, Int.natCast_mul]; simp
    · rw [tens_eq, Int.natCast_mul]; simp
end Dm
