/- Walks: the document's answer: Do (written by gen_br5.py). -/
import Derived.Test.YtibkemolmpcdcaaG12
import Derived.Test.YtibkemolmpcdcaaG01
import Derived.Test.YtibkemolmpcdcaaG09
import Derived.Lib.AppendZerosOnto
namespace Go.Proofs.Ytibkemolmpcdcaa
open Go.RowKit

set_option maxRecDepth 100000 in
set_option maxHeartbeats 4000000 in
theorem do_mul (c1 x1 c2 x2 : Int) (w : World) (h1 : Dm.wrongN c1 x1 = 0) (h2 : Dm.wrongN c2 x2 = 0) (a1 : -1000000000000000000 < c1) (a2 : c1 < 1000000000000000000) (a3 : -40 ≤ x1) (a4 : x1 ≤ 40) (b1 : -1000000000000000000 < c2) (b2 : c2 < 1000000000000000000) (b3 : -40 ≤ x2) (b4 : x2 ≤ 40) :
    Calls Try.prog 7 #[.int .u8 42, .agg #[.int .i64 c1, .int .i64 x1], .agg #[.int .i64 c2, .int .i64 x2]] w fun e w' => e = toldT (fitT ((c1 * (10 : Int) ^ x1.toNat) * (c2 * (10 : Int) ^ x2.toNat)) (((10 : Int) ^ (-x1).toNat) * ((10 : Int) ^ (-x2).toNat))) ∧ Below w.heap.size w w' := by
  obtain ⟨wC, hwC⟩ : ∃ wC, wC = (((w.alloc (.cells #[.int .i64 c1, .int .i64 x1] 23)).alloc (.cells #[.int .i64 c2, .int .i64 x2] 23)).alloc (.cells #[.int .i64 0, .int .i64 0] 23)) := ⟨_, rfl⟩
  have NC : Below w.heap.size w wC := by rw [hwC]; exact below_step (below_step (below_new _ _) (below_new _ _)) (below_new _ _)
  have sC : wC.heap.size = w.heap.size + 3 := by rw [hwC]; simp
  have p10 : wC.cell? ⟨w.heap.size, 0, none⟩ = some (.int .i64 c1) := by rw [hwC]; simp [go_sem]
  have p11 : wC.cell? ⟨w.heap.size, 1, none⟩ = some (.int .i64 x1) := by rw [hwC]; simp [go_sem]
  have p20 : wC.cell? ⟨w.heap.size + 1, 0, none⟩ = some (.int .i64 c2) := by rw [hwC]; simp [go_sem]
  have p21 : wC.cell? ⟨w.heap.size + 1, 1, none⟩ = some (.int .i64 x2) := by rw [hwC]; simp [go_sem]
  have p30 : wC.cell? ⟨w.heap.size + 2, 0, none⟩ = some (.int .i64 0) := by rw [hwC]; simp [go_sem]
  have p31 : wC.cell? ⟨w.heap.size + 2, 1, none⟩ = some (.int .i64 0) := by rw [hwC]; simp [go_sem]
  have fz0 : wC.frozen? ⟨w.heap.size + 2, 0, none⟩ = false := by rw [hwC]; simp [go_sem]
  have fz1 : wC.frozen? ⟨w.heap.size + 2, 1, none⟩ = false := by rw [hwC]; simp [go_sem]
  have W1 := hide (rwrong_any c1 x1 (((w.alloc (.cells #[.int .i64 c1, .int .i64 x1] 23)).alloc (.cells #[.int .i64 c2, .int .i64 x2] 23)).alloc (.cells #[.int .i64 0, .int .i64 0] 23)))
  have lc1 : Ln c1 ≤ 2 := Ln_small (by omega)
  have lc2 : Ln c2 ≤ 2 := Ln_small (by omega)
  have t1 := Ln_ten x1.toNat
  have t2 := Ln_ten x2.toNat
  have t3 := Ln_ten (-x1).toNat
  have t4 := Ln_ten (-x2).toNat
  have t5 := Ln_mul c1 ((10 : Int) ^ x1.toNat)
  have t6 := Ln_mul c2 ((10 : Int) ^ x2.toNat)
  have u1 := Ln_mul (c1 * (10 : Int) ^ x1.toNat) (c2 * (10 : Int) ^ x2.toNat)
  have u5 := Ln_mul ((10 : Int) ^ (-x1).toNat) ((10 : Int) ^ (-x2).toNat)
  have HD : Hid (0 < ((10 : Int) ^ (-x1).toNat) * ((10 : Int) ^ (-x2).toNat)) := hide (Int.mul_pos (Int.pow_pos (by decide)) (Int.pow_pos (by decide)))
  have g1 : (Dm.wrongN c1 x1 != 0) = false := by rw [h1]; rfl
  have g2 : (Dm.wrongN c2 x2 != 0) = false := by rw [h2]; rfl
  clear h1 h2
  go_enter Try.func7, Try.ntmps7
  go_wp2_with fail
  refine (unhide W1).mono ?_
  rw [← hwC]
  rintro e w1 ⟨rfl, hb1⟩
  have s1 := hb1.size
  have q10 := (hb1.cell (p := ⟨w.heap.size, 0, none⟩) (by show w.heap.size < wC.heap.size; omega)).trans p10
  have q11 := (hb1.cell (p := ⟨w.heap.size, 1, none⟩) (by show w.heap.size < wC.heap.size; omega)).trans p11
  have q20 := (hb1.cell (p := ⟨w.heap.size + 1, 0, none⟩) (by show w.heap.size + 1 < wC.heap.size; omega)).trans p20
  have q21 := (hb1.cell (p := ⟨w.heap.size + 1, 1, none⟩) (by show w.heap.size + 1 < wC.heap.size; omega)).trans p21
  have q30 := (hb1.cell (p := ⟨w.heap.size + 2, 0, none⟩) (by show w.heap.size + 2 < wC.heap.size; omega)).trans p30
  have q31 := (hb1.cell (p := ⟨w.heap.size + 2, 1, none⟩) (by show w.heap.size + 2 < wC.heap.size; omega)).trans p31
  have fy0 := (hb1.frozen (p := ⟨w.heap.size + 2, 0, none⟩) (by show w.heap.size + 2 < wC.heap.size; omega)).trans fz0
  have fy1 := (hb1.frozen (p := ⟨w.heap.size + 2, 1, none⟩) (by show w.heap.size + 2 < wC.heap.size; omega)).trans fz1
  have W2 := hide (rwrong_any c2 x2 w1)
  have HB := hide (below_step NC hb1)
  clear hb1 p10 p11 p20 p21 p30 p31 fz0 fz1
  go_wp2_with fail
  refine (unhide W2).mono ?_
  rintro e w2 ⟨rfl, hb2⟩
  have s2 := hb2.size
  have k10 := (hb2.cell (p := ⟨w.heap.size, 0, none⟩) (by show w.heap.size < w1.heap.size; omega)).trans q10
  have k11 := (hb2.cell (p := ⟨w.heap.size, 1, none⟩) (by show w.heap.size < w1.heap.size; omega)).trans q11
  have k20 := (hb2.cell (p := ⟨w.heap.size + 1, 0, none⟩) (by show w.heap.size + 1 < w1.heap.size; omega)).trans q20
  have k21 := (hb2.cell (p := ⟨w.heap.size + 1, 1, none⟩) (by show w.heap.size + 1 < w1.heap.size; omega)).trans q21
  have k30 := (hb2.cell (p := ⟨w.heap.size + 2, 0, none⟩) (by show w.heap.size + 2 < w1.heap.size; omega)).trans q30
  have k31 := (hb2.cell (p := ⟨w.heap.size + 2, 1, none⟩) (by show w.heap.size + 2 < w1.heap.size; omega)).trans q31
  have fx0 := (hb2.frozen (p := ⟨w.heap.size + 2, 0, none⟩) (by show w.heap.size + 2 < w1.heap.size; omega)).trans fy0
  have fx1 := (hb2.frozen (p := ⟨w.heap.size + 2, 1, none⟩) (by show w.heap.size + 2 < w1.heap.size; omega)).trans fy1
  have HB2 := hide (below_step (unhide HB) hb2)
  have lb1 : w.heap.size < w2.heap.size := by omega
  have lb2 : w.heap.size + 1 < w2.heap.size := by omega
  have lb3 : w.heap.size + 2 < w2.heap.size := by omega
  clear hb2 q10 q11 q20 q21 q30 q31 fy0 fy1 hwC
  go_upto_region 7 with fail
  refine frame_intro (fun a => G a 0 = .int .u8 42 ∧ G a 4 = .pointer (some ⟨w.heap.size, 0, none⟩) ∧ G a 5 = .pointer (some ⟨w.heap.size + 1, 0, none⟩) ∧ G a 6 = .pointer (some ⟨w.heap.size + 2, 0, none⟩) ∧ a.tmps.size = 61 ∧ a.defers = []) ⟨rfl, rfl, rfl, rfl, rfl, rfl⟩ ?_
  rintro f0 ⟨s0, s4, s5, s6, hsz, hdf⟩
  refine region_any (I := RP w2 f0 61 [25, 26, 27, 28, 29, 10, 11, 12] 99 (fun _ => True) [.lit (.agg #[.int .i64 c1, .int .i64 x1]), .ptr 1 (pR (c1 * (10 : Int) ^ x1.toNat) ((10 : Int) ^ (-x1).toNat)), .lit (.agg #[.int .i64 c2, .int .i64 x2]), .ptr 3 (pR (c2 * (10 : Int) ^ x2.toNat) ((10 : Int) ^ (-x2).toNat)), .new 4 2, .ptr 1 (pR (c1 * (10 : Int) ^ x1.toNat) ((10 : Int) ^ (-x1).toNat)), .ptr 3 (pR (c2 * (10 : Int) ^ x2.toNat) ((10 : Int) ^ (-x2).toNat)), .new 4 2]) (by kernel_rfl) ?wait ?step ?done ?start
  case wait => exact ⟨(by simp <;> rfl), (by simp <;> rfl), (by simp <;> rfl), (by simp <;> rfl), (by simp <;> rfl), (by simp <;> rfl), (by simp <;> rfl), (by simp <;> rfl), trivial⟩
  case start => exact RP.start hsz hdf ((Below.refl _ _).drew)
  case step =>
    refine ⟨?_, ?_, ?_, ?_, ?_, ?_, ?_, ?_, trivial⟩
    · rintro L fa wx h hcl hL hw2
      exact rp_val h (by decide) rfl rfl rfl (by decide) (by decide) rfl (run_ldD (eval_G ((h.keep (s := 4) (by decide)).trans s4)) (((h.old (h.nogi (by decide))).cell (p := ⟨w.heap.size, 0, none⟩) lb1).trans k10) (((h.old (h.nogi (by decide))).cell (p := ⟨w.heap.size, 1, none⟩) lb1).trans k11)) rfl
    · rintro L fa wx h hcl hL hw2
      exact rp_make h (by decide) rfl rfl rfl (by decide) (by decide) (h.nogi (by decide)) rfl (run_call1 (eval_G (show G fa 25 = .agg #[.int .i64 c1, .int .i64 x1] from h.lit (hw2 ⟨0, .data⟩ (by simp) rfl) rfl rfl)) callRatd) (ratd_make c1 x1 (by omega) (by omega) (by omega) (by omega) wx) rfl
    · rintro L fa wx h hcl hL hw2
      exact rp_val h (by decide) rfl rfl rfl (by decide) (by decide) rfl (run_ldD (eval_G ((h.keep (s := 5) (by decide)).trans s5)) (((h.old (h.nogi (by decide))).cell (p := ⟨w.heap.size + 1, 0, none⟩) lb2).trans k20) (((h.old (h.nogi (by decide))).cell (p := ⟨w.heap.size + 1, 1, none⟩) lb2).trans k21)) rfl
    · rintro L fa wx h hcl hL hw2
      exact rp_make h (by decide) rfl rfl rfl (by decide) (by decide) (h.nogi (by decide)) rfl (run_call1 (eval_G (show G fa 27 = .agg #[.int .i64 c2, .int .i64 x2] from h.lit (hw2 ⟨2, .data⟩ (by simp) rfl) rfl rfl)) callRatd) (ratd_make c2 x2 (by omega) (by omega) (by omega) (by omega) wx) rfl
    · rintro L fa wx h hcl hL hw2
      exact rp_new h (by decide) rfl rfl rfl (by decide) (by decide) (h.nogi (by decide)) rfl run_newR ZA.newR rfl
    · rintro L fa wx h hcl hL hw2
      exact rp_copy h (by decide) rfl rfl rfl (by decide) (by decide) (h.nogi (by decide)) rfl (hw2 ⟨1, .data⟩ (by simp) rfl) rfl (run_asg rfl) rfl
    · rintro L fa wx h hcl hL hw2
      exact rp_copy h (by decide) rfl rfl rfl (by decide) (by decide) (h.nogi (by decide)) rfl (hw2 ⟨3, .data⟩ (by simp) rfl) rfl (run_asg rfl) rfl
    · rintro L fa wx h hcl hL hw2
      exact rp_copy h (by decide) rfl rfl rfl (by decide) (by decide) (h.nogi (by decide)) rfl (hw2 ⟨4, .data⟩ (by simp) rfl) rfl (run_asg rfl) rfl
  case done =>
    rintro L f1 w3 h hall
    have hno : L 99 = false := h.nogi (by decide)
    obtain ⟨b10, o10, q10, i10⟩ := h.ptr (i := 5) hno (hall 5 (by simp)) rfl rfl
    obtain ⟨rfl, r10⟩ : o10 = 0 ∧ RV w3 b10 (c1 * (10 : Int) ^ x1.toNat) ((10 : Int) ^ (-x1).toNat) := i10
    obtain ⟨b11, o11, q11, i11⟩ := h.ptr (i := 6) hno (hall 6 (by simp)) rfl rfl
    obtain ⟨rfl, r11⟩ : o11 = 0 ∧ RV w3 b11 (c2 * (10 : Int) ^ x2.toNat) ((10 : Int) ^ (-x2).toNat) := i11
    obtain ⟨b12, q12, z12, l12⟩ := h.new (i := 7) hno (hall 7 (by simp)) rfl rfl
    have q0 := (h.keep (s := 0) (by decide)).trans s0
    have q5 := (h.keep (s := 5) (by decide)).trans s5
    have q6 := (h.keep (s := 6) (by decide)).trans s6
    have HO := hide (h.old hno)
    have s3 := (unhide HO).size
    rw [fr61 h.size h.defs, q0, q5, q6, q10, q11, q12]
    clear h hall q0 q5 q6 q10 q11 q12 hno
    have OP := hide (rmul_any b12 b10 b11 (c1 * (10 : Int) ^ x1.toNat) ((10 : Int) ^ (-x1).toNat) (c2 * (10 : Int) ^ x2.toNat) ((10 : Int) ^ (-x2).toNat) w3 z12 r10 r11 (pow_ne _) (pow_ne _) (by omega) (by omega) (by omega) (by omega))
    have HZ := hide z12
    clear r10 r11 z12
    have m20 := ((unhide HO).cell (p := ⟨w.heap.size + 1, 0, none⟩) (by show w.heap.size + 1 < w2.heap.size; omega)).trans k20
    have m21 := ((unhide HO).cell (p := ⟨w.heap.size + 1, 1, none⟩) (by show w.heap.size + 1 < w2.heap.size; omega)).trans k21
    have m30 := ((unhide HO).cell (p := ⟨w.heap.size + 2, 0, none⟩) (by show w.heap.size + 2 < w2.heap.size; omega)).trans k30
    have m31 := ((unhide HO).cell (p := ⟨w.heap.size + 2, 1, none⟩) (by show w.heap.size + 2 < w2.heap.size; omega)).trans k31
    have fw0 := ((unhide HO).frozen (p := ⟨w.heap.size + 2, 0, none⟩) (by show w.heap.size + 2 < w2.heap.size; omega)).trans fx0
    have fw1 := ((unhide HO).frozen (p := ⟨w.heap.size + 2, 1, none⟩) (by show w.heap.size + 2 < w2.heap.size; omega)).trans fx1
    clear k10 k11 k20 k21 k30 k31 fx0 fx1
    go_wp2_with fail
    refine (unhide OP).mono ?_
    rintro e w4 ⟨rfl, r4, k4⟩
    have r5 : RV w4 b12 ((c1 * (10 : Int) ^ x1.toNat) * (c2 * (10 : Int) ^ x2.toNat)) (((10 : Int) ^ (-x1).toNat) * ((10 : Int) ^ (-x2).toNat)) := r4
    have B4 : Below w2.heap.size w3 w4 := k4.below l12 (unhide HO).size
    have s4' := B4.size
    obtain ⟨t1, t2, t3, ht⟩ : ∃ t1 t2 t3, fitT ((c1 * (10 : Int) ^ x1.toNat) * (c2 * (10 : Int) ^ x2.toNat)) (((10 : Int) ^ (-x1).toNat) * ((10 : Int) ^ (-x2).toNat)) = (t1, t2, t3) := ⟨_, _, _, rfl⟩
    have FT : Hid (Calls Try.prog 36 #[.pointer (some ⟨b12, 0, none⟩)] w4 fun e w' => e = .returned (.tuple #[.agg #[.int .i64 t1, .int .i64 t2], .int .i64 t3]) ∧ Below w4.heap.size w4 w') := hide ((fit_any b12 ((c1 * (10 : Int) ^ x1.toNat) * (c2 * (10 : Int) ^ x2.toNat)) (((10 : Int) ^ (-x1).toNat) * ((10 : Int) ^ (-x2).toNat)) w4 r5 (unhide HD) (by omega) (by omega)).mono (by
      rintro e w' ⟨rfl, h⟩
      exact ⟨by rw [ht]; rfl, h⟩))
    have HT := hide ht
    have n30 := (B4.cell (p := ⟨w.heap.size + 2, 0, none⟩) (by show w.heap.size + 2 < w2.heap.size; omega)).trans m30
    have n31 := (B4.cell (p := ⟨w.heap.size + 2, 1, none⟩) (by show w.heap.size + 2 < w2.heap.size; omega)).trans m31
    have fv0 := (B4.frozen (p := ⟨w.heap.size + 2, 0, none⟩) (by show w.heap.size + 2 < w2.heap.size; omega)).trans fw0
    have fv1 := (B4.frozen (p := ⟨w.heap.size + 2, 1, none⟩) (by show w.heap.size + 2 < w2.heap.size; omega)).trans fw1
    have HB4 := hide ((below_step (unhide HB2) (unhide HO)).trans (B4.mono (by have := (unhide HB2).size; omega)))
    clear r4 r5 k4 B4 OP m20 m21 m30 m31 fw0 fw1 ht
    go_wp2_with fail
    refine (unhide FT).mono ?_
    rintro e w5 ⟨rfl, hb5⟩
    have o30 := (hb5.cell (p := ⟨w.heap.size + 2, 0, none⟩) (by show w.heap.size + 2 < w4.heap.size; omega)).trans n30
    have o31 := (hb5.cell (p := ⟨w.heap.size + 2, 1, none⟩) (by show w.heap.size + 2 < w4.heap.size; omega)).trans n31
    have fu0 := (hb5.frozen (p := ⟨w.heap.size + 2, 0, none⟩) (by show w.heap.size + 2 < w4.heap.size; omega)).trans fv0
    have fu1 := (hb5.frozen (p := ⟨w.heap.size + 2, 1, none⟩) (by show w.heap.size + 2 < w4.heap.size; omega)).trans fv1
    have HB5 := hide (below_step (unhide HB4) hb5)
    clear hb5 n30 n31 fv0 fv1
    go_wp2
    refine bodyPost_ret (v := .tuple #[.agg #[.int .i64 t1, .int .i64 t2], .int .i64 t3]) (by simp [results, Try.results7, go_sem, o30, o31]) rfl ?_
    rw [unhide HT]
    exact ⟨rfl, ((unhide HB5).setCell (by simp only; omega) _).setCell (by simp only; omega) _⟩

set_option maxRecDepth 100000 in
set_option maxHeartbeats 4000000 in
theorem do_div (c1 x1 c2 x2 : Int) (w : World) (h1 : Dm.wrongN c1 x1 = 0) (h2 : Dm.wrongN c2 x2 = 0) (a1 : -1000000000000000000 < c1) (a2 : c1 < 1000000000000000000) (a3 : -40 ≤ x1) (a4 : x1 ≤ 40) (b1 : -1000000000000000000 < c2) (b2 : c2 < 1000000000000000000) (b3 : -40 ≤ x2) (b4 : x2 ≤ 40) (N D : Int) (c0 : c2 ≠ 0) (hND : (N = (c1 * (10 : Int) ^ x1.toNat) * ((10 : Int) ^ (-x2).toNat) ∧ D = ((10 : Int) ^ (-x1).toNat) * (c2 * (10 : Int) ^ x2.toNat)) ∨ (N = -((c1 * (10 : Int) ^ x1.toNat) * ((10 : Int) ^ (-x2).toNat)) ∧ D = -(((10 : Int) ^ (-x1).toNat) * (c2 * (10 : Int) ^ x2.toNat)))) (hD : 0 < D) :
    Calls Try.prog 7 #[.int .u8 47, .agg #[.int .i64 c1, .int .i64 x1], .agg #[.int .i64 c2, .int .i64 x2]] w fun e w' => e = toldT (fitT N D) ∧ Below w.heap.size w w' := by
  obtain ⟨wC, hwC⟩ : ∃ wC, wC = (((w.alloc (.cells #[.int .i64 c1, .int .i64 x1] 23)).alloc (.cells #[.int .i64 c2, .int .i64 x2] 23)).alloc (.cells #[.int .i64 0, .int .i64 0] 23)) := ⟨_, rfl⟩
  have NC : Below w.heap.size w wC := by rw [hwC]; exact below_step (below_step (below_new _ _) (below_new _ _)) (below_new _ _)
  have sC : wC.heap.size = w.heap.size + 3 := by rw [hwC]; simp
  have p10 : wC.cell? ⟨w.heap.size, 0, none⟩ = some (.int .i64 c1) := by rw [hwC]; simp [go_sem]
  have p11 : wC.cell? ⟨w.heap.size, 1, none⟩ = some (.int .i64 x1) := by rw [hwC]; simp [go_sem]
  have p20 : wC.cell? ⟨w.heap.size + 1, 0, none⟩ = some (.int .i64 c2) := by rw [hwC]; simp [go_sem]
  have p21 : wC.cell? ⟨w.heap.size + 1, 1, none⟩ = some (.int .i64 x2) := by rw [hwC]; simp [go_sem]
  have p30 : wC.cell? ⟨w.heap.size + 2, 0, none⟩ = some (.int .i64 0) := by rw [hwC]; simp [go_sem]
  have p31 : wC.cell? ⟨w.heap.size + 2, 1, none⟩ = some (.int .i64 0) := by rw [hwC]; simp [go_sem]
  have fz0 : wC.frozen? ⟨w.heap.size + 2, 0, none⟩ = false := by rw [hwC]; simp [go_sem]
  have fz1 : wC.frozen? ⟨w.heap.size + 2, 1, none⟩ = false := by rw [hwC]; simp [go_sem]
  have W1 := hide (rwrong_any c1 x1 (((w.alloc (.cells #[.int .i64 c1, .int .i64 x1] 23)).alloc (.cells #[.int .i64 c2, .int .i64 x2] 23)).alloc (.cells #[.int .i64 0, .int .i64 0] 23)))
  have lc1 : Ln c1 ≤ 2 := Ln_small (by omega)
  have lc2 : Ln c2 ≤ 2 := Ln_small (by omega)
  have t1 := Ln_ten x1.toNat
  have t2 := Ln_ten x2.toNat
  have t3 := Ln_ten (-x1).toNat
  have t4 := Ln_ten (-x2).toNat
  have t5 := Ln_mul c1 ((10 : Int) ^ x1.toNat)
  have t6 := Ln_mul c2 ((10 : Int) ^ x2.toNat)
  have HD := hide hD
  clear hD
  have nz2 : (c2 * (10 : Int) ^ x2.toNat) ≠ 0 := Int.mul_ne_zero c0 (pow_ne _)
  have gz : (c2 == 0) = false := by rw [beq_eq_false_iff_ne]; exact c0
  have lN : Ln N ≤ 1000 := by
    rcases hND with ⟨rfl, _⟩ | ⟨rfl, _⟩
    · exact Nat.le_trans (Ln_mul _ _) (by omega)
    · rw [Ln_neg]; exact Nat.le_trans (Ln_mul _ _) (by omega)
  have lD : Ln D ≤ 1000 := by
    rcases hND with ⟨_, rfl⟩ | ⟨_, rfl⟩
    · exact Nat.le_trans (Ln_mul _ _) (by omega)
    · rw [Ln_neg]; exact Nat.le_trans (Ln_mul _ _) (by omega)
  have g1 : (Dm.wrongN c1 x1 != 0) = false := by rw [h1]; rfl
  have g2 : (Dm.wrongN c2 x2 != 0) = false := by rw [h2]; rfl
  clear h1 h2
  go_enter Try.func7, Try.ntmps7
  go_wp2_with fail
  refine (unhide W1).mono ?_
  rw [← hwC]
  rintro e w1 ⟨rfl, hb1⟩
  have s1 := hb1.size
  have q10 := (hb1.cell (p := ⟨w.heap.size, 0, none⟩) (by show w.heap.size < wC.heap.size; omega)).trans p10
  have q11 := (hb1.cell (p := ⟨w.heap.size, 1, none⟩) (by show w.heap.size < wC.heap.size; omega)).trans p11
  have q20 := (hb1.cell (p := ⟨w.heap.size + 1, 0, none⟩) (by show w.heap.size + 1 < wC.heap.size; omega)).trans p20
  have q21 := (hb1.cell (p := ⟨w.heap.size + 1, 1, none⟩) (by show w.heap.size + 1 < wC.heap.size; omega)).trans p21
  have q30 := (hb1.cell (p := ⟨w.heap.size + 2, 0, none⟩) (by show w.heap.size + 2 < wC.heap.size; omega)).trans p30
  have q31 := (hb1.cell (p := ⟨w.heap.size + 2, 1, none⟩) (by show w.heap.size + 2 < wC.heap.size; omega)).trans p31
  have fy0 := (hb1.frozen (p := ⟨w.heap.size + 2, 0, none⟩) (by show w.heap.size + 2 < wC.heap.size; omega)).trans fz0
  have fy1 := (hb1.frozen (p := ⟨w.heap.size + 2, 1, none⟩) (by show w.heap.size + 2 < wC.heap.size; omega)).trans fz1
  have W2 := hide (rwrong_any c2 x2 w1)
  have HB := hide (below_step NC hb1)
  clear hb1 p10 p11 p20 p21 p30 p31 fz0 fz1
  go_wp2_with fail
  refine (unhide W2).mono ?_
  rintro e w2 ⟨rfl, hb2⟩
  have s2 := hb2.size
  have k10 := (hb2.cell (p := ⟨w.heap.size, 0, none⟩) (by show w.heap.size < w1.heap.size; omega)).trans q10
  have k11 := (hb2.cell (p := ⟨w.heap.size, 1, none⟩) (by show w.heap.size < w1.heap.size; omega)).trans q11
  have k20 := (hb2.cell (p := ⟨w.heap.size + 1, 0, none⟩) (by show w.heap.size + 1 < w1.heap.size; omega)).trans q20
  have k21 := (hb2.cell (p := ⟨w.heap.size + 1, 1, none⟩) (by show w.heap.size + 1 < w1.heap.size; omega)).trans q21
  have k30 := (hb2.cell (p := ⟨w.heap.size + 2, 0, none⟩) (by show w.heap.size + 2 < w1.heap.size; omega)).trans q30
  have k31 := (hb2.cell (p := ⟨w.heap.size + 2, 1, none⟩) (by show w.heap.size + 2 < w1.heap.size; omega)).trans q31
  have fx0 := (hb2.frozen (p := ⟨w.heap.size + 2, 0, none⟩) (by show w.heap.size + 2 < w1.heap.size; omega)).trans fy0
  have fx1 := (hb2.frozen (p := ⟨w.heap.size + 2, 1, none⟩) (by show w.heap.size + 2 < w1.heap.size; omega)).trans fy1
  have HB2 := hide (below_step (unhide HB) hb2)
  have lb1 : w.heap.size < w2.heap.size := by omega
  have lb2 : w.heap.size + 1 < w2.heap.size := by omega
  have lb3 : w.heap.size + 2 < w2.heap.size := by omega
  clear hb2 q10 q11 q20 q21 q30 q31 fy0 fy1 hwC
  go_upto_region 7 with fail
  refine frame_intro (fun a => G a 0 = .int .u8 47 ∧ G a 4 = .pointer (some ⟨w.heap.size, 0, none⟩) ∧ G a 5 = .pointer (some ⟨w.heap.size + 1, 0, none⟩) ∧ G a 6 = .pointer (some ⟨w.heap.size + 2, 0, none⟩) ∧ a.tmps.size = 61 ∧ a.defers = []) ⟨rfl, rfl, rfl, rfl, rfl, rfl⟩ ?_
  rintro f0 ⟨s0, s4, s5, s6, hsz, hdf⟩
  refine region_any (I := RP w2 f0 61 [25, 26, 27, 28, 29, 10, 11, 12] 99 (fun _ => True) [.lit (.agg #[.int .i64 c1, .int .i64 x1]), .ptr 1 (pR (c1 * (10 : Int) ^ x1.toNat) ((10 : Int) ^ (-x1).toNat)), .lit (.agg #[.int .i64 c2, .int .i64 x2]), .ptr 3 (pR (c2 * (10 : Int) ^ x2.toNat) ((10 : Int) ^ (-x2).toNat)), .new 4 2, .ptr 1 (pR (c1 * (10 : Int) ^ x1.toNat) ((10 : Int) ^ (-x1).toNat)), .ptr 3 (pR (c2 * (10 : Int) ^ x2.toNat) ((10 : Int) ^ (-x2).toNat)), .new 4 2]) (by kernel_rfl) ?wait ?step ?done ?start
  case wait => exact ⟨(by simp <;> rfl), (by simp <;> rfl), (by simp <;> rfl), (by simp <;> rfl), (by simp <;> rfl), (by simp <;> rfl), (by simp <;> rfl), (by simp <;> rfl), trivial⟩
  case start => exact RP.start hsz hdf ((Below.refl _ _).drew)
  case step =>
    refine ⟨?_, ?_, ?_, ?_, ?_, ?_, ?_, ?_, trivial⟩
    · rintro L fa wx h hcl hL hw2
      exact rp_val h (by decide) rfl rfl rfl (by decide) (by decide) rfl (run_ldD (eval_G ((h.keep (s := 4) (by decide)).trans s4)) (((h.old (h.nogi (by decide))).cell (p := ⟨w.heap.size, 0, none⟩) lb1).trans k10) (((h.old (h.nogi (by decide))).cell (p := ⟨w.heap.size, 1, none⟩) lb1).trans k11)) rfl
    · rintro L fa wx h hcl hL hw2
      exact rp_make h (by decide) rfl rfl rfl (by decide) (by decide) (h.nogi (by decide)) rfl (run_call1 (eval_G (show G fa 25 = .agg #[.int .i64 c1, .int .i64 x1] from h.lit (hw2 ⟨0, .data⟩ (by simp) rfl) rfl rfl)) callRatd) (ratd_make c1 x1 (by omega) (by omega) (by omega) (by omega) wx) rfl
    · rintro L fa wx h hcl hL hw2
      exact rp_val h (by decide) rfl rfl rfl (by decide) (by decide) rfl (run_ldD (eval_G ((h.keep (s := 5) (by decide)).trans s5)) (((h.old (h.nogi (by decide))).cell (p := ⟨w.heap.size + 1, 0, none⟩) lb2).trans k20) (((h.old (h.nogi (by decide))).cell (p := ⟨w.heap.size + 1, 1, none⟩) lb2).trans k21)) rfl
    · rintro L fa wx h hcl hL hw2
      exact rp_make h (by decide) rfl rfl rfl (by decide) (by decide) (h.nogi (by decide)) rfl (run_call1 (eval_G (show G fa 27 = .agg #[.int .i64 c2, .int .i64 x2] from h.lit (hw2 ⟨2, .data⟩ (by simp) rfl) rfl rfl)) callRatd) (ratd_make c2 x2 (by omega) (by omega) (by omega) (by omega) wx) rfl
    · rintro L fa wx h hcl hL hw2
      exact rp_new h (by decide) rfl rfl rfl (by decide) (by decide) (h.nogi (by decide)) rfl run_newR ZA.newR rfl
    · rintro L fa wx h hcl hL hw2
      exact rp_copy h (by decide) rfl rfl rfl (by decide) (by decide) (h.nogi (by decide)) rfl (hw2 ⟨1, .data⟩ (by simp) rfl) rfl (run_asg rfl) rfl
    · rintro L fa wx h hcl hL hw2
      exact rp_copy h (by decide) rfl rfl rfl (by decide) (by decide) (h.nogi (by decide)) rfl (hw2 ⟨3, .data⟩ (by simp) rfl) rfl (run_asg rfl) rfl
    · rintro L fa wx h hcl hL hw2
      exact rp_copy h (by decide) rfl rfl rfl (by decide) (by decide) (h.nogi (by decide)) rfl (hw2 ⟨4, .data⟩ (by simp) rfl) rfl (run_asg rfl) rfl
  case done =>
    rintro L f1 w3 h hall
    have hno : L 99 = false := h.nogi (by decide)
    obtain ⟨b10, o10, q10, i10⟩ := h.ptr (i := 5) hno (hall 5 (by simp)) rfl rfl
    obtain ⟨rfl, r10⟩ : o10 = 0 ∧ RV w3 b10 (c1 * (10 : Int) ^ x1.toNat) ((10 : Int) ^ (-x1).toNat) := i10
    obtain ⟨b11, o11, q11, i11⟩ := h.ptr (i := 6) hno (hall 6 (by simp)) rfl rfl
    obtain ⟨rfl, r11⟩ : o11 = 0 ∧ RV w3 b11 (c2 * (10 : Int) ^ x2.toNat) ((10 : Int) ^ (-x2).toNat) := i11
    obtain ⟨b12, q12, z12, l12⟩ := h.new (i := 7) hno (hall 7 (by simp)) rfl rfl
    have q0 := (h.keep (s := 0) (by decide)).trans s0
    have q5 := (h.keep (s := 5) (by decide)).trans s5
    have q6 := (h.keep (s := 6) (by decide)).trans s6
    have HO := hide (h.old hno)
    have s3 := (unhide HO).size
    rw [fr61 h.size h.defs, q0, q5, q6, q10, q11, q12]
    clear h hall q0 q5 q6 q10 q11 q12 hno
    have OP := hide (rquo_any b12 b10 b11 (c1 * (10 : Int) ^ x1.toNat) ((10 : Int) ^ (-x1).toNat) (c2 * (10 : Int) ^ x2.toNat) ((10 : Int) ^ (-x2).toNat) w3 z12 r10 r11 (pow_ne _) (pow_ne _) (by omega) (by omega) (by omega) (by omega) nz2)
    have HZ := hide z12
    clear r10 r11 z12
    have m20 := ((unhide HO).cell (p := ⟨w.heap.size + 1, 0, none⟩) (by show w.heap.size + 1 < w2.heap.size; omega)).trans k20
    have m21 := ((unhide HO).cell (p := ⟨w.heap.size + 1, 1, none⟩) (by show w.heap.size + 1 < w2.heap.size; omega)).trans k21
    have m30 := ((unhide HO).cell (p := ⟨w.heap.size + 2, 0, none⟩) (by show w.heap.size + 2 < w2.heap.size; omega)).trans k30
    have m31 := ((unhide HO).cell (p := ⟨w.heap.size + 2, 1, none⟩) (by show w.heap.size + 2 < w2.heap.size; omega)).trans k31
    have fw0 := ((unhide HO).frozen (p := ⟨w.heap.size + 2, 0, none⟩) (by show w.heap.size + 2 < w2.heap.size; omega)).trans fx0
    have fw1 := ((unhide HO).frozen (p := ⟨w.heap.size + 2, 1, none⟩) (by show w.heap.size + 2 < w2.heap.size; omega)).trans fx1
    clear k10 k11 k20 k21 k30 k31 fx0 fx1
    go_wp2_with fail
    refine (unhide OP).mono ?_
    rintro e w4 ⟨rfl, r4, k4⟩
    have r5 : RV w4 b12 N D := by rcases hND with ⟨rfl, rfl⟩ | ⟨rfl, rfl⟩; exact r4; exact r4.neg
    have B4 : Below w2.heap.size w3 w4 := k4.below l12 (unhide HO).size
    have s4' := B4.size
    obtain ⟨t1, t2, t3, ht⟩ : ∃ t1 t2 t3, fitT N D = (t1, t2, t3) := ⟨_, _, _, rfl⟩
    have FT : Hid (Calls Try.prog 36 #[.pointer (some ⟨b12, 0, none⟩)] w4 fun e w' => e = .returned (.tuple #[.agg #[.int .i64 t1, .int .i64 t2], .int .i64 t3]) ∧ Below w4.heap.size w4 w') := hide ((fit_any b12 N D w4 r5 (unhide HD) (by omega) (by omega)).mono (by
      rintro e w' ⟨rfl, h⟩
      exact ⟨by rw [ht]; rfl, h⟩))
    have HT := hide ht
    have n30 := (B4.cell (p := ⟨w.heap.size + 2, 0, none⟩) (by show w.heap.size + 2 < w2.heap.size; omega)).trans m30
    have n31 := (B4.cell (p := ⟨w.heap.size + 2, 1, none⟩) (by show w.heap.size + 2 < w2.heap.size; omega)).trans m31
    have fv0 := (B4.frozen (p := ⟨w.heap.size + 2, 0, none⟩) (by show w.heap.size + 2 < w2.heap.size; omega)).trans fw0
    have fv1 := (B4.frozen (p := ⟨w.heap.size + 2, 1, none⟩) (by show w.heap.size + 2 < w2.heap.size; omega)).trans fw1
    have HB4 := hide ((below_step (unhide HB2) (unhide HO)).trans (B4.mono (by have := (unhide HB2).size; omega)))
    clear r4 r5 k4 B4 OP m20 m21 m30 m31 fw0 fw1 ht
    go_wp2_with fail
    refine (unhide FT).mono ?_
    rintro e w5 ⟨rfl, hb5⟩
    have o30 := (hb5.cell (p := ⟨w.heap.size + 2, 0, none⟩) (by show w.heap.size + 2 < w4.heap.size; omega)).trans n30
    have o31 := (hb5.cell (p := ⟨w.heap.size + 2, 1, none⟩) (by show w.heap.size + 2 < w4.heap.size; omega)).trans n31
    have fu0 := (hb5.frozen (p := ⟨w.heap.size + 2, 0, none⟩) (by show w.heap.size + 2 < w4.heap.size; omega)).trans fv0
    have fu1 := (hb5.frozen (p := ⟨w.heap.size + 2, 1, none⟩) (by show w.heap.size + 2 < w4.heap.size; omega)).trans fv1
    have HB5 := hide (below_step (unhide HB4) hb5)
    clear hb5 n30 n31 fv0 fv1
    go_wp2
    refine bodyPost_ret (v := .tuple #[.agg #[.int .i64 t1, .int .i64 t2], .int .i64 t3]) (by simp [results, Try.results7, go_sem, o30, o31]) rfl ?_
    rw [unhide HT]
    exact ⟨rfl, ((unhide HB5).setCell (by simp only; omega) _).setCell (by simp only; omega) _⟩

set_option maxRecDepth 100000 in
set_option maxHeartbeats 4000000 in
theorem do_zero (c1 x1 c2 x2 : Int) (w : World) (h1 : Dm.wrongN c1 x1 = 0) (h2 : Dm.wrongN c2 x2 = 0) (a1 : -1000000000000000000 < c1) (a2 : c1 < 1000000000000000000) (a3 : -40 ≤ x1) (a4 : x1 ≤ 40) (b1 : -1000000000000000000 < c2) (b2 : c2 < 1000000000000000000) (b3 : -40 ≤ x2) (b4 : x2 ≤ 40) (hc2 : c2 = 0) :
    Calls Try.prog 7 #[.int .u8 47, .agg #[.int .i64 c1, .int .i64 x1], .agg #[.int .i64 c2, .int .i64 x2]] w fun e w' => e = toldT (0, 0, 10) ∧ Below w.heap.size w w' := by
  obtain ⟨wC, hwC⟩ : ∃ wC, wC = (((w.alloc (.cells #[.int .i64 c1, .int .i64 x1] 23)).alloc (.cells #[.int .i64 c2, .int .i64 x2] 23)).alloc (.cells #[.int .i64 0, .int .i64 0] 23)) := ⟨_, rfl⟩
  have NC : Below w.heap.size w wC := by rw [hwC]; exact below_step (below_step (below_new _ _) (below_new _ _)) (below_new _ _)
  have sC : wC.heap.size = w.heap.size + 3 := by rw [hwC]; simp
  have p10 : wC.cell? ⟨w.heap.size, 0, none⟩ = some (.int .i64 c1) := by rw [hwC]; simp [go_sem]
  have p11 : wC.cell? ⟨w.heap.size, 1, none⟩ = some (.int .i64 x1) := by rw [hwC]; simp [go_sem]
  have p20 : wC.cell? ⟨w.heap.size + 1, 0, none⟩ = some (.int .i64 c2) := by rw [hwC]; simp [go_sem]
  have p21 : wC.cell? ⟨w.heap.size + 1, 1, none⟩ = some (.int .i64 x2) := by rw [hwC]; simp [go_sem]
  have p30 : wC.cell? ⟨w.heap.size + 2, 0, none⟩ = some (.int .i64 0) := by rw [hwC]; simp [go_sem]
  have p31 : wC.cell? ⟨w.heap.size + 2, 1, none⟩ = some (.int .i64 0) := by rw [hwC]; simp [go_sem]
  have fz0 : wC.frozen? ⟨w.heap.size + 2, 0, none⟩ = false := by rw [hwC]; simp [go_sem]
  have fz1 : wC.frozen? ⟨w.heap.size + 2, 1, none⟩ = false := by rw [hwC]; simp [go_sem]
  have W1 := hide (rwrong_any c1 x1 (((w.alloc (.cells #[.int .i64 c1, .int .i64 x1] 23)).alloc (.cells #[.int .i64 c2, .int .i64 x2] 23)).alloc (.cells #[.int .i64 0, .int .i64 0] 23)))
  have gz : (c2 == 0) = true := by rw [hc2]; rfl
  clear hc2
  have g1 : (Dm.wrongN c1 x1 != 0) = false := by rw [h1]; rfl
  have g2 : (Dm.wrongN c2 x2 != 0) = false := by rw [h2]; rfl
  clear h1 h2
  go_enter Try.func7, Try.ntmps7
  go_wp2_with fail
  refine (unhide W1).mono ?_
  rw [← hwC]
  rintro e w1 ⟨rfl, hb1⟩
  have s1 := hb1.size
  have q10 := (hb1.cell (p := ⟨w.heap.size, 0, none⟩) (by show w.heap.size < wC.heap.size; omega)).trans p10
  have q11 := (hb1.cell (p := ⟨w.heap.size, 1, none⟩) (by show w.heap.size < wC.heap.size; omega)).trans p11
  have q20 := (hb1.cell (p := ⟨w.heap.size + 1, 0, none⟩) (by show w.heap.size + 1 < wC.heap.size; omega)).trans p20
  have q21 := (hb1.cell (p := ⟨w.heap.size + 1, 1, none⟩) (by show w.heap.size + 1 < wC.heap.size; omega)).trans p21
  have q30 := (hb1.cell (p := ⟨w.heap.size + 2, 0, none⟩) (by show w.heap.size + 2 < wC.heap.size; omega)).trans p30
  have q31 := (hb1.cell (p := ⟨w.heap.size + 2, 1, none⟩) (by show w.heap.size + 2 < wC.heap.size; omega)).trans p31
  have fy0 := (hb1.frozen (p := ⟨w.heap.size + 2, 0, none⟩) (by show w.heap.size + 2 < wC.heap.size; omega)).trans fz0
  have fy1 := (hb1.frozen (p := ⟨w.heap.size + 2, 1, none⟩) (by show w.heap.size + 2 < wC.heap.size; omega)).trans fz1
  have W2 := hide (rwrong_any c2 x2 w1)
  have HB := hide (below_step NC hb1)
  clear hb1 p10 p11 p20 p21 p30 p31 fz0 fz1
  go_wp2_with fail
  refine (unhide W2).mono ?_
  rintro e w2 ⟨rfl, hb2⟩
  have s2 := hb2.size
  have k10 := (hb2.cell (p := ⟨w.heap.size, 0, none⟩) (by show w.heap.size < w1.heap.size; omega)).trans q10
  have k11 := (hb2.cell (p := ⟨w.heap.size, 1, none⟩) (by show w.heap.size < w1.heap.size; omega)).trans q11
  have k20 := (hb2.cell (p := ⟨w.heap.size + 1, 0, none⟩) (by show w.heap.size + 1 < w1.heap.size; omega)).trans q20
  have k21 := (hb2.cell (p := ⟨w.heap.size + 1, 1, none⟩) (by show w.heap.size + 1 < w1.heap.size; omega)).trans q21
  have k30 := (hb2.cell (p := ⟨w.heap.size + 2, 0, none⟩) (by show w.heap.size + 2 < w1.heap.size; omega)).trans q30
  have k31 := (hb2.cell (p := ⟨w.heap.size + 2, 1, none⟩) (by show w.heap.size + 2 < w1.heap.size; omega)).trans q31
  have fx0 := (hb2.frozen (p := ⟨w.heap.size + 2, 0, none⟩) (by show w.heap.size + 2 < w1.heap.size; omega)).trans fy0
  have fx1 := (hb2.frozen (p := ⟨w.heap.size + 2, 1, none⟩) (by show w.heap.size + 2 < w1.heap.size; omega)).trans fy1
  have HB2 := hide (below_step (unhide HB) hb2)
  have lb1 : w.heap.size < w2.heap.size := by omega
  have lb2 : w.heap.size + 1 < w2.heap.size := by omega
  have lb3 : w.heap.size + 2 < w2.heap.size := by omega
  clear hb2 q10 q11 q20 q21 q30 q31 fy0 fy1 hwC
  go_upto_region 7 with fail
  refine frame_intro (fun a => G a 0 = .int .u8 47 ∧ G a 4 = .pointer (some ⟨w.heap.size, 0, none⟩) ∧ G a 5 = .pointer (some ⟨w.heap.size + 1, 0, none⟩) ∧ G a 6 = .pointer (some ⟨w.heap.size + 2, 0, none⟩) ∧ a.tmps.size = 61 ∧ a.defers = []) ⟨rfl, rfl, rfl, rfl, rfl, rfl⟩ ?_
  rintro f0 ⟨s0, s4, s5, s6, hsz, hdf⟩
  refine region_any (I := RP w2 f0 61 [25, 26, 27, 28, 29, 10, 11, 12] 99 (fun _ => True) [.lit (.agg #[.int .i64 c1, .int .i64 x1]), .ptr 1 (pR (c1 * (10 : Int) ^ x1.toNat) ((10 : Int) ^ (-x1).toNat)), .lit (.agg #[.int .i64 c2, .int .i64 x2]), .ptr 3 (pR (c2 * (10 : Int) ^ x2.toNat) ((10 : Int) ^ (-x2).toNat)), .new 4 2, .ptr 1 (pR (c1 * (10 : Int) ^ x1.toNat) ((10 : Int) ^ (-x1).toNat)), .ptr 3 (pR (c2 * (10 : Int) ^ x2.toNat) ((10 : Int) ^ (-x2).toNat)), .new 4 2]) (by kernel_rfl) ?wait ?step ?done ?start
  case wait => exact ⟨(by simp <;> rfl), (by simp <;> rfl), (by simp <;> rfl), (by simp <;> rfl), (by simp <;> rfl), (by simp <;> rfl), (by simp <;> rfl), (by simp <;> rfl), trivial⟩
  case start => exact RP.start hsz hdf ((Below.refl _ _).drew)
  case step =>
    refine ⟨?_, ?_, ?_, ?_, ?_, ?_, ?_, ?_, trivial⟩
    · rintro L fa wx h hcl hL hw2
      exact rp_val h (by decide) rfl rfl rfl (by decide) (by decide) rfl (run_ldD (eval_G ((h.keep (s := 4) (by decide)).trans s4)) (((h.old (h.nogi (by decide))).cell (p := ⟨w.heap.size, 0, none⟩) lb1).trans k10) (((h.old (h.nogi (by decide))).cell (p := ⟨w.heap.size, 1, none⟩) lb1).trans k11)) rfl
    · rintro L fa wx h hcl hL hw2
      exact rp_make h (by decide) rfl rfl rfl (by decide) (by decide) (h.nogi (by decide)) rfl (run_call1 (eval_G (show G fa 25 = .agg #[.int .i64 c1, .int .i64 x1] from h.lit (hw2 ⟨0, .data⟩ (by simp) rfl) rfl rfl)) callRatd) (ratd_make c1 x1 (by omega) (by omega) (by omega) (by omega) wx) rfl
    · rintro L fa wx h hcl hL hw2
      exact rp_val h (by decide) rfl rfl rfl (by decide) (by decide) rfl (run_ldD (eval_G ((h.keep (s := 5) (by decide)).trans s5)) (((h.old (h.nogi (by decide))).cell (p := ⟨w.heap.size + 1, 0, none⟩) lb2).trans k20) (((h.old (h.nogi (by decide))).cell (p := ⟨w.heap.size + 1, 1, none⟩) lb2).trans k21)) rfl
    · rintro L fa wx h hcl hL hw2
      exact rp_make h (by decide) rfl rfl rfl (by decide) (by decide) (h.nogi (by decide)) rfl (run_call1 (eval_G (show G fa 27 = .agg #[.int .i64 c2, .int .i64 x2] from h.lit (hw2 ⟨2, .data⟩ (by simp) rfl) rfl rfl)) callRatd) (ratd_make c2 x2 (by omega) (by omega) (by omega) (by omega) wx) rfl
    · rintro L fa wx h hcl hL hw2
      exact rp_new h (by decide) rfl rfl rfl (by decide) (by decide) (h.nogi (by decide)) rfl run_newR ZA.newR rfl
    · rintro L fa wx h hcl hL hw2
      exact rp_copy h (by decide) rfl rfl rfl (by decide) (by decide) (h.nogi (by decide)) rfl (hw2 ⟨1, .data⟩ (by simp) rfl) rfl (run_asg rfl) rfl
    · rintro L fa wx h hcl hL hw2
      exact rp_copy h (by decide) rfl rfl rfl (by decide) (by decide) (h.nogi (by decide)) rfl (hw2 ⟨3, .data⟩ (by simp) rfl) rfl (run_asg rfl) rfl
    · rintro L fa wx h hcl hL hw2
      exact rp_copy h (by decide) rfl rfl rfl (by decide) (by decide) (h.nogi (by decide)) rfl (hw2 ⟨4, .data⟩ (by simp) rfl) rfl (run_asg rfl) rfl
  case done =>
    rintro L f1 w3 h hall
    have hno : L 99 = false := h.nogi (by decide)
    obtain ⟨b10, o10, q10, i10⟩ := h.ptr (i := 5) hno (hall 5 (by simp)) rfl rfl
    obtain ⟨rfl, r10⟩ : o10 = 0 ∧ RV w3 b10 (c1 * (10 : Int) ^ x1.toNat) ((10 : Int) ^ (-x1).toNat) := i10
    obtain ⟨b11, o11, q11, i11⟩ := h.ptr (i := 6) hno (hall 6 (by simp)) rfl rfl
    obtain ⟨rfl, r11⟩ : o11 = 0 ∧ RV w3 b11 (c2 * (10 : Int) ^ x2.toNat) ((10 : Int) ^ (-x2).toNat) := i11
    obtain ⟨b12, q12, z12, l12⟩ := h.new (i := 7) hno (hall 7 (by simp)) rfl rfl
    have q0 := (h.keep (s := 0) (by decide)).trans s0
    have q5 := (h.keep (s := 5) (by decide)).trans s5
    have q6 := (h.keep (s := 6) (by decide)).trans s6
    have HO := hide (h.old hno)
    have s3 := (unhide HO).size
    rw [fr61 h.size h.defs, q0, q5, q6, q10, q11, q12]
    clear h hall q0 q5 q6 q10 q11 q12 hno
    clear r10 r11 z12
    have m20 := ((unhide HO).cell (p := ⟨w.heap.size + 1, 0, none⟩) (by show w.heap.size + 1 < w2.heap.size; omega)).trans k20
    have m21 := ((unhide HO).cell (p := ⟨w.heap.size + 1, 1, none⟩) (by show w.heap.size + 1 < w2.heap.size; omega)).trans k21
    have m30 := ((unhide HO).cell (p := ⟨w.heap.size + 2, 0, none⟩) (by show w.heap.size + 2 < w2.heap.size; omega)).trans k30
    have m31 := ((unhide HO).cell (p := ⟨w.heap.size + 2, 1, none⟩) (by show w.heap.size + 2 < w2.heap.size; omega)).trans k31
    have fw0 := ((unhide HO).frozen (p := ⟨w.heap.size + 2, 0, none⟩) (by show w.heap.size + 2 < w2.heap.size; omega)).trans fx0
    have fw1 := ((unhide HO).frozen (p := ⟨w.heap.size + 2, 1, none⟩) (by show w.heap.size + 2 < w2.heap.size; omega)).trans fx1
    clear k10 k11 k20 k21 k30 k31 fx0 fx1
    have HB4 := hide (below_step (unhide HB2) (unhide HO))
    go_wp2
    refine bodyPost_ret (v := .tuple #[.agg #[.int .i64 0, .int .i64 0], .int .i64 10]) (by simp [results, Try.results7, go_sem, m30, m31]) rfl ?_
    exact ⟨rfl, ((unhide HB4).setCell (by simp only; omega) _).setCell (by simp only; omega) _⟩

end Go.Proofs.Ytibkemolmpcdcaa

/- Walks: stretched, compareSizes, Cmp. -/
namespace Go.Proofs.Ytibkemolmpcdcaa
open Go.RowKit

set_option maxHeartbeats 400000 in
theorem stretched_any (c x : Int) (w : World) (h1 : -1000000000000000000 < c) (h2 : c < 1000000000000000000) (h0 : 1 ≤ (c.natAbs : Int)) (hx1 : -40 ≤ x) (hx2 : x ≤ 40) :
    Calls Try.prog 76 #[.agg #[.int .i64 c, .int .i64 x]] w fun e w' => ∃ (m : Int) (k : Nat), e = .returned (.tuple #[.int .u64 m, .int .i64 (x - k)]) ∧ m = Dm.tens (c.natAbs : Int) k ∧ 100000000000000000 ≤ m ∧ m < 1000000000000000000 ∧ k ≤ 17 ∧ Below w.heap.size w w' := by
  have h9 : (c.natAbs : Int) < 1000000000000000000 := by omega
  go_enter Try.func76, Try.ntmps76
  go_upto_region 1 with fail
  go_cut [4, 5] from 6 (fun a b wc => a = .int .u64 (c.natAbs : Int) ∧ b = .int .i64 x ∧ Below w.heap.size w wc)
  case first =>
    go_region_with (go_at_call 44; refine (size_any c x _ h1 h2).mono ?_; rintro e w1 ⟨rfl, hb⟩; obtain ⟨hc, hf⟩ := bcell hb)
    all_goals
      go_wp2_with fail
      go_meet
      case rel => exact ⟨rfl, rfl, (((Below.refl _ _).alloc (Nat.le_refl _) _).drew).trans (hb.mono (by simp))⟩
  case rest =>
    obtain ⟨rfl, rfl, hbel⟩ := hcut
    go_wp2
    go_loop [4, 5] (fun a b => ∃ (m : Int) (k : Nat), a = .int .u64 m ∧ b = .int .i64 (x - k) ∧ Hid (m = Dm.tens (c.natAbs : Int) k) ∧ 1 ≤ m ∧ m < 1000000000000000000 ∧ k ≤ 17) (fun a _ => (1000000000000000000 - intOf a).toNat)
    case atStart => exact ⟨_, 0, rfl, by simp, hide rfl, h0, h9, by omega⟩
    case round =>
      obtain ⟨m, k, rfl, rfl, H, hm1, hm2, hk⟩ := hrel
      by_cases hlt : m < 100000000000000000
      · have hk' := Dm.tens_lt (unhide H) h0 hlt
        go_wp2
        go_round
        case rel => exact ⟨_, k + 1, rfl, by go_num, hide (by rw [unhide H]; rfl), by omega, by omega, by omega⟩
        case measure => simp [intOf]; omega
      · go_wp2
        go_ret2
        exact ⟨m, k, rfl, unhide H, by omega, hm2, hk, hbel⟩

set_option maxHeartbeats 400000 in
theorem compareSizes_any (c1 x1 c2 x2 : Int) (w : World) (a1 : -1000000000000000000 < c1) (a2 : c1 < 1000000000000000000) (a0 : 1 ≤ (c1.natAbs : Int)) (a3 : -40 ≤ x1) (a4 : x1 ≤ 40)
    (b1 : -1000000000000000000 < c2) (b2 : c2 < 1000000000000000000) (b0 : 1 ≤ (c2.natAbs : Int)) (b3 : -40 ≤ x2) (b4 : x2 ≤ 40) :
    Calls Try.prog 42 #[.agg #[.int .i64 c1, .int .i64 x1], .agg #[.int .i64 c2, .int .i64 x2]] w fun e w' => e = .returned (.int .i64 (Dm.sgn (Dm.V (c1.natAbs : Int) x1 - Dm.V (c2.natAbs : Int) x2))) ∧ Below w.heap.size w w' := by
  go_enter Try.func42, Try.ntmps42
  go_wp2_with fail
  refine (stretched_any c1 x1 _ a1 a2 a0 a3 a4).mono ?_
  rintro e w1 ⟨m1, k1, rfl, e1, l1, u1, t1, hb⟩
  obtain ⟨hc, hf⟩ := bcell hb
  have hz : w.heap.size + 2 ≤ w1.heap.size := by have := hb.size; simp at this; omega
  have hb0 : Below w.heap.size w w1 := (((Below.refl _ _).alloc (Nat.le_refl _) _).alloc (by simp) _).trans (hb.mono (by simp; omega))
  have E1 := hide e1
  clear e1
  go_wp2_with fail
  refine (stretched_any c2 x2 _ b1 b2 b0 b3 b4).mono ?_
  rintro e w2 ⟨m2, k2, rfl, e2, l2, u2, t2, hb2⟩
  have hb9 : Below w.heap.size w w2 := hb0.trans (hb2.mono (by omega))
  have E2 := hide e2
  clear e2 hc hf hz hb0
  have HV := hide (Dm.cmp_sizes a3 b3 (unhide E1) (unhide E2) l1 u1 l2 u2 t1 t2)
  by_cases h : x1 - (k1 : Int) = x2 - (k2 : Int)
  · have h' : (x1 - (k1 : Int) != x2 - (k2 : Int)) = false := by simp [h]
    have h2 := hide h
    clear h
    go_wp2_with fail
    refine (cmpU64_any m1 m2 _).mono ?_
    rintro e w3 ⟨rfl, rfl⟩
    go_wp2
    go_ret
    exact ⟨ret_int ((unhide HV).1 (unhide h2)).symm, hb9⟩
  · have h' : (x1 - (k1 : Int) != x2 - (k2 : Int)) = true := by simp [h]
    have h2 := hide h
    clear h
    go_wp2_with fail
    refine (cmpInt_any _ _ _).mono ?_
    rintro e w3 ⟨rfl, rfl⟩
    go_wp2
    go_ret
    exact ⟨ret_int ((unhide HV).2 (unhide h2)).symm, hb9⟩

end Go.Proofs.Ytibkemolmpcdcaa

/- Walks: Cmp. -/
namespace Go.Proofs.Ytibkemolmpcdcaa
open Go.RowKit

set_option maxHeartbeats 400000 in
theorem cmp_no (c1 x1 c2 x2 : Int) (w : World) (h : (Dm.wrong2 c1 x1 c2 x2 != 0) = true) :
    Calls Try.prog 11 #[.agg #[.int .i64 c1, .int .i64 x1], .agg #[.int .i64 c2, .int .i64 x2]] w fun e w' => e = .returned (.tuple #[.int .i64 0, .int .i64 (Dm.wrong2 c1 x1 c2 x2)]) ∧ Below w.heap.size w w' := by
  go_enter Try.func11, Try.ntmps11
  go_wp2_with fail
  refine (wrongOf_any c1 x1 c2 x2 _).mono ?_
  rintro e w1 ⟨rfl, hb⟩
  go_wp2
  go_ret2
  exact ⟨rfl, (((Below.refl _ _).alloc (Nat.le_refl _) _).alloc (by simp) _).trans (hb.mono (by simp; omega))⟩

/-- Cmp of two right numbers, out of what its callees come to. -/
theorem cmp_core (c1 x1 c2 x2 : Int) (w : World) (h : Dm.wrong2 c1 x1 c2 x2 = 0) (r : Int)
    (hd : Dm.sgn c1 ≠ Dm.sgn c2 → r = Dm.sgn (Dm.sgn c1 - Dm.sgn c2)) (hz : Dm.sgn c1 = Dm.sgn c2 → Dm.sgn c1 = 0 → r = 0)
    (hs : Dm.sgn c1 = Dm.sgn c2 → Dm.sgn c1 ≠ 0 → ∃ s, -1 ≤ s ∧ s ≤ 1 ∧ r = Dm.sgn c1 * s ∧ ∀ wx, Calls Try.prog 42 #[.agg #[.int .i64 c1, .int .i64 x1], .agg #[.int .i64 c2, .int .i64 x2]] wx fun e w' => e = .returned (.int .i64 s) ∧ Below wx.heap.size wx w') :
    Calls Try.prog 11 #[.agg #[.int .i64 c1, .int .i64 x1], .agg #[.int .i64 c2, .int .i64 x2]] w fun e w' => e = .returned (.tuple #[.int .i64 r, .int .i64 0]) ∧ Below w.heap.size w w' := by
  have hd' := hide hd
  have hz' := hide hz
  have hs' := hide hs
  clear hd hz hs
  have sb := Dm.sgn_bd c1
  go_enter Try.func11, Try.ntmps11
  go_wp2_with fail
  refine (wrongOf_any c1 x1 c2 x2 _).mono ?_
  rintro e w1 ⟨rfl, hb⟩
  obtain ⟨hc, hf⟩ := bcell hb
  have hz1 : w.heap.size + 2 ≤ w1.heap.size := by have := hb.size; simp at this; omega
  have hb0 : Below w.heap.size w w1 := (((Below.refl _ _).alloc (Nat.le_refl _) _).alloc (by simp) _).trans (hb.mono (by simp; omega))
  rw [h]
  clear h
  go_wp2_with fail
  go_quiet ((go_at_call 40; exact Calls.quiet_of_same (cmpI64_any _ _ _)))
  by_cases h12 : Dm.sgn c1 = Dm.sgn c2
  · have h12' : (Dm.sgn c1 != Dm.sgn c2) = false := by simp [h12]
    have e12 := hide h12
    clear h12
    by_cases h0 : Dm.sgn c1 = 0
    · have h0' : (Dm.sgn c1 == 0) = true := by simp [h0]
      have e0 := hide h0
      clear h0
      go_wp2
      go_ret2
      rw [unhide hz' (unhide e12) (unhide e0)]
      exact ⟨rfl, below_drewN hb0 _⟩
    · have h0' : (Dm.sgn c1 == 0) = false := by simp [h0]
      obtain ⟨s, l1, l2, er, hcalls⟩ := unhide hs' (unhide e12) h0
      have hcalls' := hide hcalls
      have er' := hide er
      have em : -1 ≤ Dm.sgn c1 * s ∧ Dm.sgn c1 * s ≤ 1 := by
        rcases (show Dm.sgn c1 = -1 ∨ Dm.sgn c1 = 1 by omega) with q | q <;> rw [q] <;> omega
      obtain ⟨em1, em2⟩ := em
      clear hcalls er h0
      go_wp2_with fail
      refine (unhide hcalls' _).mono ?_
      rintro e w2 ⟨rfl, hb2⟩
      go_wp2
      go_ret2
      rw [unhide er']
      exact ⟨rfl, (below_drewN hb0 _).trans (hb2.mono (by simp; omega))⟩
  · have h12' : (Dm.sgn c1 != Dm.sgn c2) = true := by simp [h12]
    have hr := hide (unhide hd' h12)
    clear h12
    go_wp2_with fail
    refine (cmpInt_any _ _ _).mono ?_
    rintro e w3 ⟨rfl, rfl⟩
    go_wp2
    go_ret2
    rw [unhide hr]
    exact ⟨rfl, below_drewN hb0 _⟩

theorem cmp_ok (c1 x1 c2 x2 : Int) (w : World) (h1 : Dm.wrongN c1 x1 = 0) (h2 : Dm.wrongN c2 x2 = 0) :
    Calls Try.prog 11 #[.agg #[.int .i64 c1, .int .i64 x1], .agg #[.int .i64 c2, .int .i64 x2]] w fun e w' => e = .returned (.tuple #[.int .i64 (Dm.sgn (Dm.V c1 x1 - Dm.V c2 x2)), .int .i64 0]) ∧ Below w.heap.size w w' := by
  obtain ⟨p1, p2, p3, p4, _⟩ := Dm.wrong_ok h1
  obtain ⟨q1, q2, q3, q4, _⟩ := Dm.wrong_ok h2
  refine cmp_core c1 x1 c2 x2 w (by rw [Dm.wrong2_ok h1, h2]) _ ?_ ?_ ?_
  · exact Dm.cmp_diff x1 x2
  · exact Dm.cmp_zero x1 x2
  · intro h12 h0
    obtain ⟨n1, n2, hr⟩ := Dm.cmp_same x1 x2 h12 h0
    exact ⟨_, (Dm.sgn_bd _).1, (Dm.sgn_bd _).2, hr, fun wx => compareSizes_any c1 x1 c2 x2 wx p1 p2 n1 p3 p4 q1 q2 n2 q3 q4⟩
end Go.Proofs.Ytibkemolmpcdcaa

/- Digits in memory: a slice of bytes that holds them. -/
namespace Go.Proofs.Ytibkemolmpcdcaa
open Go.RowKit

/-- the slice at block b, from off on, holds the n digits that D tells -/
structure DS (w : World) (b off n : Nat) (D : Nat → Nat) : Prop where
  blk : b < w.heap.size
  cell : ∀ j, j < n → w.cell? ⟨b, off + j, none⟩ = some (.int .u8 (D j : Int))
  dig : ∀ j, D j < 10
  len : n ≤ 1000

theorem DS.below {w w' : World} {b off n : Nat} {D : Nat → Nat} (h : DS w b off n D) (hb : Below w.heap.size w w') : DS w' b off n D :=
  ⟨Nat.lt_of_lt_of_le h.blk hb.size, fun j hj => (hb.cell (p := ⟨b, off + j, none⟩) h.blk).trans (h.cell j hj), h.dig, h.len⟩
theorem DS.drop {w : World} {b off n : Nat} {D : Nat → Nat} (h : DS w b off n D) (k : Nat) (hk : k ≤ n) : DS w b (off + k) (n - k) (fun j => D (k + j)) :=
  ⟨h.blk, fun j hj => by rw [Nat.add_assoc]; exact h.cell (k + j) (by omega), fun j => h.dig _, by have := h.len; omega⟩
theorem DS.empty {w : World} {b off n : Nat} {D : Nat → Nat} (h : DS w b off n D) (off' : Nat) {E : Nat → Nat} (hE : ∀ j, E j < 10) {m : Nat} (hm : m = 0) : DS w b off' m E :=
  ⟨h.blk, fun j hj => absurd hj (by omega), hE, by omega⟩
end Go.Proofs.Ytibkemolmpcdcaa

/- Walks: padded. -/
namespace Go.Proofs.Ytibkemolmpcdcaa
open Go.RowKit

/-- the cells of n digits -/
def rowL (D : Nat → Nat) (n : Nat) : List Value := (List.range n).map fun j => Value.int .u8 (D j : Int)
theorem rowL_len (D : Nat → Nat) (n : Nat) : (rowL D n).length = n := by simp [rowL]
theorem rowL_at (D : Nat → Nat) {n j : Nat} (h : j < n) : (rowL D n)[j]? = some (Value.int .u8 (D j : Int)) := by simp [rowL, h]
theorem rowL_set (D : Nat → Nat) (n i d : Nat) : (rowL D n).set i (Value.int .u8 (d : Int)) = rowL (Dm.upd D i d) n := by
  apply List.ext_getElem?
  intro j
  rw [List.getElem?_set]
  by_cases h : j < n
  · by_cases e : i = j
    · subst e; rw [if_pos rfl, if_pos (by rw [rowL_len]; exact h), rowL_at _ h, Dm.upd_same]
    · rw [if_neg e, rowL_at _ h, rowL_at _ h, Dm.upd_other (fun q => e q.symm)]
  · have a : (rowL D n)[j]? = none := List.getElem?_eq_none (by rw [rowL_len]; omega)
    have b : (rowL (Dm.upd D i d) n)[j]? = none := List.getElem?_eq_none (by rw [rowL_len]; omega)
    rw [a, b]
    by_cases e : i = j
    · subst e; rw [if_pos rfl, if_neg (by rw [rowL_len]; exact h)]
    · rw [if_neg e]
theorem rowL_zero (n : Nat) : List.replicate n (Value.int .u8 0) = rowL (fun _ => 0) n := by
  apply List.ext_getElem?
  intro j
  by_cases h : j < n
  · rw [rowL_at _ h]; simp [h]
  · rw [List.getElem?_eq_none (by simp; omega), List.getElem?_eq_none (by rw [rowL_len]; omega)]
theorem rowL_congr {D E : Nat → Nat} {n : Nat} (h : ∀ j, j < n → D j = E j) : rowL D n = rowL E n := by
  unfold rowL
  refine List.map_congr_left fun j hj => ?_
  rw [h j (by simpa using hj)]
theorem DS.own {w : World} {base e g n cap : Nat} {D : Nat → Nat} (h : w.ownsRow base e 1 (.slice (some ⟨g, 0, none⟩) n cap) n (rowL D n)) (hD : ∀ j, D j < 10) (hn : n ≤ 1000) : DS w g 0 n D := by
  refine ⟨?_, fun j hj => ?_, hD, hn⟩
  · rcases h.2 with ⟨h', _⟩ | ⟨g', cap', cur, h', _, hg, _⟩
    · simp at h'
    · simp only [Value.slice.injEq, Option.some.injEq, Addr.mk.injEq, and_true, true_and] at h'
      obtain ⟨rfl, rfl⟩ := h'
      rcases Nat.lt_or_ge g w.heap.size with q | q
      · exact q
      · rw [Array.getElem?_eq_none q] at hg; simp at hg
  · rw [Nat.zero_add, h.cellAt j (by omega), rowL_at _ hj]

theorem info_u8 : (Try.prog.info? 5).map (fun i => (i.zero, i.size, i.bytes)) = some (some (.int .u8 0), 1, 1) := by kernel_rfl

theorem pad_quo {N W q m : Nat} (h : q = N / 10 ^ (W - (m + 1))) (hm : m + 1 ≤ W) : q / 10 = N / 10 ^ (W - m) := by
  rw [h, Nat.div_div_eq_div_mul, ← Nat.pow_succ, show (W - (m + 1)).succ = W - m by omega]
theorem pad_dig {N W q m : Nat} {R : Nat → Nat} (h : q = N / 10 ^ (W - (m + 1))) (_hm : m + 1 ≤ W) (hR : ∀ j, m + 1 ≤ j → j < W → R j = Dm.pd N W j) : ∀ j, m ≤ j → j < W → Dm.upd R m (q % 10) j = Dm.pd N W j := by
  intro j a b
  by_cases e : j = m
  · subst e; rw [Dm.upd_same, h]; unfold Dm.pd; rw [show W - 1 - j = W - (j + 1) by omega]
  · rw [Dm.upd_other e]; exact hR j (by omega) b

set_option maxHeartbeats 400000 in
theorem padded_any (N W : Nat) (w : World) (hN : N < 18446744073709551616) (hW : W ≤ 1000) :
    Calls Try.prog 43 #[.int .u64 (N : Int), .int .i64 (W : Int)] w fun e w' => e = .returned (.slice (some ⟨w.heap.size, 0, none⟩) W W) ∧ w'.ownsRow w.heap.size 5 1 (.slice (some ⟨w.heap.size, 0, none⟩) W W) W (rowL (Dm.pd N W) W) ∧ Below w.heap.size w w' := by
  obtain ⟨i0, hi, hz0, hz1, hz2⟩ := info_parts info_u8
  go_enter Try.func43, Try.ntmps43
  go_wp2_with (at_make; refine wpList_make_full _ rfl _ _ 54 rfl w.heap.size 5 i0 (.int .u8 0) 1 Try.underlying54 hi hz0 hz1 _ _ _ _ W rfl rfl rfl rfl ?c1 ?c2 ?c3 ?_)
  case c1 => rw [hz2]; omega
  case c2 => unfold maxLen; omega
  case c3 => exact Nat.le_refl _
  intro w1 hown hgrow
  have hb1 : Below w.heap.size w w1 := (Below.refl _ _).grown hgrow (Nat.le_refl _) (fun k hk => by simp at hk)
  rw [toList_madeCells_one, rowL_zero] at hown
  clear hgrow hi hz0 hz1 hz2
  go_wp2
  go_loopw [0, 6] (fun a i wr => ∃ (m q : Nat) (R : Nat → Nat), m ≤ W ∧ i = .int .i64 ((m : Int) - 1) ∧ a = .int .u64 (q : Int) ∧ q < 18446744073709551616 ∧ Hid (q = N / 10 ^ (W - m)) ∧ Hid (∀ j, m ≤ j → j < W → R j = Dm.pd N W j) ∧ wr.ownsRow w.heap.size 5 1 (.slice (some ⟨w.heap.size, 0, none⟩) W W) W (rowL R W) ∧ Below w.heap.size w wr) (fun _ i _ => (intOf i + 1).toNat)
  case atStart => exact ⟨W, N, _, Nat.le_refl _, rfl, rfl, hN, hide (by simp), hide (fun j a b => by omega), hown, hb1⟩
  case round =>
    obtain ⟨m, q, R, hm, rfl, rfl, hq, HQ, HR, hownr, hbr⟩ := hrel
    clear hown hb1
    cases m with
    | zero =>
      have HD := hide (rowL_congr (D := R) (E := Dm.pd N W) (n := W) (fun j hj => unhide HR j (Nat.zero_le _) hj))
      go_wp2
      go_ret
      rw [unhide HD] at hownr
      exact ⟨rfl, hownr, hbr⟩
    | succ m' =>
      rw [show ((m' + 1 : Nat) : Int) - 1 = (m' : Int) by omega]
      have hfr := hownr.frozenAt m'
      have hcl := (hownr.cellAt m' (by omega)).trans (rowL_at R (by omega))
      have hst := hide (hownr.stored m' (.int .u8 ((q % 10 : Nat) : Int))).1
      clear hownr
      have E1 := hide (pad_quo (unhide HQ) hm)
      have E2 := hide (pad_dig (unhide HQ) hm (unhide HR))
      rw [rowL_set] at hst
      go_wp2
      rw [show (q : Int) % 10 = ((q % 10 : Nat) : Int) by omega, show (q : Int) / 10 = ((q / 10 : Nat) : Int) by omega]
      refine ⟨⟨m', q / 10, Dm.upd R m' (q % 10), by omega, rfl, rfl, by omega, E1, E2, unhide hst, hbr.setCell (Nat.le_refl _) _⟩, ?_⟩
      simp [intOf]
end Go.Proofs.Ytibkemolmpcdcaa

/- Walks: column. -/
namespace Go.Proofs.Ytibkemolmpcdcaa
open Go.RowKit

theorem run_append_no_zeros (w : World) (base : Option Addr) (n cap : Nat) (hc : n ≤ cap) :
    (Builtin.append_ #[54, 3] 54 #[.slice base n cap, .int .i64 0]).run Try.prog w = .ok (.slice base n cap) w := by
  obtain ⟨i0, hi, hz0, hz1, hz2⟩ := info_parts info_u8
  have hw : IntKind.i64.wrap (0 : Int) = 0 := by rw [IntKind.wrap_i64]; omega
  simp [Builtin.append_, run_underlying Try.underlying54, run_underlying Try.underlying3, sizeOf, typeInfo, hi, hz1, asInt, asIntOf, hw, hc]
  cases base <;> simp [storeCells]

/-- the cells of a column: the digits, the noughts, and what more the array has -/
theorem col_cells (D : Nat → Nat) (m z k j : Nat) (h : j < m + z) :
    ((rowL D m).toArray ++ Builtin.zeroCells (Value.int IntKind.u8 0).cells z ++ Builtin.zeroCells (Value.int IntKind.u8 0).cells k)[j]? = some (Value.int .u8 ((if j < m then D j else 0 : Nat) : Int)) := by
  have hz : (Builtin.zeroCells (Value.int IntKind.u8 0).cells z).size = z := by rw [size_zeroCells]; simp [Value.cells]
  have hr : (rowL D m).toArray.size = m := by simp [rowL_len]
  rw [Array.getElem?_append_left (by rw [Array.size_append, hr, hz]; exact h)]
  by_cases g : j < m
  · rw [Array.getElem?_append_left (by rw [hr]; exact g), if_pos g, List.getElem?_toArray, rowL_at D g]
  · rw [Array.getElem?_append_right (by rw [hr]; omega), hr, if_neg g]
    have : j - m < z := by omega
    simp [Builtin.zeroCells, Value.cells, this, Nat.mod_one]

theorem col_grow {w : World} {g m z : Nat} {D : Nat → Nat} (hz : 0 < z) (hm : m + z ≤ 1000) (hD : DS w g 0 m D) :
    ∃ cap w', m + z ≤ cap ∧ (Builtin.append_ #[54, 3] 54 #[.slice (some ⟨g, 0, none⟩) m m, .int .i64 (z : Int)]).run Try.prog w = .ok (.slice (some ⟨w.heap.size, 0, none⟩) (m + z) cap) w' ∧
      DS w' w.heap.size 0 (m + z) (fun j => if j < m then D j else 0) ∧ Below w.heap.size w w' := by
  obtain ⟨i0, hi, hz0, hz1, hz2⟩ := info_parts info_u8
  have hold : (Builtin.firstCells i0.size m (.slice (some ⟨g, 0, none⟩) m m)).run Try.prog w.drew = .ok (rowL D m).toArray w.drew := by
    refine run_firstCells_some _ i0.size m ⟨g, 0, none⟩ m m (rowL D m) (by rw [rowL_len, hz1, Nat.mul_one]) ?_
    intro j v hv
    have hj : j < m := by have := (List.getElem?_eq_some_iff.1 hv).1; rw [rowL_len] at this; exact this
    rw [rowL_at D hj] at hv
    have hc : w.cell? ⟨g, 0 + j, none⟩ = some v := by rw [hD.cell j hj]; exact hv
    rw [Addr.add_lit]; exact hc
  have hr := Lib.run_append_grow_zeros (P := Try.prog) w 54 3 54 5 i0 (.int .u8 0) .i64 .i64 Try.underlying54 Try.underlying3 hi hz0 (some ⟨g, 0, none⟩) m m (rowL D m) hold z hz (by omega) (by omega) (by omega) (by rw [hz2]; omega) (growslice_fits (by omega) (by rw [hz2]; omega))
  refine ⟨_, _, grownCap_ge _ _ _ _, hr, ⟨?_, ?_, ?_, by omega⟩, ?_⟩
  · simp
  · intro j hj
    rw [Nat.zero_add]
    exact (World.cell?_alloc_at (w := w.drew) _ _ w.heap.size j rfl).trans (col_cells D m z _ j hj)
  · intro j
    show (if j < m then D j else 0) < 10
    split
    · exact hD.dig j
    · omega
  · exact (Below.refl w.heap.size w).drew.alloc (Nat.le_refl _) _

set_option maxHeartbeats 400000 in
theorem column_any (c x low : Int) (W z : Nat) (w : World) (h1 : -1000000000000000000 < c) (h2 : c < 1000000000000000000) (hl1 : -100 ≤ low) (hx : x - low = (z : Int)) (hx2 : x ≤ 100) (hW : W ≤ 1000) (hz : z + 18 ≤ W) :
    Calls Try.prog 62 #[.agg #[.int .i64 c, .int .i64 x], .int .i64 low, .int .i64 (W : Int)] w fun e w' => ∃ g cap, e = .returned (.slice (some ⟨g, 0, none⟩) W cap) ∧ W ≤ cap ∧ DS w' g 0 W (Dm.cl c.natAbs W z) ∧ Below w.heap.size w w' := by
  have X := hide hx
  have hx3 : low ≤ x := by omega
  have hx4 : x - low ≤ 1000 := by omega
  clear hx
  go_enter Try.func62, Try.ntmps62
  go_wp2_with fail
  refine (size_any c x _ h1 h2).mono ?_
  rintro e w1 ⟨rfl, hb⟩
  rw [unhide X]
  have hb0 : Below w.heap.size w w1 := ((Below.refl _ _).alloc (Nat.le_refl _) _).trans (hb.mono (by simp))
  go_wp2_with fail
  rw [show (W : Int) - (z : Int) = ((W - z : Nat) : Int) by omega]
  refine (padded_any c.natAbs (W - z) _ (by omega) (by omega)).mono ?_
  rintro e w2 ⟨rfl, hown, hb2⟩
  have hD := DS.own hown (Dm.pd_lt _ _) (by omega)
  have hb3 : Below w.heap.size w w2 := hb0.trans (hb2.mono hb0.size)
  clear hown
  rcases Nat.eq_zero_or_pos z with h0 | h0
  · subst h0
    have hr := run_append_no_zeros w2 (some ⟨w1.heap.size, 0, none⟩) (W - 0) (W - 0) (Nat.le_refl _)
    have hD' := hide hD
    clear hD
    go_wp2_with (at_builtin; refine Lib.wpList_append_run _ rfl _ _ _ _ rfl _ _ rfl rfl _ _ hr ?_)
    go_ret
    refine ⟨_, _, rfl, Nat.le_refl _, ?_, hb3⟩
    have := unhide hD'
    exact ⟨this.blk, fun j hj => by rw [this.cell j hj]; unfold Dm.cl; rw [if_pos (by omega)], Dm.cl_lt _ _ _, by omega⟩
  · obtain ⟨cap, w3, hcap, hr, hD3, hb4⟩ := col_grow h0 (by omega) hD
    have hD' := hide hD3
    clear hD hD3
    go_wp2_with (at_builtin; refine Lib.wpList_append_run _ rfl _ _ _ _ rfl _ _ rfl rfl _ _ hr ?_)
    go_ret
    have := unhide hD'
    rw [show W - z + z = W by omega] at this hcap ⊢
    exact ⟨_, _, rfl, hcap, this, hb3.trans (hb4.mono hb3.size)⟩
end Go.Proofs.Ytibkemolmpcdcaa
