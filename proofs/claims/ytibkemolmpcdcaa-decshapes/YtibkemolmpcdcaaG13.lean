/- Walks: the document's answer: Do (written by gen_br5.py). -/
import Derived.Test.YtibkemolmpcdcaaG12
import Derived.Test.YtibkemolmpcdcaaG11
import Derived.Test.YtibkemolmpcdcaaG01
import Derived.Test.YtibkemolmpcdcaaG09
import Derived.Lib.AppendZerosOnto
namespace Go.Proofs.Ytibkemolmpcdcaa
open Go.RowKit

set_option maxRecDepth 100000 in
set_option maxHeartbeats 4000000 in
theorem do_mul (c1 x1 c2 x2 : Int) (w : World) (h1 : Dm.wrongN c1 x1 = 0) (h2 : Dm.wrongN c2 x2 = 0) (a1 : -1000000000000000000 < c1) (a2 : c1 < 1000000000000000000) (a3 : -40 ≤ x1) (a4 : x1 ≤ 40) (b1 : -1000000000000000000 < c2) (b2 : c2 < 1000000000000000000) (b3 : -40 ≤ x2) (b4 : x2 ≤ 40) :
    Calls Try.prog 7 #[.int .u8 42, .agg #[.int .i64 c1, .int .i64 x1], .agg #[.int .i64 c2, .int .i64 x2]] w fun e w' => e = toldT (fitT ((c1 * (10 : Int) ^ x1.toNat) * (c2 * (10 : Int) ^ x2.toNat)) (((10 : Int) ^ (-x1).toNat) * ((10 : Int) ^ (-x2).toNat))) ∧ Below w.heap.size w w' := by
  obtain ⟨wC, hwC⟩ : ∃ wC, wC = (((w.alloc (.cells #[.int .i64 c1, .int .i64 x1] 23)).alloc (.cells #[.int .i64 c2, .int .i64 x2] 23)).alloc (.cells #[.int .i64 0, .int .i64 0] 23)) := ⟨_, rfl⟩
  have NC : Below w.heap.size w wC := by rw [hwC]; exact below_step (below_step (below_new _ _) (below_new _ _)) (below_new _ _)
  have sC : wC.heap.size = w.heap.size + 3 := by rw [hwC]; simp
  have p10 : wC.cell? ⟨w.heap.size, 0, none⟩ = some (.int .i64 c1) := by rw [hwC]; simp [go_sem]
  have p11 : wC.cell? ⟨w.heap.size, 1, none⟩ = some (.int .i64 x1) := by rw [hwC]; simp [go_sem]
  have p20 : wC.cell? ⟨w.heap.size + 1, 0, none⟩ = some (.int .i64 c2) := by rw [hwC]; simp [go_sem]
  have p21 : wC.cell? ⟨w.heap.size + 1, 1, none⟩ = some (.int .i64 x2) := by rw [hwC]; simp [go_sem]
  have p30 : wC.cell? ⟨w.heap.size + 2, 0, none⟩ = some (.int .i64 0) := by rw [hwC]; simp [go_sem]
  have p31 : wC.cell? ⟨w.heap.size + 2, 1, none⟩ = some (.int .i64 0) := by rw [hwC]; simp [go_sem]
  have fz0 : wC.frozen? ⟨w.heap.size + 2, 0, none⟩ = false := by rw [hwC]; simp [go_sem]
  have fz1 : wC.frozen? ⟨w.heap.size + 2, 1, none⟩ = false := by rw [hwC]; simp [go_sem]
  have W1 := hide (rwrong_any c1 x1 (((w.alloc (.cells #[.int .i64 c1, .int .i64 x1] 23)).alloc (.cells #[.int .i64 c2, .int .i64 x2] 23)).alloc (.cells #[.int .i64 0, .int .i64 0] 23)))
  have lc1 : Ln c1 ≤ 2 := Ln_small (by omega)
  have lc2 : Ln c2 ≤ 2 := Ln_small (by omega)
  have t1 := Ln_ten x1.toNat
  have t2 := Ln_ten x2.toNat
  have t3 := Ln_ten (-x1).toNat
  have t4 := Ln_ten (-x2).toNat
  have t5 := Ln_mul c1 ((10 : Int) ^ x1.toNat)
  have t6 := Ln_mul c2 ((10 : Int) ^ x2.toNat)
  have u1 := Ln_mul (c1 * (10 : Int) ^ x1.toNat) (c2 * (10 : Int) ^ x2.toNat)
  have u5 := Ln_mul ((10 : Int) ^ (-x1).toNat) ((10 : Int) ^ (-x2).toNat)
  have HD : Hid (0 < ((10 : Int) ^ (-x1).toNat) * ((10 : Int) ^ (-x2).toNat)) := hide (Int.mul_pos (Int.pow_pos (by decide)) (Int.pow_pos (by decide)))
  have g1 : (Dm.wrongN c1 x1 != 0) = false := by rw [h1]; rfl
  have g2 : (Dm.wrongN c2 x2 != 0) = false := by rw [h2]; rfl
  clear h1 h2
  go_enter Try.func7, Try.ntmps7
  go_wp2_with fail
  refine (unhide W1).mono ?_
  rw [← hwC]
  rintro e w1 ⟨rfl, hb1⟩
  have s1 := hb1.size
  have q10 := (hb1.cell (p := ⟨w.heap.size, 0, none⟩) (by show w.heap.size < wC.heap.size; omega)).trans p10
  have q11 := (hb1.cell (p := ⟨w.heap.size, 1, none⟩) (by show w.heap.size < wC.heap.size; omega)).trans p11
  have q20 := (hb1.cell (p := ⟨w.heap.size + 1, 0, none⟩) (by show w.heap.size + 1 < wC.heap.size; omega)).trans p20
  have q21 := (hb1.cell (p := ⟨w.heap.size + 1, 1, none⟩) (by show w.heap.size + 1 < wC.heap.size; omega)).trans p21
  have q30 := (hb1.cell (p := ⟨w.heap.size + 2, 0, none⟩) (by show w.heap.size + 2 < wC.heap.size; omega)).trans p30
  have q31 := (hb1.cell (p := ⟨w.heap.size + 2, 1, none⟩) (by show w.heap.size + 2 < wC.heap.size; omega)).trans p31
  have fy0 := (hb1.frozen (p := ⟨w.heap.size + 2, 0, none⟩) (by show w.heap.size + 2 < wC.heap.size; omega)).trans fz0
  have fy1 := (hb1.frozen (p := ⟨w.heap.size + 2, 1, none⟩) (by show w.heap.size + 2 < wC.heap.size; omega)).trans fz1
  have W2 := hide (rwrong_any c2 x2 w1)
  have HB := hide (below_step NC hb1)
  clear hb1 p10 p11 p20 p21 p30 p31 fz0 fz1
  go_wp2_with fail
  refine (unhide W2).mono ?_
  rintro e w2 ⟨rfl, hb2⟩
  have s2 := hb2.size
  have k10 := (hb2.cell (p := ⟨w.heap.size, 0, none⟩) (by show w.heap.size < w1.heap.size; omega)).trans q10
  have k11 := (hb2.cell (p := ⟨w.heap.size, 1, none⟩) (by show w.heap.size < w1.heap.size; omega)).trans q11
  have k20 := (hb2.cell (p := ⟨w.heap.size + 1, 0, none⟩) (by show w.heap.size + 1 < w1.heap.size; omega)).trans q20
  have k21 := (hb2.cell (p := ⟨w.heap.size + 1, 1, none⟩) (by show w.heap.size + 1 < w1.heap.size; omega)).trans q21
  have k30 := (hb2.cell (p := ⟨w.heap.size + 2, 0, none⟩) (by show w.heap.size + 2 < w1.heap.size; omega)).trans q30
  have k31 := (hb2.cell (p := ⟨w.heap.size + 2, 1, none⟩) (by show w.heap.size + 2 < w1.heap.size; omega)).trans q31
  have fx0 := (hb2.frozen (p := ⟨w.heap.size + 2, 0, none⟩) (by show w.heap.size + 2 < w1.heap.size; omega)).trans fy0
  have fx1 := (hb2.frozen (p := ⟨w.heap.size + 2, 1, none⟩) (by show w.heap.size + 2 < w1.heap.size; omega)).trans fy1
  have HB2 := hide (below_step (unhide HB) hb2)
  have lb1 : w.heap.size < w2.heap.size := by omega
  have lb2 : w.heap.size + 1 < w2.heap.size := by omega
  have lb3 : w.heap.size + 2 < w2.heap.size := by omega
  clear hb2 q10 q11 q20 q21 q30 q31 fy0 fy1 hwC
  go_upto_region 7 with fail
  refine frame_intro (fun a => G a 0 = .int .u8 42 ∧ G a 4 = .pointer (some ⟨w.heap.size, 0, none⟩) ∧ G a 5 = .pointer (some ⟨w.heap.size + 1, 0, none⟩) ∧ G a 6 = .pointer (some ⟨w.heap.size + 2, 0, none⟩) ∧ a.tmps.size = 61 ∧ a.defers = []) ⟨rfl, rfl, rfl, rfl, rfl, rfl⟩ ?_
  rintro f0 ⟨s0, s4, s5, s6, hsz, hdf⟩
  refine region_any (I := RP w2 f0 61 [25, 26, 27, 28, 29, 10, 11, 12] 99 (fun _ => True) [.lit (.agg #[.int .i64 c1, .int .i64 x1]), .ptr 1 (pR (c1 * (10 : Int) ^ x1.toNat) ((10 : Int) ^ (-x1).toNat)), .lit (.agg #[.int .i64 c2, .int .i64 x2]), .ptr 3 (pR (c2 * (10 : Int) ^ x2.toNat) ((10 : Int) ^ (-x2).toNat)), .new 4 2, .ptr 1 (pR (c1 * (10 : Int) ^ x1.toNat) ((10 : Int) ^ (-x1).toNat)), .ptr 3 (pR (c2 * (10 : Int) ^ x2.toNat) ((10 : Int) ^ (-x2).toNat)), .new 4 2]) (by kernel_rfl) ?wait ?step ?done ?start
  case wait => exact ⟨(by simp <;> rfl), (by simp <;> rfl), (by simp <;> rfl), (by simp <;> rfl), (by simp <;> rfl), (by simp <;> rfl), (by simp <;> rfl), (by simp <;> rfl), trivial⟩
  case start => exact RP.start hsz hdf ((Below.refl _ _).drew)
  case step =>
    refine ⟨?_, ?_, ?_, ?_, ?_, ?_, ?_, ?_, trivial⟩
    · rintro L fa wx h hcl hL hw2
      exact rp_val h (by decide) rfl rfl rfl (by decide) (by decide) rfl (run_ldD (eval_G ((h.keep (s := 4) (by decide)).trans s4)) (((h.old (h.nogi (by decide))).cell (p := ⟨w.heap.size, 0, none⟩) lb1).trans k10) (((h.old (h.nogi (by decide))).cell (p := ⟨w.heap.size, 1, none⟩) lb1).trans k11)) rfl
    · rintro L fa wx h hcl hL hw2
      exact rp_make h (by decide) rfl rfl rfl (by decide) (by decide) (h.nogi (by decide)) rfl (run_call1 (eval_G (show G fa 25 = .agg #[.int .i64 c1, .int .i64 x1] from h.lit (hw2 ⟨0, .data⟩ (by simp) rfl) rfl rfl)) callRatd) (ratd_make c1 x1 (by omega) (by omega) (by omega) (by omega) wx) rfl
    · rintro L fa wx h hcl hL hw2
      exact rp_val h (by decide) rfl rfl rfl (by decide) (by decide) rfl (run_ldD (eval_G ((h.keep (s := 5) (by decide)).trans s5)) (((h.old (h.nogi (by decide))).cell (p := ⟨w.heap.size + 1, 0, none⟩) lb2).trans k20) (((h.old (h.nogi (by decide))).cell (p := ⟨w.heap.size + 1, 1, none⟩) lb2).trans k21)) rfl
    · rintro L fa wx h hcl hL hw2
      exact rp_make h (by decide) rfl rfl rfl (by decide) (by decide) (h.nogi (by decide)) rfl (run_call1 (eval_G (show G fa 27 = .agg #[.int .i64 c2, .int .i64 x2] from h.lit (hw2 ⟨2, .data⟩ (by simp) rfl) rfl rfl)) callRatd) (ratd_make c2 x2 (by omega) (by omega) (by omega) (by omega) wx) rfl
    · rintro L fa wx h hcl hL hw2
      exact rp_new h (by decide) rfl rfl rfl (by decide) (by decide) (h.nogi (by decide)) rfl run_newR ZA.newR rfl
    · rintro L fa wx h hcl hL hw2
      exact rp_copy h (by decide) rfl rfl rfl (by decide) (by decide) (h.nogi (by decide)) rfl (hw2 ⟨1, .data⟩ (by simp) rfl) rfl (run_asg rfl) rfl
    · rintro L fa wx h hcl hL hw2
      exact rp_copy h (by decide) rfl rfl rfl (by decide) (by decide) (h.nogi (by decide)) rfl (hw2 ⟨3, .data⟩ (by simp) rfl) rfl (run_asg rfl) rfl
    · rintro L fa wx h hcl hL hw2
      exact rp_copy h (by decide) rfl rfl rfl (by decide) (by decide) (h.nogi (by decide)) rfl (hw2 ⟨4, .data⟩ (by simp) rfl) rfl (run_asg rfl) rfl
  case done =>
    rintro L f1 w3 h hall
    have hno : L 99 = false := h.nogi (by decide)
    obtain ⟨b10, o10, q10, i10⟩ := h.ptr (i := 5) hno (hall 5 (by simp)) rfl rfl
    obtain ⟨rfl, r10⟩ : o10 = 0 ∧ RV w3 b10 (c1 * (10 : Int) ^ x1.toNat) ((10 : Int) ^ (-x1).toNat) := i10
    obtain ⟨b11, o11, q11, i11⟩ := h.ptr (i := 6) hno (hall 6 (by simp)) rfl rfl
    obtain ⟨rfl, r11⟩ : o11 = 0 ∧ RV w3 b11 (c2 * (10 : Int) ^ x2.toNat) ((10 : Int) ^ (-x2).toNat) := i11
    obtain ⟨b12, q12, z12, l12⟩ := h.new (i := 7) hno (hall 7 (by simp)) rfl rfl
    have q0 := (h.keep (s := 0) (by decide)).trans s0
    have q5 := (h.keep (s := 5) (by decide)).trans s5
    have q6 := (h.keep (s := 6) (by decide)).trans s6
    have HO := hide (h.old hno)
    have s3 := (unhide HO).size
    rw [fr61 h.size h.defs, q0, q5, q6, q10, q11, q12]
    clear h hall q0 q5 q6 q10 q11 q12 hno
    have OP := hide (rmul_any b12 b10 b11 (c1 * (10 : Int) ^ x1.toNat) ((10 : Int) ^ (-x1).toNat) (c2 * (10 : Int) ^ x2.toNat) ((10 : Int) ^ (-x2).toNat) w3 z12 r10 r11 (pow_ne _) (pow_ne _) (by omega) (by omega) (by omega) (by omega))
    have HZ := hide z12
    clear r10 r11 z12
    have m20 := ((unhide HO).cell (p := ⟨w.heap.size + 1, 0, none⟩) (by show w.heap.size + 1 < w2.heap.size; omega)).trans k20
    have m21 := ((unhide HO).cell (p := ⟨w.heap.size + 1, 1, none⟩) (by show w.heap.size + 1 < w2.heap.size; omega)).trans k21
    have m30 := ((unhide HO).cell (p := ⟨w.heap.size + 2, 0, none⟩) (by show w.heap.size + 2 < w2.heap.size; omega)).trans k30
    have m31 := ((unhide HO).cell (p := ⟨w.heap.size + 2, 1, none⟩) (by show w.heap.size + 2 < w2.heap.size; omega)).trans k31
    have fw0 := ((unhide HO).frozen (p := ⟨w.heap.size + 2, 0, none⟩) (by show w.heap.size + 2 < w2.heap.size; omega)).trans fx0
    have fw1 := ((unhide HO).frozen (p := ⟨w.heap.size + 2, 1, none⟩) (by show w.heap.size + 2 < w2.heap.size; omega)).trans fx1
    clear k10 k11 k20 k21 k30 k31 fx0 fx1
    go_wp2_with fail
    refine (unhide OP).mono ?_
    rintro e w4 ⟨rfl, r4, k4⟩
    have r5 : RV w4 b12 ((c1 * (10 : Int) ^ x1.toNat) * (c2 * (10 : Int) ^ x2.toNat)) (((10 : Int) ^ (-x1).toNat) * ((10 : Int) ^ (-x2).toNat)) := r4
    have B4 : Below w2.heap.size w3 w4 := k4.below l12 (unhide HO).size
    have s4' := B4.size
    obtain ⟨t1, t2, t3, ht⟩ : ∃ t1 t2 t3, fitT ((c1 * (10 : Int) ^ x1.toNat) * (c2 * (10 : Int) ^ x2.toNat)) (((10 : Int) ^ (-x1).toNat) * ((10 : Int) ^ (-x2).toNat)) = (t1, t2, t3) := ⟨_, _, _, rfl⟩
    have FT : Hid (Calls Try.prog 36 #[.pointer (some ⟨b12, 0, none⟩)] w4 fun e w' => e = .returned (.tuple #[.agg #[.int .i64 t1, .int .i64 t2], .int .i64 t3]) ∧ Below w4.heap.size w4 w') := hide ((fit_any b12 ((c1 * (10 : Int) ^ x1.toNat) * (c2 * (10 : Int) ^ x2.toNat)) (((10 : Int) ^ (-x1).toNat) * ((10 : Int) ^ (-x2).toNat)) w4 r5 (unhide HD) (by omega) (by omega)).mono (by
      rintro e w' ⟨rfl, h⟩
      exact ⟨by rw [ht]; rfl, h⟩))
    have HT := hide ht
    have n30 := (B4.cell (p := ⟨w.heap.size + 2, 0, none⟩) (by show w.heap.size + 2 < w2.heap.size; omega)).trans m30
    have n31 := (B4.cell (p := ⟨w.heap.size + 2, 1, none⟩) (by show w.heap.size + 2 < w2.heap.size; omega)).trans m31
    have fv0 := (B4.frozen (p := ⟨w.heap.size + 2, 0, none⟩) (by show w.heap.size + 2 < w2.heap.size; omega)).trans fw0
    have fv1 := (B4.frozen (p := ⟨w.heap.size + 2, 1, none⟩) (by show w.heap.size + 2 < w2.heap.size; omega)).trans fw1
    have HB4 := hide ((below_step (unhide HB2) (unhide HO)).trans (B4.mono (by have := (unhide HB2).size; omega)))
    clear r4 r5 k4 B4 OP m20 m21 m30 m31 fw0 fw1 ht
    go_wp2_with fail
    refine (unhide FT).mono ?_
    rintro e w5 ⟨rfl, hb5⟩
    have o30 := (hb5.cell (p := ⟨w.heap.size + 2, 0, none⟩) (by show w.heap.size + 2 < w4.heap.size; omega)).trans n30
    have o31 := (hb5.cell (p := ⟨w.heap.size + 2, 1, none⟩) (by show w.heap.size + 2 < w4.heap.size; omega)).trans n31
    have fu0 := (hb5.frozen (p := ⟨w.heap.size + 2, 0, none⟩) (by show w.heap.size + 2 < w4.heap.size; omega)).trans fv0
    have fu1 := (hb5.frozen (p := ⟨w.heap.size + 2, 1, none⟩) (by show w.heap.size + 2 < w4.heap.size; omega)).trans fv1
    have HB5 := hide (below_step (unhide HB4) hb5)
    clear hb5 n30 n31 fv0 fv1
    go_wp2
    refine bodyPost_ret (v := .tuple #[.agg #[.int .i64 t1, .int .i64 t2], .int .i64 t3]) (by simp [results, Try.results7, go_sem, o30, o31]) rfl ?_
    rw [unhide HT]
    exact ⟨rfl, ((unhide HB5).setCell (by simp only; omega) _).setCell (by simp only; omega) _⟩

set_option maxRecDepth 100000 in
set_option maxHeartbeats 4000000 in
theorem do_div (c1 x1 c2 x2 : Int) (w : World) (h1 : Dm.wrongN c1 x1 = 0) (h2 : Dm.wrongN c2 x2 = 0) (a1 : -1000000000000000000 < c1) (a2 : c1 < 1000000000000000000) (a3 : -40 ≤ x1) (a4 : x1 ≤ 40) (b1 : -1000000000000000000 < c2) (b2 : c2 < 1000000000000000000) (b3 : -40 ≤ x2) (b4 : x2 ≤ 40) (N D : Int) (c0 : c2 ≠ 0) (hND : (N = (c1 * (10 : Int) ^ x1.toNat) * ((10 : Int) ^ (-x2).toNat) ∧ D = ((10 : Int) ^ (-x1).toNat) * (c2 * (10 : Int) ^ x2.toNat)) ∨ (N = -((c1 * (10 : Int) ^ x1.toNat) * ((10 : Int) ^ (-x2).toNat)) ∧ D = -(((10 : Int) ^ (-x1).toNat) * (c2 * (10 : Int) ^ x2.toNat)))) (hD : 0 < D) :
    Calls Try.prog 7 #[.int .u8 47, .agg #[.int .i64 c1, .int .i64 x1], .agg #[.int .i64 c2, .int .i64 x2]] w fun e w' => e = toldT (fitT N D) ∧ Below w.heap.size w w' := by
  obtain ⟨wC, hwC⟩ : ∃ wC, wC = (((w.alloc (.cells #[.int .i64 c1, .int .i64 x1] 23)).alloc (.cells #[.int .i64 c2, .int .i64 x2] 23)).alloc (.cells #[.int .i64 0, .int .i64 0] 23)) := ⟨_, rfl⟩
  have NC : Below w.heap.size w wC := by rw [hwC]; exact below_step (below_step (below_new _ _) (below_new _ _)) (below_new _ _)
  have sC : wC.heap.size = w.heap.size + 3 := by rw [hwC]; simp
  have p10 : wC.cell? ⟨w.heap.size, 0, none⟩ = some (.int .i64 c1) := by rw [hwC]; simp [go_sem]
  have p11 : wC.cell? ⟨w.heap.size, 1, none⟩ = some (.int .i64 x1) := by rw [hwC]; simp [go_sem]
  have p20 : wC.cell? ⟨w.heap.size + 1, 0, none⟩ = some (.int .i64 c2) := by rw [hwC]; simp [go_sem]
  have p21 : wC.cell? ⟨w.heap.size + 1, 1, none⟩ = some (.int .i64 x2) := by rw [hwC]; simp [go_sem]
  have p30 : wC.cell? ⟨w.heap.size + 2, 0, none⟩ = some (.int .i64 0) := by rw [hwC]; simp [go_sem]
  have p31 : wC.cell? ⟨w.heap.size + 2, 1, none⟩ = some (.int .i64 0) := by rw [hwC]; simp [go_sem]
  have fz0 : wC.frozen? ⟨w.heap.size + 2, 0, none⟩ = false := by rw [hwC]; simp [go_sem]
  have fz1 : wC.frozen? ⟨w.heap.size + 2, 1, none⟩ = false := by rw [hwC]; simp [go_sem]
  have W1 := hide (rwrong_any c1 x1 (((w.alloc (.cells #[.int .i64 c1, .int .i64 x1] 23)).alloc (.cells #[.int .i64 c2, .int .i64 x2] 23)).alloc (.cells #[.int .i64 0, .int .i64 0] 23)))
  have lc1 : Ln c1 ≤ 2 := Ln_small (by omega)
  have lc2 : Ln c2 ≤ 2 := Ln_small (by omega)
  have t1 := Ln_ten x1.toNat
  have t2 := Ln_ten x2.toNat
  have t3 := Ln_ten (-x1).toNat
  have t4 := Ln_ten (-x2).toNat
  have t5 := Ln_mul c1 ((10 : Int) ^ x1.toNat)
  have t6 := Ln_mul c2 ((10 : Int) ^ x2.toNat)
  have HD := hide hD
  clear hD
  have nz2 : (c2 * (10 : Int) ^ x2.toNat) ≠ 0 := Int.mul_ne_zero c0 (pow_ne _)
  have gz : (c2 == 0) = false := by rw [beq_eq_false_iff_ne]; exact c0
  have lN : Ln N ≤ 1000 := by
    rcases hND with ⟨rfl, _⟩ | ⟨rfl, _⟩
    · exact Nat.le_trans (Ln_mul _ _) (by omega)
    · rw [Ln_neg]; exact Nat.le_trans (Ln_mul _ _) (by omega)
  have lD : Ln D ≤ 1000 := by
    rcases hND with ⟨_, rfl⟩ | ⟨_, rfl⟩
    · exact Nat.le_trans (Ln_mul _ _) (by omega)
    · rw [Ln_neg]; exact Nat.le_trans (Ln_mul _ _) (by omega)
  have g1 : (Dm.wrongN c1 x1 != 0) = false := by rw [h1]; rfl
  have g2 : (Dm.wrongN c2 x2 != 0) = false := by rw [h2]; rfl
  clear h1 h2
  go_enter Try.func7, Try.ntmps7
  go_wp2_with fail
  refine (unhide W1).mono ?_
  rw [← hwC]
  rintro e w1 ⟨rfl, hb1⟩
  have s1 := hb1.size
  have q10 := (hb1.cell (p := ⟨w.heap.size, 0, none⟩) (by show w.heap.size < wC.heap.size; omega)).trans p10
  have q11 := (hb1.cell (p := ⟨w.heap.size, 1, none⟩) (by show w.heap.size < wC.heap.size; omega)).trans p11
  have q20 := (hb1.cell (p := ⟨w.heap.size + 1, 0, none⟩) (by show w.heap.size + 1 < wC.heap.size; omega)).trans p20
  have q21 := (hb1.cell (p := ⟨w.heap.size + 1, 1, none⟩) (by show w.heap.size + 1 < wC.heap.size; omega)).trans p21
  have q30 := (hb1.cell (p := ⟨w.heap.size + 2, 0, none⟩) (by show w.heap.size + 2 < wC.heap.size; omega)).trans p30
  have q31 := (hb1.cell (p := ⟨w.heap.size + 2, 1, none⟩) (by show w.heap.size + 2 < wC.heap.size; omega)).trans p31
  have fy0 := (hb1.frozen (p := ⟨w.heap.size + 2, 0, none⟩) (by show w.heap.size + 2 < wC.heap.size; omega)).trans fz0
  have fy1 := (hb1.frozen (p := ⟨w.heap.size + 2, 1, none⟩) (by show w.heap.size + 2 < wC.heap.size; omega)).trans fz1
  have W2 := hide (rwrong_any c2 x2 w1)
  have HB := hide (below_step NC hb1)
  clear hb1 p10 p11 p20 p21 p30 p31 fz0 fz1
  go_wp2_with fail
  refine (unhide W2).mono ?_
  rintro e w2 ⟨rfl, hb2⟩
  have s2 := hb2.size
  have k10 := (hb2.cell (p := ⟨w.heap.size, 0, none⟩) (by show w.heap.size < w1.heap.size; omega)).trans q10
  have k11 := (hb2.cell (p := ⟨w.heap.size, 1, none⟩) (by show w.heap.size < w1.heap.size; omega)).trans q11
  have k20 := (hb2.cell (p := ⟨w.heap.size + 1, 0, none⟩) (by show w.heap.size + 1 < w1.heap.size; omega)).trans q20
  have k21 := (hb2.cell (p := ⟨w.heap.size + 1, 1, none⟩) (by show w.heap.size + 1 < w1.heap.size; omega)).trans q21
  have k30 := (hb2.cell (p := ⟨w.heap.size + 2, 0, none⟩) (by show w.heap.size + 2 < w1.heap.size; omega)).trans q30
  have k31 := (hb2.cell (p := ⟨w.heap.size + 2, 1, none⟩) (by show w.heap.size + 2 < w1.heap.size; omega)).trans q31
  have fx0 := (hb2.frozen (p := ⟨w.heap.size + 2, 0, none⟩) (by show w.heap.size + 2 < w1.heap.size; omega)).trans fy0
  have fx1 := (hb2.frozen (p := ⟨w.heap.size + 2, 1, none⟩) (by show w.heap.size + 2 < w1.heap.size; omega)).trans fy1
  have HB2 := hide (below_step (unhide HB) hb2)
  have lb1 : w.heap.size < w2.heap.size := by omega
  have lb2 : w.heap.size + 1 < w2.heap.size := by omega
  have lb3 : w.heap.size + 2 < w2.heap.size := by omega
  clear hb2 q10 q11 q20 q21 q30 q31 fy0 fy1 hwC
  go_upto_region 7 with fail
  refine frame_intro (fun a => G a 0 = .int .u8 47 ∧ G a 4 = .pointer (some ⟨w.heap.size, 0, none⟩) ∧ G a 5 = .pointer (some ⟨w.heap.size + 1, 0, none⟩) ∧ G a 6 = .pointer (some ⟨w.heap.size + 2, 0, none⟩) ∧ a.tmps.size = 61 ∧ a.defers = []) ⟨rfl, rfl, rfl, rfl, rfl, rfl⟩ ?_
  rintro f0 ⟨s0, s4, s5, s6, hsz, hdf⟩
  refine region_any (I := RP w2 f0 61 [25, 26, 27, 28, 29, 10, 11, 12] 99 (fun _ => True) [.lit (.agg #[.int .i64 c1, .int .i64 x1]), .ptr 1 (pR (c1 * (10 : Int) ^ x1.toNat) ((10 : Int) ^ (-x1).toNat)), .lit (.agg #[.int .i64 c2, .int .i64 x2]), .ptr 3 (pR (c2 * (10 : Int) ^ x2.toNat) ((10 : Int) ^ (-x2).toNat)), .new 4 2, .ptr 1 (pR (c1 * (10 : Int) ^ x1.toNat) ((10 : Int) ^ (-x1).toNat)), .ptr 3 (pR (c2 * (10 : Int) ^ x2.toNat) ((10 : Int) ^ (-x2).toNat)), .new 4 2]) (by kernel_rfl) ?wait ?step ?done ?start
  case wait => exact ⟨(by simp <;> rfl), (by simp <;> rfl), (by simp <;> rfl), (by simp <;> rfl), (by simp <;> rfl), (by simp <;> rfl), (by simp <;> rfl), (by simp <;> rfl), trivial⟩
  case start => exact RP.start hsz hdf ((Below.refl _ _).drew)
  case step =>
    refine ⟨?_, ?_, ?_, ?_, ?_, ?_, ?_, ?_, trivial⟩
    · rintro L fa wx h hcl hL hw2
      exact rp_val h (by decide) rfl rfl rfl (by decide) (by decide) rfl (run_ldD (eval_G ((h.keep (s := 4) (by decide)).trans s4)) (((h.old (h.nogi (by decide))).cell (p := ⟨w.heap.size, 0, none⟩) lb1).trans k10) (((h.old (h.nogi (by decide))).cell (p := ⟨w.heap.size, 1, none⟩) lb1).trans k11)) rfl
    · rintro L fa wx h hcl hL hw2
      exact rp_make h (by decide) rfl rfl rfl (by decide) (by decide) (h.nogi (by decide)) rfl (run_call1 (eval_G (show G fa 25 = .agg #[.int .i64 c1, .int .i64 x1] from h.lit (hw2 ⟨0, .data⟩ (by simp) rfl) rfl rfl)) callRatd) (ratd_make c1 x1 (by omega) (by omega) (by omega) (by omega) wx) rfl
    · rintro L fa wx h hcl hL hw2
      exact rp_val h (by decide) rfl rfl rfl (by decide) (by decide) rfl (run_ldD (eval_G ((h.keep (s := 5) (by decide)).trans s5)) (((h.old (h.nogi (by decide))).cell (p := ⟨w.heap.size + 1, 0, none⟩) lb2).trans k20) (((h.old (h.nogi (by decide))).cell (p := ⟨w.heap.size + 1, 1, none⟩) lb2).trans k21)) rfl
    · rintro L fa wx h hcl hL hw2
      exact rp_make h (by decide) rfl rfl rfl (by decide) (by decide) (h.nogi (by decide)) rfl (run_call1 (eval_G (show G fa 27 = .agg #[.int .i64 c2, .int .i64 x2] from h.lit (hw2 ⟨2, .data⟩ (by simp) rfl) rfl rfl)) callRatd) (ratd_make c2 x2 (by omega) (by omega) (by omega) (by omega) wx) rfl
    · rintro L fa wx h hcl hL hw2
      exact rp_new h (by decide) rfl rfl rfl (by decide) (by decide) (h.nogi (by decide)) rfl run_newR ZA.newR rfl
    · rintro L fa wx h hcl hL hw2
      exact rp_copy h (by decide) rfl rfl rfl (by decide) (by decide) (h.nogi (by decide)) rfl (hw2 ⟨1, .data⟩ (by simp) rfl) rfl (run_asg rfl) rfl
    · rintro L fa wx h hcl hL hw2
      exact rp_copy h (by decide) rfl rfl rfl (by decide) (by decide) (h.nogi (by decide)) rfl (hw2 ⟨3, .data⟩ (by simp) rfl) rfl (run_asg rfl) rfl
    · rintro L fa wx h hcl hL hw2
      exact rp_copy h (by decide) rfl rfl rfl (by decide) (by decide) (h.nogi (by decide)) rfl (hw2 ⟨4, .data⟩ (by simp) rfl) rfl (run_asg rfl) rfl
  case done =>
    rintro L f1 w3 h hall
    have hno : L 99 = false := h.nogi (by decide)
    obtain ⟨b10, o10, q10, i10⟩ := h.ptr (i := 5) hno (hall 5 (by simp)) rfl rfl
    obtain ⟨rfl, r10⟩ : o10 = 0 ∧ RV w3 b10 (c1 * (10 : Int) ^ x1.toNat) ((10 : Int) ^ (-x1).toNat) := i10
    obtain ⟨b11, o11, q11, i11⟩ := h.ptr (i := 6) hno (hall 6 (by simp)) rfl rfl
    obtain ⟨rfl, r11⟩ : o11 = 0 ∧ RV w3 b11 (c2 * (10 : Int) ^ x2.toNat) ((10 : Int) ^ (-x2).toNat) := i11
    obtain ⟨b12, q12, z12, l12⟩ := h.new (i := 7) hno (hall 7 (by simp)) rfl rfl
    have q0 := (h.keep (s := 0) (by decide)).trans s0
    have q5 := (h.keep (s := 5) (by decide)).trans s5
    have q6 := (h.keep (s := 6) (by decide)).trans s6
    have HO := hide (h.old hno)
    have s3 := (unhide HO).size
    rw [fr61 h.size h.defs, q0, q5, q6, q10, q11, q12]
    clear h hall q0 q5 q6 q10 q11 q12 hno
    have OP := hide (rquo_any b12 b10 b11 (c1 * (10 : Int) ^ x1.toNat) ((10 : Int) ^ (-x1).toNat) (c2 * (10 : Int) ^ x2.toNat) ((10 : Int) ^ (-x2).toNat) w3 z12 r10 r11 (pow_ne _) (pow_ne _) (by omega) (by omega) (by omega) (by omega) nz2)
    have HZ := hide z12
    clear r10 r11 z12
    have m20 := ((unhide HO).cell (p := ⟨w.heap.size + 1, 0, none⟩) (by show w.heap.size + 1 < w2.heap.size; omega)).trans k20
    have m21 := ((unhide HO).cell (p := ⟨w.heap.size + 1, 1, none⟩) (by show w.heap.size + 1 < w2.heap.size; omega)).trans k21
    have m30 := ((unhide HO).cell (p := ⟨w.heap.size + 2, 0, none⟩) (by show w.heap.size + 2 < w2.heap.size; omega)).trans k30
    have m31 := ((unhide HO).cell (p := ⟨w.heap.size + 2, 1, none⟩) (by show w.heap.size + 2 < w2.heap.size; omega)).trans k31
    have fw0 := ((unhide HO).frozen (p := ⟨w.heap.size + 2, 0, none⟩) (by show w.heap.size + 2 < w2.heap.size; omega)).trans fx0
    have fw1 := ((unhide HO).frozen (p := ⟨w.heap.size + 2, 1, none⟩) (by show w.heap.size + 2 < w2.heap.size; omega)).trans fx1
    clear k10 k11 k20 k21 k30 k31 fx0 fx1
    go_wp2_with fail
    refine (unhide OP).mono ?_
    rintro e w4 ⟨rfl, r4, k4⟩
    have r5 : RV w4 b12 N D := by rcases hND with ⟨rfl, rfl⟩ | ⟨rfl, rfl⟩; exact r4; exact r4.neg
    have B4 : Below w2.heap.size w3 w4 := k4.below l12 (unhide HO).size
    have s4' := B4.size
    obtain ⟨t1, t2, t3, ht⟩ : ∃ t1 t2 t3, fitT N D = (t1, t2, t3) := ⟨_, _, _, rfl⟩
    have FT : Hid (Calls Try.prog 36 #[.pointer (some ⟨b12, 0, none⟩)] w4 fun e w' => e = .returned (.tuple #[.agg #[.int .i64 t1, .int .i64 t2], .int .i64 t3]) ∧ Below w4.heap.size w4 w') := hide ((fit_any b12 N D w4 r5 (unhide HD) (by omega) (by omega)).mono (by
      rintro e w' ⟨rfl, h⟩
      exact ⟨by rw [ht]; rfl, h⟩))
    have HT := hide ht
    have n30 := (B4.cell (p := ⟨w.heap.size + 2, 0, none⟩) (by show w.heap.size + 2 < w2.heap.size; omega)).trans m30
    have n31 := (B4.cell (p := ⟨w.heap.size + 2, 1, none⟩) (by show w.heap.size + 2 < w2.heap.size; omega)).trans m31
    have fv0 := (B4.frozen (p := ⟨w.heap.size + 2, 0, none⟩) (by show w.heap.size + 2 < w2.heap.size; omega)).trans fw0
    have fv1 := (B4.frozen (p := ⟨w.heap.size + 2, 1, none⟩) (by show w.heap.size + 2 < w2.heap.size; omega)).trans fw1
    have HB4 := hide ((below_step (unhide HB2) (unhide HO)).trans (B4.mono (by have := (unhide HB2).size; omega)))
    clear r4 r5 k4 B4 OP m20 m21 m30 m31 fw0 fw1 ht
    go_wp2_with fail
    refine (unhide FT).mono ?_
    rintro e w5 ⟨rfl, hb5⟩
    have o30 := (hb5.cell (p := ⟨w.heap.size + 2, 0, none⟩) (by show w.heap.size + 2 < w4.heap.size; omega)).trans n30
    have o31 := (hb5.cell (p := ⟨w.heap.size + 2, 1, none⟩) (by show w.heap.size + 2 < w4.heap.size; omega)).trans n31
    have fu0 := (hb5.frozen (p := ⟨w.heap.size + 2, 0, none⟩) (by show w.heap.size + 2 < w4.heap.size; omega)).trans fv0
    have fu1 := (hb5.frozen (p := ⟨w.heap.size + 2, 1, none⟩) (by show w.heap.size + 2 < w4.heap.size; omega)).trans fv1
    have HB5 := hide (below_step (unhide HB4) hb5)
    clear hb5 n30 n31 fv0 fv1
    go_wp2
    refine bodyPost_ret (v := .tuple #[.agg #[.int .i64 t1, .int .i64 t2], .int .i64 t3]) (by simp [results, Try.results7, go_sem, o30, o31]) rfl ?_
    rw [unhide HT]
    exact ⟨rfl, ((unhide HB5).setCell (by simp only; omega) _).setCell (by simp only; omega) _⟩

set_option maxRecDepth 100000 in
set_option maxHeartbeats 4000000 in
theorem do_zero (c1 x1 c2 x2 : Int) (w : World) (h1 : Dm.wrongN c1 x1 = 0) (h2 : Dm.wrongN c2 x2 = 0) (a1 : -1000000000000000000 < c1) (a2 : c1 < 1000000000000000000) (a3 : -40 ≤ x1) (a4 : x1 ≤ 40) (b1 : -1000000000000000000 < c2) (b2 : c2 < 1000000000000000000) (b3 : -40 ≤ x2) (b4 : x2 ≤ 40) (hc2 : c2 = 0) :
    Calls Try.prog 7 #[.int .u8 47, .agg #[.int .i64 c1, .int .i64 x1], .agg #[.int .i64 c2, .int .i64 x2]] w fun e w' => e = toldT (0, 0, 10) ∧ Below w.heap.size w w' := by
  obtain ⟨wC, hwC⟩ : ∃ wC, wC = (((w.alloc (.cells #[.int .i64 c1, .int .i64 x1] 23)).alloc (.cells #[.int .i64 c2, .int .i64 x2] 23)).alloc (.cells #[.int .i64 0, .int .i64 0] 23)) := ⟨_, rfl⟩
  have NC : Below w.heap.size w wC := by rw [hwC]; exact below_step (below_step (below_new _ _) (below_new _ _)) (below_new _ _)
  have sC : wC.heap.size = w.heap.size + 3 := by rw [hwC]; simp
  have p10 : wC.cell? ⟨w.heap.size, 0, none⟩ = some (.int .i64 c1) := by rw [hwC]; simp [go_sem]
  have p11 : wC.cell? ⟨w.heap.size, 1, none⟩ = some (.int .i64 x1) := by rw [hwC]; simp [go_sem]
  have p20 : wC.cell? ⟨w.heap.size + 1, 0, none⟩ = some (.int .i64 c2) := by rw [hwC]; simp [go_sem]
  have p21 : wC.cell? ⟨w.heap.size + 1, 1, none⟩ = some (.int .i64 x2) := by rw [hwC]; simp [go_sem]
  have p30 : wC.cell? ⟨w.heap.size + 2, 0, none⟩ = some (.int .i64 0) := by rw [hwC]; simp [go_sem]
  have p31 : wC.cell? ⟨w.heap.size + 2, 1, none⟩ = some (.int .i64 0) := by rw [hwC]; simp [go_sem]
  have fz0 : wC.frozen? ⟨w.heap.size + 2, 0, none⟩ = false := by rw [hwC]; simp [go_sem]
  have fz1 : wC.frozen? ⟨w.heap.size + 2, 1, none⟩ = false := by rw [hwC]; simp [go_sem]
  have W1 := hide (rwrong_any c1 x1 (((w.alloc (.cells #[.int .i64 c1, .int .i64 x1] 23)).alloc (.cells #[.int .i64 c2, .int .i64 x2] 23)).alloc (.cells #[.int .i64 0, .int .i64 0] 23)))
  have gz : (c2 == 0) = true := by rw [hc2]; rfl
  clear hc2
  have g1 : (Dm.wrongN c1 x1 != 0) = false := by rw [h1]; rfl
  have g2 : (Dm.wrongN c2 x2 != 0) = false := by rw [h2]; rfl
  clear h1 h2
  go_enter Try.func7, Try.ntmps7
  go_wp2_with fail
  refine (unhide W1).mono ?_
  rw [← hwC]
  rintro e w1 ⟨rfl, hb1⟩
  have s1 := hb1.size
  have q10 := (hb1.cell (p := ⟨w.heap.size, 0, none⟩) (by show w.heap.size < wC.heap.size; omega)).trans p10
  have q11 := (hb1.cell (p := ⟨w.heap.size, 1, none⟩) (by show w.heap.size < wC.heap.size; omega)).trans p11
  have q20 := (hb1.cell (p := ⟨w.heap.size + 1, 0, none⟩) (by show w.heap.size + 1 < wC.heap.size; omega)).trans p20
  have q21 := (hb1.cell (p := ⟨w.heap.size + 1, 1, none⟩) (by show w.heap.size + 1 < wC.heap.size; omega)).trans p21
  have q30 := (hb1.cell (p := ⟨w.heap.size + 2, 0, none⟩) (by show w.heap.size + 2 < wC.heap.size; omega)).trans p30
  have q31 := (hb1.cell (p := ⟨w.heap.size + 2, 1, none⟩) (by show w.heap.size + 2 < wC.heap.size; omega)).trans p31
  have fy0 := (hb1.frozen (p := ⟨w.heap.size + 2, 0, none⟩) (by show w.heap.size + 2 < wC.heap.size; omega)).trans fz0
  have fy1 := (hb1.frozen (p := ⟨w.heap.size + 2, 1, none⟩) (by show w.heap.size + 2 < wC.heap.size; omega)).trans fz1
  have W2 := hide (rwrong_any c2 x2 w1)
  have HB := hide (below_step NC hb1)
  clear hb1 p10 p11 p20 p21 p30 p31 fz0 fz1
  go_wp2_with fail
  refine (unhide W2).mono ?_
  rintro e w2 ⟨rfl, hb2⟩
  have s2 := hb2.size
  have k10 := (hb2.cell (p := ⟨w.heap.size, 0, none⟩) (by show w.heap.size < w1.heap.size; omega)).trans q10
  have k11 := (hb2.cell (p := ⟨w.heap.size, 1, none⟩) (by show w.heap.size < w1.heap.size; omega)).trans q11
  have k20 := (hb2.cell (p := ⟨w.heap.size + 1, 0, none⟩) (by show w.heap.size + 1 < w1.heap.size; omega)).trans q20
  have k21 := (hb2.cell (p := ⟨w.heap.size + 1, 1, none⟩) (by show w.heap.size + 1 < w1.heap.size; omega)).trans q21
  have k30 := (hb2.cell (p := ⟨w.heap.size + 2, 0, none⟩) (by show w.heap.size + 2 < w1.heap.size; omega)).trans q30
  have k31 := (hb2.cell (p := ⟨w.heap.size + 2, 1, none⟩) (by show w.heap.size + 2 < w1.heap.size; omega)).trans q31
  have fx0 := (hb2.frozen (p := ⟨w.heap.size + 2, 0, none⟩) (by show w.heap.size + 2 < w1.heap.size; omega)).trans fy0
  have fx1 := (hb2.frozen (p := ⟨w.heap.size + 2, 1, none⟩) (by show w.heap.size + 2 < w1.heap.size; omega)).trans fy1
  have HB2 := hide (below_step (unhide HB) hb2)
  have lb1 : w.heap.size < w2.heap.size := by omega
  have lb2 : w.heap.size + 1 < w2.heap.size := by omega
  have lb3 : w.heap.size + 2 < w2.heap.size := by omega
  clear hb2 q10 q11 q20 q21 q30 q31 fy0 fy1 hwC
  go_upto_region 7 with fail
  refine frame_intro (fun a => G a 0 = .int .u8 47 ∧ G a 4 = .pointer (some ⟨w.heap.size, 0, none⟩) ∧ G a 5 = .pointer (some ⟨w.heap.size + 1, 0, none⟩) ∧ G a 6 = .pointer (some ⟨w.heap.size + 2, 0, none⟩) ∧ a.tmps.size = 61 ∧ a.defers = []) ⟨rfl, rfl, rfl, rfl, rfl, rfl⟩ ?_
  rintro f0 ⟨s0, s4, s5, s6, hsz, hdf⟩
  refine region_any (I := RP w2 f0 61 [25, 26, 27, 28, 29, 10, 11, 12] 99 (fun _ => True) [.lit (.agg #[.int .i64 c1, .int .i64 x1]), .ptr 1 (pR (c1 * (10 : Int) ^ x1.toNat) ((10 : Int) ^ (-x1).toNat)), .lit (.agg #[.int .i64 c2, .int .i64 x2]), .ptr 3 (pR (c2 * (10 : Int) ^ x2.toNat) ((10 : Int) ^ (-x2).toNat)), .new 4 2, .ptr 1 (pR (c1 * (10 : Int) ^ x1.toNat) ((10 : Int) ^ (-x1).toNat)), .ptr 3 (pR (c2 * (10 : Int) ^ x2.toNat) ((10 : Int) ^ (-x2).toNat)), .new 4 2]) (by kernel_rfl) ?wait ?step ?done ?start
  case wait => exact ⟨(by simp <;> rfl), (by simp <;> rfl), (by simp <;> rfl), (by simp <;> rfl), (by simp <;> rfl), (by simp <;> rfl), (by simp <;> rfl), (by simp <;> rfl), trivial⟩
  case start => exact RP.start hsz hdf ((Below.refl _ _).drew)
  case step =>
    refine ⟨?_, ?_, ?_, ?_, ?_, ?_, ?_, ?_, trivial⟩
    · rintro L fa wx h hcl hL hw2
      exact rp_val h (by decide) rfl rfl rfl (by decide) (by decide) rfl (run_ldD (eval_G ((h.keep (s := 4) (by decide)).trans s4)) (((h.old (h.nogi (by decide))).cell (p := ⟨w.heap.size, 0, none⟩) lb1).trans k10) (((h.old (h.nogi (by decide))).cell (p := ⟨w.heap.size, 1, none⟩) lb1).trans k11)) rfl
    · rintro L fa wx h hcl hL hw2
      exact rp_make h (by decide) rfl rfl rfl (by decide) (by decide) (h.nogi (by decide)) rfl (run_call1 (eval_G (show G fa 25 = .agg #[.int .i64 c1, .int .i64 x1] from h.lit (hw2 ⟨0, .data⟩ (by simp) rfl) rfl rfl)) callRatd) (ratd_make c1 x1 (by omega) (by omega) (by omega) (by omega) wx) rfl
    · rintro L fa wx h hcl hL hw2
      exact rp_val h (by decide) rfl rfl rfl (by decide) (by decide) rfl (run_ldD (eval_G ((h.keep (s := 5) (by decide)).trans s5)) (((h.old (h.nogi (by decide))).cell (p := ⟨w.heap.size + 1, 0, none⟩) lb2).trans k20) (((h.old (h.nogi (by decide))).cell (p := ⟨w.heap.size + 1, 1, none⟩) lb2).trans k21)) rfl
    · rintro L fa wx h hcl hL hw2
      exact rp_make h (by decide) rfl rfl rfl (by decide) (by decide) (h.nogi (by decide)) rfl (run_call1 (eval_G (show G fa 27 = .agg #[.int .i64 c2, .int .i64 x2] from h.lit (hw2 ⟨2, .data⟩ (by simp) rfl) rfl rfl)) callRatd) (ratd_make c2 x2 (by omega) (by omega) (by omega) (by omega) wx) rfl
    · rintro L fa wx h hcl hL hw2
      exact rp_new h (by decide) rfl rfl rfl (by decide) (by decide) (h.nogi (by decide)) rfl run_newR ZA.newR rfl
    · rintro L fa wx h hcl hL hw2
      exact rp_copy h (by decide) rfl rfl rfl (by decide) (by decide) (h.nogi (by decide)) rfl (hw2 ⟨1, .data⟩ (by simp) rfl) rfl (run_asg rfl) rfl
    · rintro L fa wx h hcl hL hw2
      exact rp_copy h (by decide) rfl rfl rfl (by decide) (by decide) (h.nogi (by decide)) rfl (hw2 ⟨3, .data⟩ (by simp) rfl) rfl (run_asg rfl) rfl
    · rintro L fa wx h hcl hL hw2
      exact rp_copy h (by decide) rfl rfl rfl (by decide) (by decide) (h.nogi (by decide)) rfl (hw2 ⟨4, .data⟩ (by simp) rfl) rfl (run_asg rfl) rfl
  case done =>
    rintro L f1 w3 h hall
    have hno : L 99 = false := h.nogi (by decide)
    obtain ⟨b10, o10, q10, i10⟩ := h.ptr (i := 5) hno (hall 5 (by simp)) rfl rfl
    obtain ⟨rfl, r10⟩ : o10 = 0 ∧ RV w3 b10 (c1 * (10 : Int) ^ x1.toNat) ((10 : Int) ^ (-x1).toNat) := i10
    obtain ⟨b11, o11, q11, i11⟩ := h.ptr (i := 6) hno (hall 6 (by simp)) rfl rfl
    obtain ⟨rfl, r11⟩ : o11 = 0 ∧ RV w3 b11 (c2 * (10 : Int) ^ x2.toNat) ((10 : Int) ^ (-x2).toNat) := i11
    obtain ⟨b12, q12, z12, l12⟩ := h.new (i := 7) hno (hall 7 (by simp)) rfl rfl
    have q0 := (h.keep (s := 0) (by decide)).trans s0
    have q5 := (h.keep (s := 5) (by decide)).trans s5
    have q6 := (h.keep (s := 6) (by decide)).trans s6
    have HO := hide (h.old hno)
    have s3 := (unhide HO).size
    rw [fr61 h.size h.defs, q0, q5, q6, q10, q11, q12]
    clear h hall q0 q5 q6 q10 q11 q12 hno
    clear r10 r11 z12
    have m20 := ((unhide HO).cell (p := ⟨w.heap.size + 1, 0, none⟩) (by show w.heap.size + 1 < w2.heap.size; omega)).trans k20
    have m21 := ((unhide HO).cell (p := ⟨w.heap.size + 1, 1, none⟩) (by show w.heap.size + 1 < w2.heap.size; omega)).trans k21
    have m30 := ((unhide HO).cell (p := ⟨w.heap.size + 2, 0, none⟩) (by show w.heap.size + 2 < w2.heap.size; omega)).trans k30
    have m31 := ((unhide HO).cell (p := ⟨w.heap.size + 2, 1, none⟩) (by show w.heap.size + 2 < w2.heap.size; omega)).trans k31
    have fw0 := ((unhide HO).frozen (p := ⟨w.heap.size + 2, 0, none⟩) (by show w.heap.size + 2 < w2.heap.size; omega)).trans fx0
    have fw1 := ((unhide HO).frozen (p := ⟨w.heap.size + 2, 1, none⟩) (by show w.heap.size + 2 < w2.heap.size; omega)).trans fx1
    clear k10 k11 k20 k21 k30 k31 fx0 fx1
    have HB4 := hide (below_step (unhide HB2) (unhide HO))
    go_wp2
    refine bodyPost_ret (v := .tuple #[.agg #[.int .i64 0, .int .i64 0], .int .i64 10]) (by simp [results, Try.results7, go_sem, m30, m31]) rfl ?_
    exact ⟨rfl, ((unhide HB4).setCell (by simp only; omega) _).setCell (by simp only; omega) _⟩

end Go.Proofs.Ytibkemolmpcdcaa

/- Plain: what Fit tells of an exact number, and of a quotient, is what dec tells. -/
namespace Go.Proofs.Ytibkemolmpcdcaa

theorem gq_sg (b : Bool) (A B : Nat) (hB : 0 < B) (e : Int) : gq (Dm.sg b A) (B : Int) e = Dm.sg b (Dm.rnd (A * 10 ^ (-e).toNat) (B * 10 ^ e.toNat) false) := by
  unfold gq
  have e1 : Dm.sg b A * (10 : Int) ^ (-e).toNat = Dm.sg b (A * 10 ^ (-e).toNat) := by
    unfold Dm.sg
    cases b
    · simp
    · simp [Int.neg_mul]
  have e2 : (B : Int) * (10 : Int) ^ e.toNat = ((B * 10 ^ e.toNat : Nat) : Int) := by simp
  rw [e1, e2, Dm.nr_sg b _ _ (Nat.mul_pos hB (Dm.p10_pos _))]
theorem fitT_sg (b : Bool) (A B : Nat) (hB : 0 < B) : fitT (Dm.sg b A) (B : Int) = Dm.fitF (fun e => Dm.sg b (Dm.rnd (A * 10 ^ (-e).toNat) (B * 10 ^ e.toNat) false)) 121 (-40) := by
  unfold fitT
  congr 1
  exact funext fun e => gq_sg b A B hB e
theorem p10_add (a b : Nat) : (10 : Nat) ^ a * 10 ^ b = 10 ^ (a + b) := (Nat.pow_add 10 a b).symm
/-- an exact value, in units of 10^e -/
theorem rnd_sc {A B S : Nat} {x e : Int} (hB : 0 < B) (h : A * 10 ^ (-x).toNat = S * 10 ^ x.toNat * B) : Dm.rnd (A * 10 ^ (-e).toNat) (B * 10 ^ e.toNat) false = Dm.sc S (x - e) false := by
  have pB : 0 < B * 10 ^ e.toNat := Nat.mul_pos hB (Dm.p10_pos _)
  have one : ∀ M : Nat, Dm.rnd M 1 false = M := fun M => by
    have := Dm.rnd_exact M 0 false rfl
    simpa using this
  unfold Dm.sc
  split
  · rename_i hs
    rw [← one (S * 10 ^ (x - e).toNat)]
    refine Dm.rnd_ratio pB (by omega) ?_
    apply Nat.eq_of_mul_eq_mul_right (Dm.p10_pos (-x).toNat)
    calc A * 10 ^ (-e).toNat * 1 * 10 ^ (-x).toNat = (A * 10 ^ (-x).toNat) * 10 ^ (-e).toNat := by grind
      _ = S * B * 10 ^ (x.toNat + (-e).toNat) := by rw [h, Nat.pow_add]; grind
      _ = S * B * 10 ^ ((x - e).toNat + e.toNat + (-x).toNat) := by congr 2; omega
      _ = S * 10 ^ (x - e).toNat * (B * 10 ^ e.toNat) * 10 ^ (-x).toNat := by rw [Nat.pow_add, Nat.pow_add]; grind
  · rename_i hs
    refine Dm.rnd_ratio pB (Dm.p10_pos _) ?_
    apply Nat.eq_of_mul_eq_mul_right (Dm.p10_pos (-x).toNat)
    calc A * 10 ^ (-e).toNat * 10 ^ (-(x - e)).toNat * 10 ^ (-x).toNat = (A * 10 ^ (-x).toNat) * 10 ^ (-e).toNat * 10 ^ (-(x - e)).toNat := by grind
      _ = S * B * 10 ^ (x.toNat + (-e).toNat + (-(x - e)).toNat) := by rw [h, Nat.pow_add, Nat.pow_add]; grind
      _ = S * B * 10 ^ (e.toNat + (-x).toNat) := by congr 2; omega
      _ = S * (B * 10 ^ e.toNat) * 10 ^ (-x).toNat := by rw [Nat.pow_add]; grind
theorem rnd_ge {A B M : Nat} (hB : 0 < B) (h : M * B ≤ A) : M ≤ Dm.rnd A B false := by
  have : M ≤ A / B := (Nat.le_div_iff_mul_le hB).2 h
  unfold Dm.rnd
  split <;> omega
theorem e18 : (1000000000000000000 : Nat) = 10 ^ 18 := by decide
theorem sc_low {S : Nat} {x e : Int} (h1 : 1 ≤ S) (hS : S < 10 ^ 200) (he : -40 ≤ e) (hl : e < Dm.nE S x) : 1000000000000000000 ≤ Dm.sc S (x - e) false := by
  obtain ⟨a, _, c, _⟩ := Dm.nd_spec h1 hS
  have hx : Dm.nE S x = x + Dm.nd S - 18 := by unfold Dm.nE at *; omega
  rw [e18]
  unfold Dm.sc
  split
  · have : 10 ^ (Dm.nd S - 1) * 10 ^ (x - e).toNat ≤ S * 10 ^ (x - e).toNat := Nat.mul_le_mul_right _ c
    rw [p10_add] at this
    exact Nat.le_trans (Dm.p10_le (by omega)) this
  · refine rnd_ge (Dm.p10_pos _) ?_
    rw [p10_add]
    exact Nat.le_trans (Dm.p10_le (by omega)) c
theorem sg_self (N : Int) : Dm.sg (decide (N < 0)) N.natAbs = N := by
  unfold Dm.sg
  by_cases h : N < 0
  · simp [h]; omega
  · simp [h]; omega
/-- what is exact -/
theorem fit_exact {N D S x : Int} (hD : 0 < D) (hS : S.natAbs < 10 ^ 200) (h : N * (10 : Int) ^ (-x).toNat = S * (10 : Int) ^ x.toNat * D) :
    fitT N D = (Dm.fC (Dm.nearZ S x false) (Dm.nE S.natAbs x), Dm.fE (Dm.nearZ S x false) (Dm.nE S.natAbs x), Dm.fR (Dm.nearZ S x false) (Dm.nE S.natAbs x)) := by
  have hn : N.natAbs * 10 ^ (-x).toNat = S.natAbs * 10 ^ x.toNat * D.natAbs := by
    have := congrArg Int.natAbs h
    rw [Int.natAbs_mul, Int.natAbs_mul, Int.natAbs_mul, Int.natAbs_pow, Int.natAbs_pow] at this
    exact this
  have hB : 0 < D.natAbs := by omega
  have hsign : decide (N < 0) = decide (S < 0) := by
    have p1 : (0 : Int) < 10 ^ (-x).toNat := Int.pow_pos (by decide)
    have p2 : (0 : Int) < 10 ^ x.toNat := Int.pow_pos (by decide)
    have k1 : (N * (10 : Int) ^ (-x).toNat < 0) ↔ N < 0 := by
      constructor
      · intro g
        rcases Int.lt_or_le N 0 with k | k
        · exact k
        · have := Int.mul_nonneg k (Int.le_of_lt p1); omega
      · intro g; exact Int.mul_neg_of_neg_of_pos g p1
    have k2 : (S * (10 : Int) ^ x.toNat * D < 0) ↔ S < 0 := by
      constructor
      · intro g
        rcases Int.lt_or_le S 0 with k | k
        · exact k
        · have := Int.mul_nonneg (Int.mul_nonneg k (Int.le_of_lt p2)) (Int.le_of_lt hD); omega
      · intro g; exact Int.mul_neg_of_neg_of_pos (Int.mul_neg_of_neg_of_pos g p2) hD
    rw [h] at k1
    exact decide_eq_decide.2 (k1.symm.trans k2)
  have e1 : N = Dm.sg (decide (S < 0)) N.natAbs := by rw [← hsign]; exact (sg_self N).symm
  have e2 : D = ((D.natAbs : Nat) : Int) := by omega
  have e3 := fitT_sg (decide (S < 0)) N.natAbs D.natAbs hB
  rw [← e1, ← e2] at e3
  rw [e3]
  have hf : ∀ e : Int, Dm.rnd (N.natAbs * 10 ^ (-e).toNat) (D.natAbs * 10 ^ e.toNat) false = Dm.sc S.natAbs (x - e) false := fun e => rnd_sc hB hn
  simp only [hf]
  unfold Dm.nearZ
  by_cases h0 : S.natAbs = 0
  · rw [h0, Dm.nQ_zero]
    refine Dm.fit_zero _ (fun e => Dm.sc 0 (x - e) false) ?_ _
    unfold Dm.sc
    split
    · simp
    · unfold Dm.rnd Dm.up
      rw [Nat.zero_mod, Nat.zero_div, if_neg (by simp)]
  · exact Dm.fit_told _ S.natAbs x false (fun e => Dm.sc S.natAbs (x - e) false) (by omega) hS (fun _ _ => rfl) (fun e g1 g2 => sc_low (by omega) hS g1 g2)
/-- what is a quotient -/
theorem fit_quot {A B C1 C2 : Nat} {y : Int} (b : Bool) (hB : 0 < B) (hC : 0 < C2) (l2 : C2 < 1000000000000000000) (l1 : C1 < 1000000000000000000) (h : A * C2 * 10 ^ (-y).toNat = C1 * 10 ^ y.toNat * B) :
    fitT (Dm.sg b A) (B : Int) = (Dm.fC (Dm.sg b (Dm.nQ (C1 * 10 ^ 40 / C2) (y - 40) (decide (C1 * 10 ^ 40 % C2 ≠ 0)))) (Dm.nE (C1 * 10 ^ 40 / C2) (y - 40)), Dm.fE (Dm.sg b (Dm.nQ (C1 * 10 ^ 40 / C2) (y - 40) (decide (C1 * 10 ^ 40 % C2 ≠ 0)))) (Dm.nE (C1 * 10 ^ 40 / C2) (y - 40)), Dm.fR (Dm.sg b (Dm.nQ (C1 * 10 ^ 40 / C2) (y - 40) (decide (C1 * 10 ^ 40 % C2 ≠ 0)))) (Dm.nE (C1 * 10 ^ 40 / C2) (y - 40))) := by
  rw [fitT_sg b A B hB]
  by_cases h0 : C1 = 0
  · subst h0
    have hA : A = 0 := by
      rw [Nat.zero_mul, Nat.zero_mul] at h
      rcases Nat.mul_eq_zero.1 h with g | g
      · rcases Nat.mul_eq_zero.1 g with k | k
        · exact k
        · omega
      · have := Dm.p10_pos (-y).toNat; omega
    subst hA
    rw [Nat.zero_mul, Nat.zero_div, Nat.zero_mod, show decide ((0 : Nat) ≠ 0) = false from rfl, Dm.nQ_zero]
    refine Dm.fit_zero b (fun e => Dm.rnd (0 * 10 ^ (-e).toNat) (B * 10 ^ e.toNat) false) ?_ _
    unfold Dm.rnd Dm.up
    rw [Nat.zero_mul, Nat.zero_mod, Nat.zero_div, if_neg (by
      have := Nat.mul_pos hB (Dm.p10_pos (-40 : Int).toNat)
      simp only [Nat.mul_zero, decide_eq_true_eq]
      omega)]
  · have hS1 : 10 ^ 22 ≤ C1 * 10 ^ 40 / C2 := by
      rw [Nat.le_div_iff_mul_le hC]
      have : 10 ^ 22 * C2 ≤ 10 ^ 22 * 10 ^ 18 := Nat.mul_le_mul_left _ (by rw [← e18]; omega)
      rw [p10_add] at this
      have k : 1 * 10 ^ 40 ≤ C1 * 10 ^ 40 := Nat.mul_le_mul_right _ (by omega)
      omega
    have hS2 : C1 * 10 ^ 40 / C2 < 10 ^ 200 := by
      refine Nat.lt_of_le_of_lt (Nat.div_le_self _ _) ?_
      have : C1 * 10 ^ 40 < 10 ^ 18 * 10 ^ 40 := Nat.mul_lt_mul_of_pos_right (by rw [← e18]; omega) (Dm.p10_pos 40)
      rw [p10_add] at this
      exact Nat.lt_of_lt_of_le this (Dm.p10_le (by omega))
    have hdiv : C1 * 10 ^ 40 / C2 * C2 ≤ C1 * 10 ^ 40 := Nat.div_mul_le_self _ _
    obtain ⟨S, hS⟩ : ∃ S, C1 * 10 ^ 40 / C2 = S := ⟨_, rfl⟩
    have hS1' : 1 ≤ S := by rw [← hS]; exact Nat.le_trans (Dm.p10_pos 22) hS1
    rw [hS] at hS1 hS2 hdiv ⊢
    obtain ⟨n1, _, n3, n4⟩ := Dm.nd_spec hS1' hS2
    have nd23 : 23 ≤ Dm.nd S := by
      have : 10 ^ 22 < 10 ^ Dm.nd S := Nat.lt_of_le_of_lt hS1 n4
      have := Dm.p10_lt this
      omega
    have hE : y - 40 + Dm.nd S - 18 ≤ Dm.nE S (y - 40) := by unfold Dm.nE; omega
    refine Dm.fit_told b S (y - 40) _ (fun e => Dm.rnd (A * 10 ^ (-e).toNat) (B * 10 ^ e.toNat) false) hS1' hS2 (fun e he => ?_) (fun e g1 g2 => ?_)
    · have hneg : ¬ 0 ≤ y - 40 - e := by omega
      obtain ⟨k, hk⟩ : ∃ k : Nat, (-(y - 40 - e)).toNat = k + 1 := ⟨(-(y - 40 - e)).toNat - 1, by omega⟩
      unfold Dm.sc
      rw [if_neg hneg, hk, ← hS, ← Dm.rnd_rest (C1 * 10 ^ 40) C2 (10 ^ (k + 1)) hC (by rw [Nat.pow_succ]; omega) (Dm.p10_pos _)]
      refine Dm.rnd_ratio (Nat.mul_pos hB (Dm.p10_pos _)) (Nat.mul_pos hC (Dm.p10_pos _)) ?_
      apply Nat.eq_of_mul_eq_mul_right (Dm.p10_pos (-y).toNat)
      calc A * 10 ^ (-e).toNat * (C2 * 10 ^ (k + 1)) * 10 ^ (-y).toNat = (A * C2 * 10 ^ (-y).toNat) * 10 ^ (-e).toNat * 10 ^ (k + 1) := by grind
        _ = C1 * B * 10 ^ (y.toNat + (-e).toNat + (k + 1)) := by rw [h, Nat.pow_add 10 (y.toNat + (-e).toNat), Nat.pow_add]; grind
        _ = C1 * B * 10 ^ (40 + e.toNat + (-y).toNat) := by congr 2; omega
        _ = C1 * 10 ^ 40 * (B * 10 ^ e.toNat) * 10 ^ (-y).toNat := by rw [Nat.pow_add, Nat.pow_add]; grind
    · have hx : Dm.nE S (y - 40) = y - 40 + Dm.nd S - 18 := by unfold Dm.nE at *; omega
      rw [e18]
      refine rnd_ge (Nat.mul_pos hB (Dm.p10_pos _)) ?_
      have pos : 0 < C2 * 10 ^ (-y).toNat * 10 ^ 40 := Nat.mul_pos (Nat.mul_pos hC (Dm.p10_pos _)) (Dm.p10_pos _)
      apply Nat.le_of_mul_le_mul_right _ pos
      have r : A * 10 ^ (-e).toNat * (C2 * 10 ^ (-y).toNat * 10 ^ 40) = (C1 * 10 ^ 40) * B * 10 ^ (y.toNat + (-e).toNat) := by
        calc A * 10 ^ (-e).toNat * (C2 * 10 ^ (-y).toNat * 10 ^ 40) = (A * C2 * 10 ^ (-y).toNat) * 10 ^ (-e).toNat * 10 ^ 40 := by grind
          _ = (C1 * 10 ^ 40) * B * 10 ^ (y.toNat + (-e).toNat) := by rw [h, Nat.pow_add 10 y.toNat]; grind
      have l : 10 ^ 18 * (B * 10 ^ e.toNat) * (C2 * 10 ^ (-y).toNat * 10 ^ 40) = (10 ^ (18 + e.toNat + (-y).toNat + 40) * C2) * B := by
        rw [Nat.pow_add, Nat.pow_add, Nat.pow_add]; grind
      rw [r, l]
      have m1 : 10 ^ (Dm.nd S - 1) * C2 ≤ C1 * 10 ^ 40 := Nat.le_trans (Nat.mul_le_mul_right _ n3) hdiv
      have m2 : 10 ^ (18 + e.toNat + (-y).toNat + 40) ≤ 10 ^ (Dm.nd S - 1 + (y.toNat + (-e).toNat)) := Dm.p10_le (by omega)
      calc 10 ^ (18 + e.toNat + (-y).toNat + 40) * C2 * B ≤ 10 ^ (Dm.nd S - 1 + (y.toNat + (-e).toNat)) * C2 * B := Nat.mul_le_mul_right _ (Nat.mul_le_mul_right _ m2)
        _ = (10 ^ (Dm.nd S - 1) * C2) * B * 10 ^ (y.toNat + (-e).toNat) := by rw [Nat.pow_add]; grind
        _ ≤ (C1 * 10 ^ 40) * B * 10 ^ (y.toNat + (-e).toNat) := Nat.mul_le_mul_right _ (Nat.mul_le_mul_right _ m1)
theorem icmp_sgn (x y : Int) : icmp x y = Dm.sgn (x - y) := by
  unfold icmp Dm.sgn
  rcases Int.lt_trichotomy x y with h | h | h
  · rw [if_pos h, if_pos (by omega)]
  · rw [if_neg (by omega), if_pos h, if_neg (by omega), if_pos (by omega)]
  · rw [if_neg (by omega), if_neg (by omega), if_neg (by omega), if_neg (by omega)]
/-- two numbers compare as their fractions -/
theorem cmp_same {c1 x1 c2 x2 : Int} (a3 : -40 ≤ x1) (b3 : -40 ≤ x2) : icmp (c1 * (10 : Int) ^ x1.toNat * (10 : Int) ^ (-x2).toNat) (c2 * (10 : Int) ^ x2.toNat * (10 : Int) ^ (-x1).toNat) = Dm.sgn (Dm.V c1 x1 - Dm.V c2 x2) := by
  rw [← icmp_sgn]
  unfold Dm.V
  rw [Dm.tens_eq, Dm.tens_eq]
  refine icmp_cross (K := (10 : Int) ^ 40) (M := (10 : Int) ^ ((-x1).toNat + (-x2).toNat)) (Int.pow_pos (by decide)) (Int.pow_pos (by decide)) ?_ ?_
  · rw [Int.mul_assoc c1, ← Int.pow_add, Int.mul_assoc, ← Int.pow_add, Int.mul_assoc, ← Int.pow_add]
    congr 2
    omega
  · rw [Int.mul_assoc c2, ← Int.pow_add, Int.mul_assoc, ← Int.pow_add, Int.mul_assoc, ← Int.pow_add]
    congr 2
    omega
end Go.Proofs.Ytibkemolmpcdcaa

/- Walks: stretched, compareSizes, Cmp. -/
namespace Go.Proofs.Ytibkemolmpcdcaa
open Go.RowKit

set_option maxHeartbeats 400000 in
theorem stretched_any (c x : Int) (w : World) (h1 : -1000000000000000000 < c) (h2 : c < 1000000000000000000) (h0 : 1 ≤ (c.natAbs : Int)) (hx1 : -40 ≤ x) (hx2 : x ≤ 40) :
    Calls Try.prog 76 #[.agg #[.int .i64 c, .int .i64 x]] w fun e w' => ∃ (m : Int) (k : Nat), e = .returned (.tuple #[.int .u64 m, .int .i64 (x - k)]) ∧ m = Dm.tens (c.natAbs : Int) k ∧ 100000000000000000 ≤ m ∧ m < 1000000000000000000 ∧ k ≤ 17 ∧ Below w.heap.size w w' := by
  have h9 : (c.natAbs : Int) < 1000000000000000000 := by omega
  go_enter Try.func76, Try.ntmps76
  go_upto_region 1 with fail
  go_cut [4, 5] from 6 (fun a b wc => a = .int .u64 (c.natAbs : Int) ∧ b = .int .i64 x ∧ Below w.heap.size w wc)
  case first =>
    go_region_with (go_at_call 44; refine (size_any c x _ h1 h2).mono ?_; rintro e w1 ⟨rfl, hb⟩; obtain ⟨hc, hf⟩ := bcell hb)
    all_goals
      go_wp2_with fail
      go_meet
      case rel => exact ⟨rfl, rfl, (((Below.refl _ _).alloc (Nat.le_refl _) _).drew).trans (hb.mono (by simp))⟩
  case rest =>
    obtain ⟨rfl, rfl, hbel⟩ := hcut
    go_wp2
    go_loop [4, 5] (fun a b => ∃ (m : Int) (k : Nat), a = .int .u64 m ∧ b = .int .i64 (x - k) ∧ Hid (m = Dm.tens (c.natAbs : Int) k) ∧ 1 ≤ m ∧ m < 1000000000000000000 ∧ k ≤ 17) (fun a _ => (1000000000000000000 - intOf a).toNat)
    case atStart => exact ⟨_, 0, rfl, by simp, hide rfl, h0, h9, by omega⟩
    case round =>
      obtain ⟨m, k, rfl, rfl, H, hm1, hm2, hk⟩ := hrel
      by_cases hlt : m < 100000000000000000
      · have hk' := Dm.tens_lt (unhide H) h0 hlt
        go_wp2
        go_round
        case rel => exact ⟨_, k + 1, rfl, by go_num, hide (by rw [unhide H]; rfl), by omega, by omega, by omega⟩
        case measure => simp [intOf]; omega
      · go_wp2
        go_ret2
        exact ⟨m, k, rfl, unhide H, by omega, hm2, hk, hbel⟩

set_option maxHeartbeats 400000 in
theorem compareSizes_any (c1 x1 c2 x2 : Int) (w : World) (a1 : -1000000000000000000 < c1) (a2 : c1 < 1000000000000000000) (a0 : 1 ≤ (c1.natAbs : Int)) (a3 : -40 ≤ x1) (a4 : x1 ≤ 40)
    (b1 : -1000000000000000000 < c2) (b2 : c2 < 1000000000000000000) (b0 : 1 ≤ (c2.natAbs : Int)) (b3 : -40 ≤ x2) (b4 : x2 ≤ 40) :
    Calls Try.prog 42 #[.agg #[.int .i64 c1, .int .i64 x1], .agg #[.int .i64 c2, .int .i64 x2]] w fun e w' => e = .returned (.int .i64 (Dm.sgn (Dm.V (c1.natAbs : Int) x1 - Dm.V (c2.natAbs : Int) x2))) ∧ Below w.heap.size w w' := by
  go_enter Try.func42, Try.ntmps42
  go_wp2_with fail
  refine (stretched_any c1 x1 _ a1 a2 a0 a3 a4).mono ?_
  rintro e w1 ⟨m1, k1, rfl, e1, l1, u1, t1, hb⟩
  obtain ⟨hc, hf⟩ := bcell hb
  have hz : w.heap.size + 2 ≤ w1.heap.size := by have := hb.size; simp at this; omega
  have hb0 : Below w.heap.size w w1 := (((Below.refl _ _).alloc (Nat.le_refl _) _).alloc (by simp) _).trans (hb.mono (by simp; omega))
  have E1 := hide e1
  clear e1
  go_wp2_with fail
  refine (stretched_any c2 x2 _ b1 b2 b0 b3 b4).mono ?_
  rintro e w2 ⟨m2, k2, rfl, e2, l2, u2, t2, hb2⟩
  have hb9 : Below w.heap.size w w2 := hb0.trans (hb2.mono (by omega))
  have E2 := hide e2
  clear e2 hc hf hz hb0
  have HV := hide (Dm.cmp_sizes a3 b3 (unhide E1) (unhide E2) l1 u1 l2 u2 t1 t2)
  by_cases h : x1 - (k1 : Int) = x2 - (k2 : Int)
  · have h' : (x1 - (k1 : Int) != x2 - (k2 : Int)) = false := by simp [h]
    have h2 := hide h
    clear h
    go_wp2_with fail
    refine (cmpU64_any m1 m2 _).mono ?_
    rintro e w3 ⟨rfl, rfl⟩
    go_wp2
    go_ret
    exact ⟨ret_int ((unhide HV).1 (unhide h2)).symm, hb9⟩
  · have h' : (x1 - (k1 : Int) != x2 - (k2 : Int)) = true := by simp [h]
    have h2 := hide h
    clear h
    go_wp2_with fail
    refine (cmpInt_any _ _ _).mono ?_
    rintro e w3 ⟨rfl, rfl⟩
    go_wp2
    go_ret
    exact ⟨ret_int ((unhide HV).2 (unhide h2)).symm, hb9⟩

end Go.Proofs.Ytibkemolmpcdcaa

/- Walks: Cmp. -/
namespace Go.Proofs.Ytibkemolmpcdcaa
open Go.RowKit

set_option maxHeartbeats 400000 in
theorem cmp_no (c1 x1 c2 x2 : Int) (w : World) (h : (Dm.wrong2 c1 x1 c2 x2 != 0) = true) :
    Calls Try.prog 11 #[.agg #[.int .i64 c1, .int .i64 x1], .agg #[.int .i64 c2, .int .i64 x2]] w fun e w' => e = .returned (.tuple #[.int .i64 0, .int .i64 (Dm.wrong2 c1 x1 c2 x2)]) ∧ Below w.heap.size w w' := by
  go_enter Try.func11, Try.ntmps11
  go_wp2_with fail
  refine (wrongOf_any c1 x1 c2 x2 _).mono ?_
  rintro e w1 ⟨rfl, hb⟩
  go_wp2
  go_ret2
  exact ⟨rfl, (((Below.refl _ _).alloc (Nat.le_refl _) _).alloc (by simp) _).trans (hb.mono (by simp; omega))⟩

/-- Cmp of two right numbers, out of what its callees come to. -/
theorem cmp_core (c1 x1 c2 x2 : Int) (w : World) (h : Dm.wrong2 c1 x1 c2 x2 = 0) (r : Int)
    (hd : Dm.sgn c1 ≠ Dm.sgn c2 → r = Dm.sgn (Dm.sgn c1 - Dm.sgn c2)) (hz : Dm.sgn c1 = Dm.sgn c2 → Dm.sgn c1 = 0 → r = 0)
    (hs : Dm.sgn c1 = Dm.sgn c2 → Dm.sgn c1 ≠ 0 → ∃ s, -1 ≤ s ∧ s ≤ 1 ∧ r = Dm.sgn c1 * s ∧ ∀ wx, Calls Try.prog 42 #[.agg #[.int .i64 c1, .int .i64 x1], .agg #[.int .i64 c2, .int .i64 x2]] wx fun e w' => e = .returned (.int .i64 s) ∧ Below wx.heap.size wx w') :
    Calls Try.prog 11 #[.agg #[.int .i64 c1, .int .i64 x1], .agg #[.int .i64 c2, .int .i64 x2]] w fun e w' => e = .returned (.tuple #[.int .i64 r, .int .i64 0]) ∧ Below w.heap.size w w' := by
  have hd' := hide hd
  have hz' := hide hz
  have hs' := hide hs
  clear hd hz hs
  have sb := Dm.sgn_bd c1
  go_enter Try.func11, Try.ntmps11
  go_wp2_with fail
  refine (wrongOf_any c1 x1 c2 x2 _).mono ?_
  rintro e w1 ⟨rfl, hb⟩
  obtain ⟨hc, hf⟩ := bcell hb
  have hz1 : w.heap.size + 2 ≤ w1.heap.size := by have := hb.size; simp at this; omega
  have hb0 : Below w.heap.size w w1 := (((Below.refl _ _).alloc (Nat.le_refl _) _).alloc (by simp) _).trans (hb.mono (by simp; omega))
  rw [h]
  clear h
  go_wp2_with fail
  go_quiet ((go_at_call 40; exact Calls.quiet_of_same (cmpI64_any _ _ _)))
  by_cases h12 : Dm.sgn c1 = Dm.sgn c2
  · have h12' : (Dm.sgn c1 != Dm.sgn c2) = false := by simp [h12]
    have e12 := hide h12
    clear h12
    by_cases h0 : Dm.sgn c1 = 0
    · have h0' : (Dm.sgn c1 == 0) = true := by simp [h0]
      have e0 := hide h0
      clear h0
      go_wp2
      go_ret2
      rw [unhide hz' (unhide e12) (unhide e0)]
      exact ⟨rfl, below_drewN hb0 _⟩
    · have h0' : (Dm.sgn c1 == 0) = false := by simp [h0]
      obtain ⟨s, l1, l2, er, hcalls⟩ := unhide hs' (unhide e12) h0
      have hcalls' := hide hcalls
      have er' := hide er
      have em : -1 ≤ Dm.sgn c1 * s ∧ Dm.sgn c1 * s ≤ 1 := by
        rcases (show Dm.sgn c1 = -1 ∨ Dm.sgn c1 = 1 by omega) with q | q <;> rw [q] <;> omega
      obtain ⟨em1, em2⟩ := em
      clear hcalls er h0
      go_wp2_with fail
      refine (unhide hcalls' _).mono ?_
      rintro e w2 ⟨rfl, hb2⟩
      go_wp2
      go_ret2
      rw [unhide er']
      exact ⟨rfl, (below_drewN hb0 _).trans (hb2.mono (by simp; omega))⟩
  · have h12' : (Dm.sgn c1 != Dm.sgn c2) = true := by simp [h12]
    have hr := hide (unhide hd' h12)
    clear h12
    go_wp2_with fail
    refine (cmpInt_any _ _ _).mono ?_
    rintro e w3 ⟨rfl, rfl⟩
    go_wp2
    go_ret2
    rw [unhide hr]
    exact ⟨rfl, below_drewN hb0 _⟩

theorem cmp_ok (c1 x1 c2 x2 : Int) (w : World) (h1 : Dm.wrongN c1 x1 = 0) (h2 : Dm.wrongN c2 x2 = 0) :
    Calls Try.prog 11 #[.agg #[.int .i64 c1, .int .i64 x1], .agg #[.int .i64 c2, .int .i64 x2]] w fun e w' => e = .returned (.tuple #[.int .i64 (Dm.sgn (Dm.V c1 x1 - Dm.V c2 x2)), .int .i64 0]) ∧ Below w.heap.size w w' := by
  obtain ⟨p1, p2, p3, p4, _⟩ := Dm.wrong_ok h1
  obtain ⟨q1, q2, q3, q4, _⟩ := Dm.wrong_ok h2
  refine cmp_core c1 x1 c2 x2 w (by rw [Dm.wrong2_ok h1, h2]) _ ?_ ?_ ?_
  · exact Dm.cmp_diff x1 x2
  · exact Dm.cmp_zero x1 x2
  · intro h12 h0
    obtain ⟨n1, n2, hr⟩ := Dm.cmp_same x1 x2 h12 h0
    exact ⟨_, (Dm.sgn_bd _).1, (Dm.sgn_bd _).2, hr, fun wx => compareSizes_any c1 x1 c2 x2 wx p1 p2 n1 p3 p4 q1 q2 n2 q3 q4⟩
end Go.Proofs.Ytibkemolmpcdcaa

/- Digits in memory: a slice of bytes that holds them. -/
namespace Go.Proofs.Ytibkemolmpcdcaa
open Go.RowKit

/-- the slice at block b, from off on, holds the n digits that D tells -/
structure DS (w : World) (b off n : Nat) (D : Nat → Nat) : Prop where
  blk : b < w.heap.size
  cell : ∀ j, j < n → w.cell? ⟨b, off + j, none⟩ = some (.int .u8 (D j : Int))
  dig : ∀ j, D j < 10
  len : n ≤ 1000

theorem DS.below {w w' : World} {b off n : Nat} {D : Nat → Nat} (h : DS w b off n D) (hb : Below w.heap.size w w') : DS w' b off n D :=
  ⟨Nat.lt_of_lt_of_le h.blk hb.size, fun j hj => (hb.cell (p := ⟨b, off + j, none⟩) h.blk).trans (h.cell j hj), h.dig, h.len⟩
theorem DS.drop {w : World} {b off n : Nat} {D : Nat → Nat} (h : DS w b off n D) (k : Nat) (hk : k ≤ n) : DS w b (off + k) (n - k) (fun j => D (k + j)) :=
  ⟨h.blk, fun j hj => by rw [Nat.add_assoc]; exact h.cell (k + j) (by omega), fun j => h.dig _, by have := h.len; omega⟩
theorem DS.empty {w : World} {b off n : Nat} {D : Nat → Nat} (h : DS w b off n D) (off' : Nat) {E : Nat → Nat} (hE : ∀ j, E j < 10) {m : Nat} (hm : m = 0) : DS w b off' m E :=
  ⟨h.blk, fun j hj => absurd hj (by omega), hE, by omega⟩
end Go.Proofs.Ytibkemolmpcdcaa
