/- Walks: the document's answer: Do (written by gen_br5.py). -/
import Derived.Test.YtibkemolmpcdcaaG11
namespace Go.Proofs.Ytibkemolmpcdcaa
open Go.RowKit

theorem fr61 {a : Act} (hs : a.tmps.size = 61) (hd : a.defers = []) : a = { tmps := #[G a 0, G a 1, G a 2, G a 3, G a 4, G a 5, G a 6, G a 7, G a 8, G a 9, G a 10, G a 11, G a 12, G a 13, G a 14, G a 15, G a 16, G a 17, G a 18, G a 19, G a 20, G a 21, G a 22, G a 23, G a 24, G a 25, G a 26, G a 27, G a 28, G a 29, G a 30, G a 31, G a 32, G a 33, G a 34, G a 35, G a 36, G a 37, G a 38, G a 39, G a 40, G a 41, G a 42, G a 43, G a 44, G a 45, G a 46, G a 47, G a 48, G a 49, G a 50, G a 51, G a 52, G a 53, G a 54, G a 55, G a 56, G a 57, G a 58, G a 59, G a 60], defers := [] } := frame_is hs hd

theorem RV.neg {w : World} {p : Nat} {N D : Int} (h : RV w p N D) : RV w p (-N) (-D) := by
  obtain ⟨n, d, q, e, g⟩ := h
  exact ⟨n, d, q, by rw [Int.mul_neg, Int.neg_mul, e], by rw [Int.natAbs_neg]; exact g⟩

set_option maxHeartbeats 2000000 in
theorem do_no (k : Int) (c1 x1 c2 x2 : Int) (w : World) (h : (Dm.wrong2 c1 x1 c2 x2 != 0) = true) :
    Calls Try.prog 7 #[.int .u8 k, .agg #[.int .i64 c1, .int .i64 x1], .agg #[.int .i64 c2, .int .i64 x2]] w fun e w' => e = toldT (0, 0, Dm.wrong2 c1 x1 c2 x2) ∧ Below w.heap.size w w' := by
  obtain ⟨wC, hwC⟩ : ∃ wC, wC = (((w.alloc (.cells #[.int .i64 c1, .int .i64 x1] 23)).alloc (.cells #[.int .i64 c2, .int .i64 x2] 23)).alloc (.cells #[.int .i64 0, .int .i64 0] 23)) := ⟨_, rfl⟩
  have NC : Below w.heap.size w wC := by rw [hwC]; exact below_step (below_step (below_new _ _) (below_new _ _)) (below_new _ _)
  have sC : wC.heap.size = w.heap.size + 3 := by rw [hwC]; simp
  have p10 : wC.cell? ⟨w.heap.size, 0, none⟩ = some (.int .i64 c1) := by rw [hwC]; simp [go_sem]
  have p11 : wC.cell? ⟨w.heap.size, 1, none⟩ = some (.int .i64 x1) := by rw [hwC]; simp [go_sem]
  have p20 : wC.cell? ⟨w.heap.size + 1, 0, none⟩ = some (.int .i64 c2) := by rw [hwC]; simp [go_sem]
  have p21 : wC.cell? ⟨w.heap.size + 1, 1, none⟩ = some (.int .i64 x2) := by rw [hwC]; simp [go_sem]
  have p30 : wC.cell? ⟨w.heap.size + 2, 0, none⟩ = some (.int .i64 0) := by rw [hwC]; simp [go_sem]
  have p31 : wC.cell? ⟨w.heap.size + 2, 1, none⟩ = some (.int .i64 0) := by rw [hwC]; simp [go_sem]
  have fz0 : wC.frozen? ⟨w.heap.size + 2, 0, none⟩ = false := by rw [hwC]; simp [go_sem]
  have fz1 : wC.frozen? ⟨w.heap.size + 2, 1, none⟩ = false := by rw [hwC]; simp [go_sem]
  have W1 := hide (rwrong_any c1 x1 (((w.alloc (.cells #[.int .i64 c1, .int .i64 x1] 23)).alloc (.cells #[.int .i64 c2, .int .i64 x2] 23)).alloc (.cells #[.int .i64 0, .int .i64 0] 23)))
  by_cases h1 : Dm.wrongN c1 x1 = 0
  · rw [Dm.wrong2_ok h1] at h ⊢
    have g1 : (Dm.wrongN c1 x1 != 0) = false := by rw [h1]; rfl
    clear h1
    go_enter Try.func7, Try.ntmps7
    go_wp2_with fail
    refine (unhide W1).mono ?_
    rw [← hwC]
    rintro e w1 ⟨rfl, hb1⟩
    have s1 := hb1.size
    have q10 := (hb1.cell (p := ⟨w.heap.size, 0, none⟩) (by show w.heap.size < wC.heap.size; omega)).trans p10
    have q11 := (hb1.cell (p := ⟨w.heap.size, 1, none⟩) (by show w.heap.size < wC.heap.size; omega)).trans p11
    have q20 := (hb1.cell (p := ⟨w.heap.size + 1, 0, none⟩) (by show w.heap.size + 1 < wC.heap.size; omega)).trans p20
    have q21 := (hb1.cell (p := ⟨w.heap.size + 1, 1, none⟩) (by show w.heap.size + 1 < wC.heap.size; omega)).trans p21
    have q30 := (hb1.cell (p := ⟨w.heap.size + 2, 0, none⟩) (by show w.heap.size + 2 < wC.heap.size; omega)).trans p30
    have q31 := (hb1.cell (p := ⟨w.heap.size + 2, 1, none⟩) (by show w.heap.size + 2 < wC.heap.size; omega)).trans p31
    have fy0 := (hb1.frozen (p := ⟨w.heap.size + 2, 0, none⟩) (by show w.heap.size + 2 < wC.heap.size; omega)).trans fz0
    have fy1 := (hb1.frozen (p := ⟨w.heap.size + 2, 1, none⟩) (by show w.heap.size + 2 < wC.heap.size; omega)).trans fz1
    have W2 := hide (rwrong_any c2 x2 w1)
    have HB := hide (below_step NC hb1)
    clear hb1 p10 p11 p20 p21 p30 p31 fz0 fz1
    go_wp2_with fail
    refine (unhide W2).mono ?_
    rintro e w2 ⟨rfl, hb2⟩
    have k30 := (hb2.cell (p := ⟨w.heap.size + 2, 0, none⟩) (by show w.heap.size + 2 < w1.heap.size; omega)).trans q30
    have k31 := (hb2.cell (p := ⟨w.heap.size + 2, 1, none⟩) (by show w.heap.size + 2 < w1.heap.size; omega)).trans q31
    have fx0 := (hb2.frozen (p := ⟨w.heap.size + 2, 0, none⟩) (by show w.heap.size + 2 < w1.heap.size; omega)).trans fy0
    have fx1 := (hb2.frozen (p := ⟨w.heap.size + 2, 1, none⟩) (by show w.heap.size + 2 < w1.heap.size; omega)).trans fy1
    have HB2 := hide (below_step (unhide HB) hb2)
    clear hb2 q30 q31 fy0 fy1
    go_wp2
    refine bodyPost_ret (v := .tuple #[.agg #[.int .i64 0, .int .i64 0], .int .i64 (Dm.wrongN c2 x2)]) (by simp [results, Try.results7, go_sem, k30, k31]) rfl ?_
    exact ⟨rfl, ((unhide HB2).setCell (by simp only; omega) _).setCell (by simp only; omega) _⟩
  · rw [Dm.wrong2_no h1] at h ⊢
    clear h1
    go_enter Try.func7, Try.ntmps7
    go_wp2_with fail
    refine (unhide W1).mono ?_
    rw [← hwC]
    rintro e w1 ⟨rfl, hb1⟩
    have s1 := hb1.size
    have q30 := (hb1.cell (p := ⟨w.heap.size + 2, 0, none⟩) (by show w.heap.size + 2 < wC.heap.size; omega)).trans p30
    have q31 := (hb1.cell (p := ⟨w.heap.size + 2, 1, none⟩) (by show w.heap.size + 2 < wC.heap.size; omega)).trans p31
    have fy0 := (hb1.frozen (p := ⟨w.heap.size + 2, 0, none⟩) (by show w.heap.size + 2 < wC.heap.size; omega)).trans fz0
    have fy1 := (hb1.frozen (p := ⟨w.heap.size + 2, 1, none⟩) (by show w.heap.size + 2 < wC.heap.size; omega)).trans fz1
    have HB := hide (below_step NC hb1)
    clear hb1 p30 p31 fz0 fz1
    go_wp2
    refine bodyPost_ret (v := .tuple #[.agg #[.int .i64 0, .int .i64 0], .int .i64 (Dm.wrongN c1 x1)]) (by simp [results, Try.results7, go_sem, q30, q31]) rfl ?_
    exact ⟨rfl, ((unhide HB).setCell (by simp only; omega) _).setCell (by simp only; omega) _⟩

set_option maxRecDepth 100000 in
set_option maxHeartbeats 4000000 in
theorem do_add (c1 x1 c2 x2 : Int) (w : World) (h1 : Dm.wrongN c1 x1 = 0) (h2 : Dm.wrongN c2 x2 = 0) (a1 : -1000000000000000000 < c1) (a2 : c1 < 1000000000000000000) (a3 : -40 ≤ x1) (a4 : x1 ≤ 40) (b1 : -1000000000000000000 < c2) (b2 : c2 < 1000000000000000000) (b3 : -40 ≤ x2) (b4 : x2 ≤ 40) :
    Calls Try.prog 7 #[.int .u8 43, .agg #[.int .i64 c1, .int .i64 x1], .agg #[.int .i64 c2, .int .i64 x2]] w fun e w' => e = toldT (fitT ((c1 * (10 : Int) ^ x1.toNat) * ((10 : Int) ^ (-x2).toNat) + ((c2 * (10 : Int) ^ x2.toNat) * ((10 : Int) ^ (-x1).toNat))) (((10 : Int) ^ (-x1).toNat) * ((10 : Int) ^ (-x2).toNat))) ∧ Below w.heap.size w w' := by
  obtain ⟨wC, hwC⟩ : ∃ wC, wC = (((w.alloc (.cells #[.int .i64 c1, .int .i64 x1] 23)).alloc (.cells #[.int .i64 c2, .int .i64 x2] 23)).alloc (.cells #[.int .i64 0, .int .i64 0] 23)) := ⟨_, rfl⟩
  have NC : Below w.heap.size w wC := by rw [hwC]; exact below_step (below_step (below_new _ _) (below_new _ _)) (below_new _ _)
  have sC : wC.heap.size = w.heap.size + 3 := by rw [hwC]; simp
  have p10 : wC.cell? ⟨w.heap.size, 0, none⟩ = some (.int .i64 c1) := by rw [hwC]; simp [go_sem]
  have p11 : wC.cell? ⟨w.heap.size, 1, none⟩ = some (.int .i64 x1) := by rw [hwC]; simp [go_sem]
  have p20 : wC.cell? ⟨w.heap.size + 1, 0, none⟩ = some (.int .i64 c2) := by rw [hwC]; simp [go_sem]
  have p21 : wC.cell? ⟨w.heap.size + 1, 1, none⟩ = some (.int .i64 x2) := by rw [hwC]; simp [go_sem]
  have p30 : wC.cell? ⟨w.heap.size + 2, 0, none⟩ = some (.int .i64 0) := by rw [hwC]; simp [go_sem]
  have p31 : wC.cell? ⟨w.heap.size + 2, 1, none⟩ = some (.int .i64 0) := by rw [hwC]; simp [go_sem]
  have fz0 : wC.frozen? ⟨w.heap.size + 2, 0, none⟩ = false := by rw [hwC]; simp [go_sem]
  have fz1 : wC.frozen? ⟨w.heap.size + 2, 1, none⟩ = false := by rw [hwC]; simp [go_sem]
  have W1 := hide (rwrong_any c1 x1 (((w.alloc (.cells #[.int .i64 c1, .int .i64 x1] 23)).alloc (.cells #[.int .i64 c2, .int .i64 x2] 23)).alloc (.cells #[.int .i64 0, .int .i64 0] 23)))
  have lc1 : Ln c1 ≤ 2 := Ln_small (by omega)
  have lc2 : Ln c2 ≤ 2 := Ln_small (by omega)
  have t1 := Ln_ten x1.toNat
  have t2 := Ln_ten x2.toNat
  have t3 := Ln_ten (-x1).toNat
  have t4 := Ln_ten (-x2).toNat
  have t5 := Ln_mul c1 ((10 : Int) ^ x1.toNat)
  have t6 := Ln_mul c2 ((10 : Int) ^ x2.toNat)
  have u1 := Ln_mul (c1 * (10 : Int) ^ x1.toNat) ((10 : Int) ^ (-x2).toNat)
  have u2 := Ln_mul (c2 * (10 : Int) ^ x2.toNat) ((10 : Int) ^ (-x1).toNat)
  have u3 := Ln_add ((c1 * (10 : Int) ^ x1.toNat) * ((10 : Int) ^ (-x2).toNat)) (((c2 * (10 : Int) ^ x2.toNat) * ((10 : Int) ^ (-x1).toNat)))
  have u4 := Ln_neg ((c2 * (10 : Int) ^ x2.toNat) * ((10 : Int) ^ (-x1).toNat))
  have u5 := Ln_mul ((10 : Int) ^ (-x1).toNat) ((10 : Int) ^ (-x2).toNat)
  have HD : Hid (0 < ((10 : Int) ^ (-x1).toNat) * ((10 : Int) ^ (-x2).toNat)) := hide (Int.mul_pos (Int.pow_pos (by decide)) (Int.pow_pos (by decide)))
  have g1 : (Dm.wrongN c1 x1 != 0) = false := by rw [h1]; rfl
  have g2 : (Dm.wrongN c2 x2 != 0) = false := by rw [h2]; rfl
  clear h1 h2
  go_enter Try.func7, Try.ntmps7
  go_wp2_with fail
  refine (unhide W1).mono ?_
  rw [← hwC]
  rintro e w1 ⟨rfl, hb1⟩
  have s1 := hb1.size
  have q10 := (hb1.cell (p := ⟨w.heap.size, 0, none⟩) (by show w.heap.size < wC.heap.size; omega)).trans p10
  have q11 := (hb1.cell (p := ⟨w.heap.size, 1, none⟩) (by show w.heap.size < wC.heap.size; omega)).trans p11
  have q20 := (hb1.cell (p := ⟨w.heap.size + 1, 0, none⟩) (by show w.heap.size + 1 < wC.heap.size; omega)).trans p20
  have q21 := (hb1.cell (p := ⟨w.heap.size + 1, 1, none⟩) (by show w.heap.size + 1 < wC.heap.size; omega)).trans p21
  have q30 := (hb1.cell (p := ⟨w.heap.size + 2, 0, none⟩) (by show w.heap.size + 2 < wC.heap.size; omega)).trans p30
  have q31 := (hb1.cell (p := ⟨w.heap.size + 2, 1, none⟩) (by show w.heap.size + 2 < wC.heap.size; omega)).trans p31
  have fy0 := (hb1.frozen (p := ⟨w.heap.size + 2, 0, none⟩) (by show w.heap.size + 2 < wC.heap.size; omega)).trans fz0
  have fy1 := (hb1.frozen (p := ⟨w.heap.size + 2, 1, none⟩) (by show w.heap.size + 2 < wC.heap.size; omega)).trans fz1
  have W2 := hide (rwrong_any c2 x2 w1)
  have HB := hide (below_step NC hb1)
  clear hb1 p10 p11 p20 p21 p30 p31 fz0 fz1
  go_wp2_with fail
  refine (unhide W2).mono ?_
  rintro e w2 ⟨rfl, hb2⟩
  have s2 := hb2.size
  have k10 := (hb2.cell (p := ⟨w.heap.size, 0, none⟩) (by show w.heap.size < w1.heap.size; omega)).trans q10
  have k11 := (hb2.cell (p := ⟨w.heap.size, 1, none⟩) (by show w.heap.size < w1.heap.size; omega)).trans q11
  have k20 := (hb2.cell (p := ⟨w.heap.size + 1, 0, none⟩) (by show w.heap.size + 1 < w1.heap.size; omega)).trans q20
  have k21 := (hb2.cell (p := ⟨w.heap.size + 1, 1, none⟩) (by show w.heap.size + 1 < w1.heap.size; omega)).trans q21
  have k30 := (hb2.cell (p := ⟨w.heap.size + 2, 0, none⟩) (by show w.heap.size + 2 < w1.heap.size; omega)).trans q30
  have k31 := (hb2.cell (p := ⟨w.heap.size + 2, 1, none⟩) (by show w.heap.size + 2 < w1.heap.size; omega)).trans q31
  have fx0 := (hb2.frozen (p := ⟨w.heap.size + 2, 0, none⟩) (by show w.heap.size + 2 < w1.heap.size; omega)).trans fy0
  have fx1 := (hb2.frozen (p := ⟨w.heap.size + 2, 1, none⟩) (by show w.heap.size + 2 < w1.heap.size; omega)).trans fy1
  have HB2 := hide (below_step (unhide HB) hb2)
  have lb1 : w.heap.size < w2.heap.size := by omega
  have lb2 : w.heap.size + 1 < w2.heap.size := by omega
  have lb3 : w.heap.size + 2 < w2.heap.size := by omega
  clear hb2 q10 q11 q20 q21 q30 q31 fy0 fy1 hwC
  go_upto_region 7 with fail
  refine frame_intro (fun a => G a 0 = .int .u8 43 ∧ G a 4 = .pointer (some ⟨w.heap.size, 0, none⟩) ∧ G a 5 = .pointer (some ⟨w.heap.size + 1, 0, none⟩) ∧ G a 6 = .pointer (some ⟨w.heap.size + 2, 0, none⟩) ∧ a.tmps.size = 61 ∧ a.defers = []) ⟨rfl, rfl, rfl, rfl, rfl, rfl⟩ ?_
  rintro f0 ⟨s0, s4, s5, s6, hsz, hdf⟩
  refine region_any (I := RP w2 f0 61 [25, 26, 27, 28, 29, 10, 11, 12] 99 (fun _ => True) [.lit (.agg #[.int .i64 c1, .int .i64 x1]), .ptr 1 (pR (c1 * (10 : Int) ^ x1.toNat) ((10 : Int) ^ (-x1).toNat)), .lit (.agg #[.int .i64 c2, .int .i64 x2]), .ptr 3 (pR (c2 * (10 : Int) ^ x2.toNat) ((10 : Int) ^ (-x2).toNat)), .new 4 2, .ptr 1 (pR (c1 * (10 : Int) ^ x1.toNat) ((10 : Int) ^ (-x1).toNat)), .ptr 3 (pR (c2 * (10 : Int) ^ x2.toNat) ((10 : Int) ^ (-x2).toNat)), .new 4 2]) (by kernel_rfl) ?wait ?step ?done ?start
  case wait => exact ⟨(by simp <;> rfl), (by simp <;> rfl), (by simp <;> rfl), (by simp <;> rfl), (by simp <;> rfl), (by simp <;> rfl), (by simp <;> rfl), (by simp <;> rfl), trivial⟩
  case start => exact RP.start hsz hdf ((Below.refl _ _).drew)
  case step =>
    refine ⟨?_, ?_, ?_, ?_, ?_, ?_, ?_, ?_, trivial⟩
    · rintro L fa wx h hcl hL hw2
      exact rp_val h (by decide) rfl rfl rfl (by decide) (by decide) rfl (run_ldD (eval_G ((h.keep (s := 4) (by decide)).trans s4)) (((h.old (h.nogi (by decide))).cell (p := ⟨w.heap.size, 0, none⟩) lb1).trans k10) (((h.old (h.nogi (by decide))).cell (p := ⟨w.heap.size, 1, none⟩) lb1).trans k11)) rfl
    · rintro L fa wx h hcl hL hw2
      exact rp_make h (by decide) rfl rfl rfl (by decide) (by decide) (h.nogi (by decide)) rfl (run_call1 (eval_G (show G fa 25 = .agg #[.int .i64 c1, .int .i64 x1] from h.lit (hw2 ⟨0, .data⟩ (by simp) rfl) rfl rfl)) callRatd) (ratd_make c1 x1 (by omega) (by omega) (by omega) (by omega) wx) rfl
    · rintro L fa wx h hcl hL hw2
      exact rp_val h (by decide) rfl rfl rfl (by decide) (by decide) rfl (run_ldD (eval_G ((h.keep (s := 5) (by decide)).trans s5)) (((h.old (h.nogi (by decide))).cell (p := ⟨w.heap.size + 1, 0, none⟩) lb2).trans k20) (((h.old (h.nogi (by decide))).cell (p := ⟨w.heap.size + 1, 1, none⟩) lb2).trans k21)) rfl
    · rintro L fa wx h hcl hL hw2
      exact rp_make h (by decide) rfl rfl rfl (by decide) (by decide) (h.nogi (by decide)) rfl (run_call1 (eval_G (show G fa 27 = .agg #[.int .i64 c2, .int .i64 x2] from h.lit (hw2 ⟨2, .data⟩ (by simp) rfl) rfl rfl)) callRatd) (ratd_make c2 x2 (by omega) (by omega) (by omega) (by omega) wx) rfl
    · rintro L fa wx h hcl hL hw2
      exact rp_new h (by decide) rfl rfl rfl (by decide) (by decide) (h.nogi (by decide)) rfl run_newR ZA.newR rfl
    · rintro L fa wx h hcl hL hw2
      exact rp_copy h (by decide) rfl rfl rfl (by decide) (by decide) (h.nogi (by decide)) rfl (hw2 ⟨1, .data⟩ (by simp) rfl) rfl (run_asg rfl) rfl
    · rintro L fa wx h hcl hL hw2
      exact rp_copy h (by decide) rfl rfl rfl (by decide) (by decide) (h.nogi (by decide)) rfl (hw2 ⟨3, .data⟩ (by simp) rfl) rfl (run_asg rfl) rfl
    · rintro L fa wx h hcl hL hw2
      exact rp_copy h (by decide) rfl rfl rfl (by decide) (by decide) (h.nogi (by decide)) rfl (hw2 ⟨4, .data⟩ (by simp) rfl) rfl (run_asg rfl) rfl
  case done =>
    rintro L f1 w3 h hall
    have hno : L 99 = false := h.nogi (by decide)
    obtain ⟨b10, o10, q10, i10⟩ := h.ptr (i := 5) hno (hall 5 (by simp)) rfl rfl
    obtain ⟨rfl, r10⟩ : o10 = 0 ∧ RV w3 b10 (c1 * (10 : Int) ^ x1.toNat) ((10 : Int) ^ (-x1).toNat) := i10
    obtain ⟨b11, o11, q11, i11⟩ := h.ptr (i := 6) hno (hall 6 (by simp)) rfl rfl
    obtain ⟨rfl, r11⟩ : o11 = 0 ∧ RV w3 b11 (c2 * (10 : Int) ^ x2.toNat) ((10 : Int) ^ (-x2).toNat) := i11
    obtain ⟨b12, q12, z12, l12⟩ := h.new (i := 7) hno (hall 7 (by simp)) rfl rfl
    have q0 := (h.keep (s := 0) (by decide)).trans s0
    have q5 := (h.keep (s := 5) (by decide)).trans s5
    have q6 := (h.keep (s := 6) (by decide)).trans s6
    have HO := hide (h.old hno)
    have s3 := (unhide HO).size
    rw [fr61 h.size h.defs, q0, q5, q6, q10, q11, q12]
    clear h hall q0 q5 q6 q10 q11 q12 hno
    have OP := hide (radd_any b12 b10 b11 (c1 * (10 : Int) ^ x1.toNat) ((10 : Int) ^ (-x1).toNat) (c2 * (10 : Int) ^ x2.toNat) ((10 : Int) ^ (-x2).toNat) w3 z12 r10 r11 (pow_ne _) (pow_ne _) (by omega) (by omega) (by omega) (by omega))
    have HZ := hide z12
    clear r10 r11 z12
    have m20 := ((unhide HO).cell (p := ⟨w.heap.size + 1, 0, none⟩) (by show w.heap.size + 1 < w2.heap.size; omega)).trans k20
    have m21 := ((unhide HO).cell (p := ⟨w.heap.size + 1, 1, none⟩) (by show w.heap.size + 1 < w2.heap.size; omega)).trans k21
    have m30 := ((unhide HO).cell (p := ⟨w.heap.size + 2, 0, none⟩) (by show w.heap.size + 2 < w2.heap.size; omega)).trans k30
    have m31 := ((unhide HO).cell (p := ⟨w.heap.size + 2, 1, none⟩) (by show w.heap.size + 2 < w2.heap.size; omega)).trans k31
    have fw0 := ((unhide HO).frozen (p := ⟨w.heap.size + 2, 0, none⟩) (by show w.heap.size + 2 < w2.heap.size; omega)).trans fx0
    have fw1 := ((unhide HO).frozen (p := ⟨w.heap.size + 2, 1, none⟩) (by show w.heap.size + 2 < w2.heap.size; omega)).trans fx1
    clear k10 k11 k20 k21 k30 k31 fx0 fx1
    go_wp2_with fail
    refine (unhide OP).mono ?_
    rintro e w4 ⟨rfl, r4, k4⟩
    have r5 : RV w4 b12 ((c1 * (10 : Int) ^ x1.toNat) * ((10 : Int) ^ (-x2).toNat) + ((c2 * (10 : Int) ^ x2.toNat) * ((10 : Int) ^ (-x1).toNat))) (((10 : Int) ^ (-x1).toNat) * ((10 : Int) ^ (-x2).toNat)) := r4
    have B4 : Below w2.heap.size w3 w4 := k4.below l12 (unhide HO).size
    have s4' := B4.size
    obtain ⟨t1, t2, t3, ht⟩ : ∃ t1 t2 t3, fitT ((c1 * (10 : Int) ^ x1.toNat) * ((10 : Int) ^ (-x2).toNat) + ((c2 * (10 : Int) ^ x2.toNat) * ((10 : Int) ^ (-x1).toNat))) (((10 : Int) ^ (-x1).toNat) * ((10 : Int) ^ (-x2).toNat)) = (t1, t2, t3) := ⟨_, _, _, rfl⟩
    have FT : Hid (Calls Try.prog 36 #[.pointer (some ⟨b12, 0, none⟩)] w4 fun e w' => e = .returned (.tuple #[.agg #[.int .i64 t1, .int .i64 t2], .int .i64 t3]) ∧ Below w4.heap.size w4 w') := hide ((fit_any b12 ((c1 * (10 : Int) ^ x1.toNat) * ((10 : Int) ^ (-x2).toNat) + ((c2 * (10 : Int) ^ x2.toNat) * ((10 : Int) ^ (-x1).toNat))) (((10 : Int) ^ (-x1).toNat) * ((10 : Int) ^ (-x2).toNat)) w4 r5 (unhide HD) (by omega) (by omega)).mono (by
      rintro e w' ⟨rfl, h⟩
      exact ⟨by rw [ht]; rfl, h⟩))
    have HT := hide ht
    have n30 := (B4.cell (p := ⟨w.heap.size + 2, 0, none⟩) (by show w.heap.size + 2 < w2.heap.size; omega)).trans m30
    have n31 := (B4.cell (p := ⟨w.heap.size + 2, 1, none⟩) (by show w.heap.size + 2 < w2.heap.size; omega)).trans m31
    have fv0 := (B4.frozen (p := ⟨w.heap.size + 2, 0, none⟩) (by show w.heap.size + 2 < w2.heap.size; omega)).trans fw0
    have fv1 := (B4.frozen (p := ⟨w.heap.size + 2, 1, none⟩) (by show w.heap.size + 2 < w2.heap.size; omega)).trans fw1
    have HB4 := hide ((below_step (unhide HB2) (unhide HO)).trans (B4.mono (by have := (unhide HB2).size; omega)))
    clear r4 r5 k4 B4 OP m20 m21 m30 m31 fw0 fw1 ht
    go_wp2_with fail
    refine (unhide FT).mono ?_
    rintro e w5 ⟨rfl, hb5⟩
    have o30 := (hb5.cell (p := ⟨w.heap.size + 2, 0, none⟩) (by show w.heap.size + 2 < w4.heap.size; omega)).trans n30
    have o31 := (hb5.cell (p := ⟨w.heap.size + 2, 1, none⟩) (by show w.heap.size + 2 < w4.heap.size; omega)).trans n31
    have fu0 := (hb5.frozen (p := ⟨w.heap.size + 2, 0, none⟩) (by show w.heap.size + 2 < w4.heap.size; omega)).trans fv0
    have fu1 := (hb5.frozen (p := ⟨w.heap.size + 2, 1, none⟩) (by show w.heap.size + 2 < w4.heap.size; omega)).trans fv1
    have HB5 := hide (below_step (unhide HB4) hb5)
    clear hb5 n30 n31 fv0 fv1
    go_wp2
    refine bodyPost_ret (v := .tuple #[.agg #[.int .i64 t1, .int .i64 t2], .int .i64 t3]) (by simp [results, Try.results7, go_sem, o30, o31]) rfl ?_
    rw [unhide HT]
    exact ⟨rfl, ((unhide HB5).setCell (by simp only; omega) _).setCell (by simp only; omega) _⟩

set_option maxRecDepth 100000 in
set_option maxHeartbeats 4000000 in
theorem do_sub (c1 x1 c2 x2 : Int) (w : World) (h1 : Dm.wrongN c1 x1 = 0) (h2 : Dm.wrongN c2 x2 = 0) (a1 : -1000000000000000000 < c1) (a2 : c1 < 1000000000000000000) (a3 : -40 ≤ x1) (a4 : x1 ≤ 40) (b1 : -1000000000000000000 < c2) (b2 : c2 < 1000000000000000000) (b3 : -40 ≤ x2) (b4 : x2 ≤ 40) :
    Calls Try.prog 7 #[.int .u8 45, .agg #[.int .i64 c1, .int .i64 x1], .agg #[.int .i64 c2, .int .i64 x2]] w fun e w' => e = toldT (fitT ((c1 * (10 : Int) ^ x1.toNat) * ((10 : Int) ^ (-x2).toNat) + -((c2 * (10 : Int) ^ x2.toNat) * ((10 : Int) ^ (-x1).toNat))) (((10 : Int) ^ (-x1).toNat) * ((10 : Int) ^ (-x2).toNat))) ∧ Below w.heap.size w w' := by
  obtain ⟨wC, hwC⟩ : ∃ wC, wC = (((w.alloc (.cells #[.int .i64 c1, .int .i64 x1] 23)).alloc (.cells #[.int .i64 c2, .int .i64 x2] 23)).alloc (.cells #[.int .i64 0, .int .i64 0] 23)) := ⟨_, rfl⟩
  have NC : Below w.heap.size w wC := by rw [hwC]; exact below_step (below_step (below_new _ _) (below_new _ _)) (below_new _ _)
  have sC : wC.heap.size = w.heap.size + 3 := by rw [hwC]; simp
  have p10 : wC.cell? ⟨w.heap.size, 0, none⟩ = some (.int .i64 c1) := by rw [hwC]; simp [go_sem]
  have p11 : wC.cell? ⟨w.heap.size, 1, none⟩ = some (.int .i64 x1) := by rw [hwC]; simp [go_sem]
  have p20 : wC.cell? ⟨w.heap.size + 1, 0, none⟩ = some (.int .i64 c2) := by rw [hwC]; simp [go_sem]
  have p21 : wC.cell? ⟨w.heap.size + 1, 1, none⟩ = some (.int .i64 x2) := by rw [hwC]; simp [go_sem]
  have p30 : wC.cell? ⟨w.heap.size + 2, 0, none⟩ = some (.int .i64 0) := by rw [hwC]; simp [go_sem]
  have p31 : wC.cell? ⟨w.heap.size + 2, 1, none⟩ = some (.int .i64 0) := by rw [hwC]; simp [go_sem]
  have fz0 : wC.frozen? ⟨w.heap.size + 2, 0, none⟩ = false := by rw [hwC]; simp [go_sem]
  have fz1 : wC.frozen? ⟨w.heap.size + 2, 1, none⟩ = false := by rw [hwC]; simp [go_sem]
  have W1 := hide (rwrong_any c1 x1 (((w.alloc (.cells #[.int .i64 c1, .int .i64 x1] 23)).alloc (.cells #[.int .i64 c2, .int .i64 x2] 23)).alloc (.cells #[.int .i64 0, .int .i64 0] 23)))
  have lc1 : Ln c1 ≤ 2 := Ln_small (by omega)
  have lc2 : Ln c2 ≤ 2 := Ln_small (by omega)
  have t1 := Ln_ten x1.toNat
  have t2 := Ln_ten x2.toNat
  have t3 := Ln_ten (-x1).toNat
  have t4 := Ln_ten (-x2).toNat
  have t5 := Ln_mul c1 ((10 : Int) ^ x1.toNat)
  have t6 := Ln_mul c2 ((10 : Int) ^ x2.toNat)
  have u1 := Ln_mul (c1 * (10 : Int) ^ x1.toNat) ((10 : Int) ^ (-x2).toNat)
  have u2 := Ln_mul (c2 * (10 : Int) ^ x2.toNat) ((10 : Int) ^ (-x1).toNat)
  have u3 := Ln_add ((c1 * (10 : Int) ^ x1.toNat) * ((10 : Int) ^ (-x2).toNat)) (-((c2 * (10 : Int) ^ x2.toNat) * ((10 : Int) ^ (-x1).toNat)))
  have u4 := Ln_neg ((c2 * (10 : Int) ^ x2.toNat) * ((10 : Int) ^ (-x1).toNat))
  have u5 := Ln_mul ((10 : Int) ^ (-x1).toNat) ((10 : Int) ^ (-x2).toNat)
  have HD : Hid (0 < ((10 : Int) ^ (-x1).toNat) * ((10 : Int) ^ (-x2).toNat)) := hide (Int.mul_pos (Int.pow_pos (by decide)) (Int.pow_pos (by decide)))
  have g1 : (Dm.wrongN c1 x1 != 0) = false := by rw [h1]; rfl
  have g2 : (Dm.wrongN c2 x2 != 0) = false := by rw [h2]; rfl
  clear h1 h2
  go_enter Try.func7, Try.ntmps7
  go_wp2_with fail
  refine (unhide W1).mono ?_
  rw [← hwC]
  rintro e w1 ⟨rfl, hb1⟩
  have s1 := hb1.size
  have q10 := (hb1.cell (p := ⟨w.heap.size, 0, none⟩) (by show w.heap.size < wC.heap.size; omega)).trans p10
  have q11 := (hb1.cell (p := ⟨w.heap.size, 1, none⟩) (by show w.heap.size < wC.heap.size; omega)).trans p11
  have q20 := (hb1.cell (p := ⟨w.heap.size + 1, 0, none⟩) (by show w.heap.size + 1 < wC.heap.size; omega)).trans p20
  have q21 := (hb1.cell (p := ⟨w.heap.size + 1, 1, none⟩) (by show w.heap.size + 1 < wC.heap.size; omega)).trans p21
  have q30 := (hb1.cell (p := ⟨w.heap.size + 2, 0, none⟩) (by show w.heap.size + 2 < wC.heap.size; omega)).trans p30
  have q31 := (hb1.cell (p := ⟨w.heap.size + 2, 1, none⟩) (by show w.heap.size + 2 < wC.heap.size; omega)).trans p31
  have fy0 := (hb1.frozen (p := ⟨w.heap.size + 2, 0, none⟩) (by show w.heap.size + 2 < wC.heap.size; omega)).trans fz0
  have fy1 := (hb1.frozen (p := ⟨w.heap.size + 2, 1, none⟩) (by show w.heap.size + 2 < wC.heap.size; omega)).trans fz1
  have W2 := hide (rwrong_any c2 x2 w1)
  have HB := hide (below_step NC hb1)
  clear hb1 p10 p11 p20 p21 p30 p31 fz0 fz1
  go_wp2_with fail
  refine (unhide W2).mono ?_
  rintro e w2 ⟨rfl, hb2⟩
  have s2 := hb2.size
  have k10 := (hb2.cell (p := ⟨w.heap.size, 0, none⟩) (by show w.heap.size < w1.heap.size; omega)).trans q10
  have k11 := (hb2.cell (p := ⟨w.heap.size, 1, none⟩) (by show w.heap.size < w1.heap.size; omega)).trans q11
  have k20 := (hb2.cell (p := ⟨w.heap.size + 1, 0, none⟩) (by show w.heap.size + 1 < w1.heap.size; omega)).trans q20
  have k21 := (hb2.cell (p := ⟨w.heap.size + 1, 1, none⟩) (by show w.heap.size + 1 < w1.heap.size; omega)).trans q21
  have k30 := (hb2.cell (p := ⟨w.heap.size + 2, 0, none⟩) (by show w.heap.size + 2 < w1.heap.size; omega)).trans q30
  have k31 := (hb2.cell (p := ⟨w.heap.size + 2, 1, none⟩) (by show w.heap.size + 2 < w1.heap.size; omega)).trans q31
  have fx0 := (hb2.frozen (p := ⟨w.heap.size + 2, 0, none⟩) (by show w.heap.size + 2 < w1.heap.size; omega)).trans fy0
  have fx1 := (hb2.frozen (p := ⟨w.heap.size + 2, 1, none⟩) (by show w.heap.size + 2 < w1.heap.size; omega)).trans fy1
  have HB2 := hide (below_step (unhide HB) hb2)
  have lb1 : w.heap.size < w2.heap.size := by omega
  have lb2 : w.heap.size + 1 < w2.heap.size := by omega
  have lb3 : w.heap.size + 2 < w2.heap.size := by omega
  clear hb2 q10 q11 q20 q21 q30 q31 fy0 fy1 hwC
  go_upto_region 7 with fail
  refine frame_intro (fun a => G a 0 = .int .u8 45 ∧ G a 4 = .pointer (some ⟨w.heap.size, 0, none⟩) ∧ G a 5 = .pointer (some ⟨w.heap.size + 1, 0, none⟩) ∧ G a 6 = .pointer (some ⟨w.heap.size + 2, 0, none⟩) ∧ a.tmps.size = 61 ∧ a.defers = []) ⟨rfl, rfl, rfl, rfl, rfl, rfl⟩ ?_
  rintro f0 ⟨s0, s4, s5, s6, hsz, hdf⟩
  refine region_any (I := RP w2 f0 61 [25, 26, 27, 28, 29, 10, 11, 12] 99 (fun _ => True) [.lit (.agg #[.int .i64 c1, .int .i64 x1]), .ptr 1 (pR (c1 * (10 : Int) ^ x1.toNat) ((10 : Int) ^ (-x1).toNat)), .lit (.agg #[.int .i64 c2, .int .i64 x2]), .ptr 3 (pR (c2 * (10 : Int) ^ x2.toNat) ((10 : Int) ^ (-x2).toNat)), .new 4 2, .ptr 1 (pR (c1 * (10 : Int) ^ x1.toNat) ((10 : Int) ^ (-x1).toNat)), .ptr 3 (pR (c2 * (10 : Int) ^ x2.toNat) ((10 : Int) ^ (-x2).toNat)), .new 4 2]) (by kernel_rfl) ?wait ?step ?done ?start
  case wait => exact ⟨(by simp <;> rfl), (by simp <;> rfl), (by simp <;> rfl), (by simp <;> rfl), (by simp <;> rfl), (by simp <;> rfl), (by simp <;> rfl), (by simp <;> rfl), trivial⟩
  case start => exact RP.start hsz hdf ((Below.refl _ _).drew)
  case step =>
    refine ⟨?_, ?_, ?_, ?_, ?_, ?_, ?_, ?_, trivial⟩
    · rintro L fa wx h hcl hL hw2
      exact rp_val h (by decide) rfl rfl rfl (by decide) (by decide) rfl (run_ldD (eval_G ((h.keep (s := 4) (by decide)).trans s4)) (((h.old (h.nogi (by decide))).cell (p := ⟨w.heap.size, 0, none⟩) lb1).trans k10) (((h.old (h.nogi (by decide))).cell (p := ⟨w.heap.size, 1, none⟩) lb1).trans k11)) rfl
    · rintro L fa wx h hcl hL hw2
      exact rp_make h (by decide) rfl rfl rfl (by decide) (by decide) (h.nogi (by decide)) rfl (run_call1 (eval_G (show G fa 25 = .agg #[.int .i64 c1, .int .i64 x1] from h.lit (hw2 ⟨0, .data⟩ (by simp) rfl) rfl rfl)) callRatd) (ratd_make c1 x1 (by omega) (by omega) (by omega) (by omega) wx) rfl
    · rintro L fa wx h hcl hL hw2
      exact rp_val h (by decide) rfl rfl rfl (by decide) (by decide) rfl (run_ldD (eval_G ((h.keep (s := 5) (by decide)).trans s5)) (((h.old (h.nogi (by decide))).cell (p := ⟨w.heap.size + 1, 0, none⟩) lb2).trans k20) (((h.old (h.nogi (by decide))).cell (p := ⟨w.heap.size + 1, 1, none⟩) lb2).trans k21)) rfl
    · rintro L fa wx h hcl hL hw2
      exact rp_make h (by decide) rfl rfl rfl (by decide) (by decide) (h.nogi (by decide)) rfl (run_call1 (eval_G (show G fa 27 = .agg #[.int .i64 c2, .int .i64 x2] from h.lit (hw2 ⟨2, .data⟩ (by simp) rfl) rfl rfl)) callRatd) (ratd_make c2 x2 (by omega) (by omega) (by omega) (by omega) wx) rfl
    · rintro L fa wx h hcl hL hw2
      exact rp_new h (by decide) rfl rfl rfl (by decide) (by decide) (h.nogi (by decide)) rfl run_newR ZA.newR rfl
    · rintro L fa wx h hcl hL hw2
      exact rp_copy h (by decide) rfl rfl rfl (by decide) (by decide) (h.nogi (by decide)) rfl (hw2 ⟨1, .data⟩ (by simp) rfl) rfl (run_asg rfl) rfl
    · rintro L fa wx h hcl hL hw2
      exact rp_copy h (by decide) rfl rfl rfl (by decide) (by decide) (h.nogi (by decide)) rfl (hw2 ⟨3, .data⟩ (by simp) rfl) rfl (run_asg rfl) rfl
    · rintro L fa wx h hcl hL hw2
      exact rp_copy h (by decide) rfl rfl rfl (by decide) (by decide) (h.nogi (by decide)) rfl (hw2 ⟨4, .data⟩ (by simp) rfl) rfl (run_asg rfl) rfl
  case done =>
    rintro L f1 w3 h hall
    have hno : L 99 = false := h.nogi (by decide)
    obtain ⟨b10, o10, q10, i10⟩ := h.ptr (i := 5) hno (hall 5 (by simp)) rfl rfl
    obtain ⟨rfl, r10⟩ : o10 = 0 ∧ RV w3 b10 (c1 * (10 : Int) ^ x1.toNat) ((10 : Int) ^ (-x1).toNat) := i10
    obtain ⟨b11, o11, q11, i11⟩ := h.ptr (i := 6) hno (hall 6 (by simp)) rfl rfl
    obtain ⟨rfl, r11⟩ : o11 = 0 ∧ RV w3 b11 (c2 * (10 : Int) ^ x2.toNat) ((10 : Int) ^ (-x2).toNat) := i11
    obtain ⟨b12, q12, z12, l12⟩ := h.new (i := 7) hno (hall 7 (by simp)) rfl rfl
    have q0 := (h.keep (s := 0) (by decide)).trans s0
    have q5 := (h.keep (s := 5) (by decide)).trans s5
    have q6 := (h.keep (s := 6) (by decide)).trans s6
    have HO := hide (h.old hno)
    have s3 := (unhide HO).size
    rw [fr61 h.size h.defs, q0, q5, q6, q10, q11, q12]
    clear h hall q0 q5 q6 q10 q11 q12 hno
    have OP := hide (rsub_any b12 b10 b11 (c1 * (10 : Int) ^ x1.toNat) ((10 : Int) ^ (-x1).toNat) (c2 * (10 : Int) ^ x2.toNat) ((10 : Int) ^ (-x2).toNat) w3 z12 r10 r11 (pow_ne _) (pow_ne _) (by omega) (by omega) (by omega) (by omega))
    have HZ := hide z12
    clear r10 r11 z12
    have m20 := ((unhide HO).cell (p := ⟨w.heap.size + 1, 0, none⟩) (by show w.heap.size + 1 < w2.heap.size; omega)).trans k20
    have m21 := ((unhide HO).cell (p := ⟨w.heap.size + 1, 1, none⟩) (by show w.heap.size + 1 < w2.heap.size; omega)).trans k21
    have m30 := ((unhide HO).cell (p := ⟨w.heap.size + 2, 0, none⟩) (by show w.heap.size + 2 < w2.heap.size; omega)).trans k30
    have m31 := ((unhide HO).cell (p := ⟨w.heap.size + 2, 1, none⟩) (by show w.heap.size + 2 < w2.heap.size; omega)).trans k31
    have fw0 := ((unhide HO).frozen (p := ⟨w.heap.size + 2, 0, none⟩) (by show w.heap.size + 2 < w2.heap.size; omega)).trans fx0
    have fw1 := ((unhide HO).frozen (p := ⟨w.heap.size + 2, 1, none⟩) (by show w.heap.size + 2 < w2.heap.size; omega)).trans fx1
    clear k10 k11 k20 k21 k30 k31 fx0 fx1
    go_wp2_with fail
    refine (unhide OP).mono ?_
    rintro e w4 ⟨rfl, r4, k4⟩
    have r5 : RV w4 b12 ((c1 * (10 : Int) ^ x1.toNat) * ((10 : Int) ^ (-x2).toNat) + -((c2 * (10 : Int) ^ x2.toNat) * ((10 : Int) ^ (-x1).toNat))) (((10 : Int) ^ (-x1).toNat) * ((10 : Int) ^ (-x2).toNat)) := r4
    have B4 : Below w2.heap.size w3 w4 := k4.below l12 (unhide HO).size
    have s4' := B4.size
    obtain ⟨t1, t2, t3, ht⟩ : ∃ t1 t2 t3, fitT ((c1 * (10 : Int) ^ x1.toNat) * ((10 : Int) ^ (-x2).toNat) + -((c2 * (10 : Int) ^ x2.toNat) * ((10 : Int) ^ (-x1).toNat))) (((10 : Int) ^ (-x1).toNat) * ((10 : Int) ^ (-x2).toNat)) = (t1, t2, t3) := ⟨_, _, _, rfl⟩
    have FT : Hid (Calls Try.prog 36 #[.pointer (some ⟨b12, 0, none⟩)] w4 fun e w' => e = .returned (.tuple #[.agg #[.int .i64 t1, .int .i64 t2], .int .i64 t3]) ∧ Below w4.heap.size w4 w') := hide ((fit_any b12 ((c1 * (10 : Int) ^ x1.toNat) * ((10 : Int) ^ (-x2).toNat) + -((c2 * (10 : Int) ^ x2.toNat) * ((10 : Int) ^ (-x1).toNat))) (((10 : Int) ^ (-x1).toNat) * ((10 : Int) ^ (-x2).toNat)) w4 r5 (unhide HD) (by omega) (by omega)).mono (by
      rintro e w' ⟨rfl, h⟩
      exact ⟨by rw [ht]; rfl, h⟩))
    have HT := hide ht
    have n30 := (B4.cell (p := ⟨w.heap.size + 2, 0, none⟩) (by show w.heap.size + 2 < w2.heap.size; omega)).trans m30
    have n31 := (B4.cell (p := ⟨w.heap.size + 2, 1, none⟩) (by show w.heap.size + 2 < w2.heap.size; omega)).trans m31
    have fv0 := (B4.frozen (p := ⟨w.heap.size + 2, 0, none⟩) (by show w.heap.size + 2 < w2.heap.size; omega)).trans fw0
    have fv1 := (B4.frozen (p := ⟨w.heap.size + 2, 1, none⟩) (by show w.heap.size + 2 < w2.heap.size; omega)).trans fw1
    have HB4 := hide ((below_step (unhide HB2) (unhide HO)).trans (B4.mono (by have := (unhide HB2).size; omega)))
    clear r4 r5 k4 B4 OP m20 m21 m30 m31 fw0 fw1 ht
    go_wp2_with fail
    refine (unhide FT).mono ?_
    rintro e w5 ⟨rfl, hb5⟩
    have o30 := (hb5.cell (p := ⟨w.heap.size + 2, 0, none⟩) (by show w.heap.size + 2 < w4.heap.size; omega)).trans n30
    have o31 := (hb5.cell (p := ⟨w.heap.size + 2, 1, none⟩) (by show w.heap.size + 2 < w4.heap.size; omega)).trans n31
    have fu0 := (hb5.frozen (p := ⟨w.heap.size + 2, 0, none⟩) (by show w.heap.size + 2 < w4.heap.size; omega)).trans fv0
    have fu1 := (hb5.frozen (p := ⟨w.heap.size + 2, 1, none⟩) (by show w.heap.size + 2 < w4.heap.size; omega)).trans fv1
    have HB5 := hide (below_step (unhide HB4) hb5)
    clear hb5 n30 n31 fv0 fv1
    go_wp2
    refine bodyPost_ret (v := .tuple #[.agg #[.int .i64 t1, .int .i64 t2], .int .i64 t3]) (by simp [results, Try.results7, go_sem, o30, o31]) rfl ?_
    rw [unhide HT]
    exact ⟨rfl, ((unhide HB5).setCell (by simp only; omega) _).setCell (by simp only; omega) _⟩

end Go.Proofs.Ytibkemolmpcdcaa
