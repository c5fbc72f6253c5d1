/- Walks: ratios: Set, Mul, Quo, Add, Sub (written by gen_bz5.py). -/
import Derived.Test.YtbdgngfpofohpaaDoorG13
namespace Go.Proofs.YtbdgngfpofohpaaDoor
open Go.RowKit

theorem callIMul (zs : Array Value) (w : World) : Sem.run Tryd.prog (callFunc 63 zs) w = .ok (.enter 63 zs) w := by simp [go_sem]

theorem callDen (zs : Array Value) (w : World) : Sem.run Tryd.prog (callFunc 61 zs) w = .ok (.enter 61 zs) w := by simp [go_sem]

theorem callFrac (zs : Array Value) (w : World) : Sem.run Tryd.prog (callFunc 56 zs) w = .ok (.enter 56 zs) w := by simp [go_sem]

theorem mul_put {b bx ox b2 oy : Nat} {x y : Int} {w : World} (hz : ZA w b 0) (hx : IA w bx ox x) (hy : IA w b2 oy y) (lx : Ln x ≤ 90000) (ly : Ln y ≤ 90000) :
    Calls Tryd.prog 63 #[.pointer (some ⟨b, 0, none⟩), .pointer (some ⟨bx, ox, none⟩), .pointer (some ⟨b2, oy, none⟩)] w fun e w' => e = .returned (.pointer (some ⟨b, 0, none⟩)) ∧ (pI (x * y)).is w' b 0 ∧ Blk b w w' :=
  (imul_any b 0 bx ox b2 oy x y w hz hx hy (by unfold Ln at lx; omega) (by unfold Ln at ly; omega)).mono fun _ _ q => ⟨q.1, q.2.1, q.2.2.blk⟩

/-- den, wherever the region has come -/
theorem den_make {p : Nat} {n d : Int} {w : World} (h : RQ w p n d) : ∀ wx, Below w.heap.size w wx → Calls Tryd.prog 61 #[.pointer (some ⟨p, 0, none⟩)] wx fun e w' => ∃ b o, e = .returned (.pointer (some ⟨b, o, none⟩)) ∧ (pI d).is w' b o ∧ (b < w.heap.size ∨ wx.heap.size ≤ b) ∧ Below wx.heap.size wx w' := fun wx hb => by
  refine (den_q p n d wx (h.below hb)).mono ?_
  rintro e w' ⟨b, o, rfl, hi, hc, hB⟩
  refine ⟨b, o, rfl, hi, ?_, hB⟩
  rcases hc with ⟨rfl, _⟩ | hc
  · exact .inl h.place.low
  · exact .inr hc
/-- a ratio is laid, wherever the region has come -/
theorem frac_last {p : Nat} {A B N D : Int} {w : World} (hz : ZA w p 2) (b0 : B ≠ 0) (la : Ln A ≤ 90000) (lb : Ln B ≤ 90000) (e : A * D = N * B) (l : B.natAbs ≤ D.natAbs) : ∀ wx b1 o1 b2 o2, Below w.heap.size w wx → IA wx b1 o1 A → IA wx b2 o2 B → Calls Tryd.prog 56 #[.pointer (some ⟨p, 0, none⟩), .pointer (some ⟨b1, o1, none⟩), .pointer (some ⟨b2, o2, none⟩)] wx fun e w' => e = .returned (.pointer (some ⟨p, 0, none⟩)) ∧ RV w' p N D ∧ Blk p w w' := fun wx b1 o1 b2 o2 hb h1 h2 => by
  refine (setFrac_any p b1 o1 b2 o2 A B wx (hz.below hb) h1 h2 b0 la lb).mono ?_
  rintro e' w' ⟨rfl, hr, hk⟩
  exact ⟨rfl, hr.via b0 e l, (Blk.of hb).trans hk⟩
theorem abs_mul_le {a b c d : Int} (h1 : a.natAbs ≤ c.natAbs) (h2 : b.natAbs ≤ d.natAbs) : (a * b).natAbs ≤ (c * d).natAbs := by
  rw [Int.natAbs_mul, Int.natAbs_mul]
  exact Nat.mul_le_mul h1 h2

theorem fr12 {a : Act} (hs : a.tmps.size = 12) (hd : a.defers = []) : a = { tmps := #[G a 0, G a 1, G a 2, G a 3, G a 4, G a 5, G a 6, G a 7, G a 8, G a 9, G a 10, G a 11], defers := [] } := frame_is hs hd

theorem fr23 {a : Act} (hs : a.tmps.size = 23) (hd : a.defers = []) : a = { tmps := #[G a 0, G a 1, G a 2, G a 3, G a 4, G a 5, G a 6, G a 7, G a 8, G a 9, G a 10, G a 11, G a 12, G a 13, G a 14, G a 15, G a 16, G a 17, G a 18, G a 19, G a 20, G a 21, G a 22], defers := [] } := frame_is hs hd

set_option maxRecDepth 100000 in
set_option maxHeartbeats 4000000 in
theorem rset_any (p px : Nat) (N1 D1 : Int) (w : World) (hz : ZA w p 2) (hx : RV w px N1 D1) (d1 : D1 ≠ 0) (lx : Ln N1 ≤ 20000) (kx : Ln D1 ≤ 20000) :
    Calls Tryd.prog 59 #[.pointer (some ⟨p, 0, none⟩), .pointer (some ⟨px, 0, none⟩)] w fun e w' => e = .returned (.pointer (some ⟨p, 0, none⟩)) ∧ RV w' p N1 D1 ∧ Blk p w w' := by
  obtain ⟨n1, m1, qx, e1, g1⟩ := hx
  have r1 := Ln_mono (ratio_le d1 e1 g1)
  have r3 := Ln_mono g1
  have p1 := qx.pos
  have DX := hide (den_make qx)
  have SF := hide (frac_last (A := n1) (B := m1) (N := N1) (D := D1) hz (by omega) (by omega) (by omega) e1 g1)
  have HX := hide qx
  clear qx hz e1
  go_enter Tryd.func59, Tryd.ntmps59
  go_upto_region 1 with fail
  refine frame_intro (fun a => G a 0 = .pointer (some ⟨p, 0, none⟩) ∧ G a 1 = .pointer (some ⟨px, 0, none⟩) ∧ a.tmps.size = 12 ∧ a.defers = []) ⟨rfl, rfl, rfl, rfl⟩ ?_
  rintro f0 ⟨s0, s1, hsz, hdf⟩
  refine region_any (I := RP w f0 12 [5, 6, 7, 8, 9, 10, 11, 4] 6 (fun w' => RV w' p N1 D1 ∧ Blk p w w') [.lit (.pointer (some ⟨p, 0, none⟩)), .lit (.pointer (some ⟨px, 0, none⟩)), .lit (.pointer (some ⟨px, 0, none⟩)), .lit (.pointer (some ⟨px, 0, none⟩)), .lit (.pointer (some ⟨px, 0, none⟩)), .ptr 5 (pI m1), .lit (.pointer (some ⟨p, 0, none⟩)), .lit (.pointer (some ⟨p, 0, none⟩))]) (by kernel_rfl) ?wait ?step ?done ?start
  case wait => exact ⟨by simp, by simp, by simp, by simp, by simp, by simp, by simp, by simp, trivial⟩
  case start => exact RP.start hsz hdf ((Below.refl _ _).drew)
  case step =>
    refine ⟨?_, ?_, ?_, ?_, ?_, ?_, ?_, ?_, trivial⟩
    · rintro L fa wx h hcl hL hw2
      exact rp_val h (by decide) rfl rfl rfl (by decide) (by decide) rfl (run_mv (eval_G ((h.keep (s := 0) (by decide)).trans s0))) rfl
    · rintro L fa wx h hcl hL hw2
      exact rp_val h (by decide) rfl rfl rfl (by decide) (by decide) rfl (run_mv (eval_G ((h.keep (s := 1) (by decide)).trans s1))) rfl
    · rintro L fa wx h hcl hL hw2
      exact rp_val h (by decide) rfl rfl rfl (by decide) (by decide) rfl (run_nil (eval_G (show G fa 6 = .pointer (some ⟨px, 0, none⟩) from h.lit (hw2 ⟨1, .data⟩ (by simp) rfl) rfl rfl))) rfl
    · rintro L fa wx h hcl hL hw2
      exact rp_val h (by decide) rfl rfl rfl (by decide) (by decide) rfl (run_fldA (eval_G (show G fa 7 = .pointer (some ⟨px, 0, none⟩) from h.lit (hw2 ⟨2, .data⟩ (by simp) rfl) rfl rfl))) rfl
    · rintro L fa wx h hcl hL hw2
      exact rp_val h (by decide) rfl rfl rfl (by decide) (by decide) rfl (run_mv (eval_G ((h.keep (s := 1) (by decide)).trans s1))) rfl
    · rintro L fa wx h hcl hL hw2
      exact rp_make h (by decide) rfl rfl rfl (by decide) (by decide) (Bool.eq_false_iff.2 fun hq => by have hz := (hcl 6 _ rfl hq ⟨5, .data⟩ (by simp) rfl); rw [hL] at hz; cases hz) rfl (run_call1 (eval_G (show G fa 9 = .pointer (some ⟨px, 0, none⟩) from h.lit (hw2 ⟨4, .data⟩ (by simp) rfl) rfl rfl)) callDen) (unhide DX wx (h.old (Bool.eq_false_iff.2 fun hq => by have hz := (hcl 6 _ rfl hq ⟨5, .data⟩ (by simp) rfl); rw [hL] at hz; cases hz))) rfl
    · rintro L fa wx h hcl hL hw2
      obtain ⟨b2, o2, e2, mm2⟩ := h.ptr hL (hw2 ⟨5, .data⟩ (by simp) rfl) rfl rfl
      exact rp_last h (by decide) rfl rfl rfl (by decide) hL rfl (run_call3 (eval_G (show G fa 5 = .pointer (some ⟨p, 0, none⟩) from h.lit (hw2 ⟨0, .data⟩ (by simp) rfl) rfl rfl)) (eval_G (show G fa 8 = .pointer (some ⟨px, 0, none⟩) from h.lit (hw2 ⟨3, .data⟩ (by simp) rfl) rfl rfl)) (eval_G e2) callFrac) (unhide SF wx _ _ _ _ (h.old hL) ((unhide HX).num.below (h.old hL)) mm2) rfl
    · rintro L fa wx h hcl hL hw2
      exact rp_val h (by decide) rfl rfl rfl (by decide) (by decide) rfl (run_asg (eval_G (show G fa 11 = .pointer (some ⟨p, 0, none⟩) from h.lit (hw2 ⟨6, .data⟩ (by simp) rfl) rfl rfl))) rfl
  case done =>
    rintro L f1 w3 h hall
    have q6 : G f1 4 = .pointer (some ⟨p, 0, none⟩) := h.lit (i := 7) (hall 7 (by simp)) rfl rfl
    have HF := hide (h.fin (hall 6 (by simp)))
    rw [fr12 h.size h.defs, q6]
    clear h hall q6
    go_wp2
    go_ret
    exact ⟨rfl, unhide HF⟩

set_option maxRecDepth 100000 in
set_option maxHeartbeats 4000000 in
theorem rmul_any (p px py : Nat) (N1 D1 N2 D2 : Int) (w : World) (hz : ZA w p 2) (hx : RV w px N1 D1) (hy : RV w py N2 D2) (d1 : D1 ≠ 0) (d2 : D2 ≠ 0) (lx : Ln N1 ≤ 20000) (kx : Ln D1 ≤ 20000) (ly : Ln N2 ≤ 20000) (ky : Ln D2 ≤ 20000) :
    Calls Tryd.prog 58 #[.pointer (some ⟨p, 0, none⟩), .pointer (some ⟨px, 0, none⟩), .pointer (some ⟨py, 0, none⟩)] w fun e w' => e = .returned (.pointer (some ⟨p, 0, none⟩)) ∧ RV w' p (N1 * N2) (D1 * D2) ∧ Blk p w w' := by
  obtain ⟨n1, m1, qx, e1, g1⟩ := hx
  obtain ⟨n2, m2, qy, e2, g2⟩ := hy
  have r1 := Ln_mono (ratio_le d1 e1 g1)
  have r2 := Ln_mono (ratio_le d2 e2 g2)
  have r3 := Ln_mono g1
  have r4 := Ln_mono g2
  have p1 := qx.pos
  have p2 := qy.pos
  have DX := hide (den_make qx)
  have DY := hide (den_make qy)
  have t1 := Ln_mul n1 n2
  have t2 := Ln_mul m1 m2
  have SF := hide (frac_last (A := n1 * n2) (B := m1 * m2) (N := N1 * N2) (D := D1 * D2) hz (Int.mul_ne_zero (by omega) (by omega)) (by omega) (by omega) (by rw [show n1 * n2 * (D1 * D2) = (n1 * D1) * (n2 * D2) by grind, e1, e2]; grind) (abs_mul_le g1 g2))
  have HX := hide qx
  have HY := hide qy
  clear qx qy hz e1 e2 t1 t2
  go_enter Tryd.func58, Tryd.ntmps58
  go_upto_region 1 with fail
  refine frame_intro (fun a => G a 0 = .pointer (some ⟨p, 0, none⟩) ∧ G a 1 = .pointer (some ⟨px, 0, none⟩) ∧ G a 2 = .pointer (some ⟨py, 0, none⟩) ∧ a.tmps.size = 23 ∧ a.defers = []) ⟨rfl, rfl, rfl, rfl, rfl⟩ ?_
  rintro f0 ⟨s0, s1, s2, hsz, hdf⟩
  refine region_any (I := RP w f0 23 [7, 8, 9, 10, 11, 12, 13, 14, 15, 16, 17, 18, 19, 20, 21, 22, 6] 15 (fun w' => RV w' p (N1 * N2) (D1 * D2) ∧ Blk p w w') [.lit (.pointer (some ⟨p, 0, none⟩)), .new 1 0, .lit (.pointer (some ⟨px, 0, none⟩)), .lit (.pointer (some ⟨px, 0, none⟩)), .lit (.pointer (some ⟨px, 0, none⟩)), .lit (.pointer (some ⟨py, 0, none⟩)), .lit (.pointer (some ⟨py, 0, none⟩)), .lit (.pointer (some ⟨py, 0, none⟩)), .ptr 1 (pI (n1 * n2)), .new 9 0, .lit (.pointer (some ⟨px, 0, none⟩)), .ptr 11 (pI m1), .lit (.pointer (some ⟨py, 0, none⟩)), .ptr 13 (pI m2), .ptr 9 (pI (m1 * m2)), .lit (.pointer (some ⟨p, 0, none⟩)), .lit (.pointer (some ⟨p, 0, none⟩))]) (by kernel_rfl) ?wait ?step ?done ?start
  case wait => exact ⟨by simp, by simp, by simp, by simp, by simp, by simp, by simp, by simp, by simp, by simp, by simp, by simp, by simp, by simp, by simp, by simp, by simp, trivial⟩
  case start => exact RP.start hsz hdf ((Below.refl _ _).drew)
  case step =>
    refine ⟨?_, ?_, ?_, ?_, ?_, ?_, ?_, ?_, ?_, ?_, ?_, ?_, ?_, ?_, ?_, ?_, ?_, trivial⟩
    · rintro L fa wx h hcl hL hw2
      exact rp_val h (by decide) rfl rfl rfl (by decide) (by decide) rfl (run_mv (eval_G ((h.keep (s := 0) (by decide)).trans s0))) rfl
    · rintro L fa wx h hcl hL hw2
      exact rp_new h (by decide) rfl rfl rfl (by decide) (by decide) (Bool.eq_false_iff.2 fun hq => by have hz := (hcl 8 _ rfl (hcl 15 _ rfl hq ⟨8, .data⟩ (by simp) rfl) ⟨1, .data⟩ (by simp) rfl); rw [hL] at hz; cases hz) rfl run_newI ZA.new rfl
    · rintro L fa wx h hcl hL hw2
      exact rp_val h (by decide) rfl rfl rfl (by decide) (by decide) rfl (run_mv (eval_G ((h.keep (s := 1) (by decide)).trans s1))) rfl
    · rintro L fa wx h hcl hL hw2
      exact rp_val h (by decide) rfl rfl rfl (by decide) (by decide) rfl (run_nil (eval_G (show G fa 9 = .pointer (some ⟨px, 0, none⟩) from h.lit (hw2 ⟨2, .data⟩ (by simp) rfl) rfl rfl))) rfl
    · rintro L fa wx h hcl hL hw2
      exact rp_val h (by decide) rfl rfl rfl (by decide) (by decide) rfl (run_fldA (eval_G (show G fa 10 = .pointer (some ⟨px, 0, none⟩) from h.lit (hw2 ⟨3, .data⟩ (by simp) rfl) rfl rfl))) rfl
    · rintro L fa wx h hcl hL hw2
      exact rp_val h (by decide) rfl rfl rfl (by decide) (by decide) rfl (run_mv (eval_G ((h.keep (s := 2) (by decide)).trans s2))) rfl
    · rintro L fa wx h hcl hL hw2
      exact rp_val h (by decide) rfl rfl rfl (by decide) (by decide) rfl (run_nil (eval_G (show G fa 12 = .pointer (some ⟨py, 0, none⟩) from h.lit (hw2 ⟨5, .data⟩ (by simp) rfl) rfl rfl))) rfl
    · rintro L fa wx h hcl hL hw2
      exact rp_val h (by decide) rfl rfl rfl (by decide) (by decide) rfl (run_fldA (eval_G (show G fa 13 = .pointer (some ⟨py, 0, none⟩) from h.lit (hw2 ⟨6, .data⟩ (by simp) rfl) rfl rfl))) rfl
    · rintro L fa wx h hcl hL hw2
      obtain ⟨b0, e0, z0, l0⟩ := h.new (Bool.eq_false_iff.2 fun hq => by have hz := (hcl 15 _ rfl hq ⟨8, .data⟩ (by simp) rfl); rw [hL] at hz; cases hz) (hw2 ⟨1, .data⟩ (by simp) rfl) rfl rfl
      exact rp_put h (by decide) rfl rfl rfl (by decide) (by decide) (Bool.eq_false_iff.2 fun hq => by have hz := (hcl 15 _ rfl hq ⟨8, .data⟩ (by simp) rfl); rw [hL] at hz; cases hz) rfl (run_call3 (eval_G e0) (eval_G (show G fa 11 = .pointer (some ⟨px, 0, none⟩) from h.lit (hw2 ⟨4, .data⟩ (by simp) rfl) rfl rfl)) (eval_G (show G fa 14 = .pointer (some ⟨py, 0, none⟩) from h.lit (hw2 ⟨7, .data⟩ (by simp) rfl) rfl rfl)) callIMul) (hw2 ⟨1, .data⟩ (by simp) rfl) rfl rfl e0 (mul_put z0 ((unhide HX).num.below (h.old (Bool.eq_false_iff.2 fun hq => by have hz := (hcl 15 _ rfl hq ⟨8, .data⟩ (by simp) rfl); rw [hL] at hz; cases hz))) ((unhide HY).num.below (h.old (Bool.eq_false_iff.2 fun hq => by have hz := (hcl 15 _ rfl hq ⟨8, .data⟩ (by simp) rfl); rw [hL] at hz; cases hz))) (by omega) (by omega)) rfl (al_of (bad := [8]) rfl (by
        intro k hk
        simp only [List.mem_cons, List.not_mem_nil, or_false] at hk
        rcases hk with rfl
        · exact hL))
    · rintro L fa wx h hcl hL hw2
      exact rp_new h (by decide) rfl rfl rfl (by decide) (by decide) (Bool.eq_false_iff.2 fun hq => by have hz := (hcl 14 _ rfl (hcl 15 _ rfl hq ⟨14, .data⟩ (by simp) rfl) ⟨9, .data⟩ (by simp) rfl); rw [hL] at hz; cases hz) rfl run_newI ZA.new rfl
    · rintro L fa wx h hcl hL hw2
      exact rp_val h (by decide) rfl rfl rfl (by decide) (by decide) rfl (run_mv (eval_G ((h.keep (s := 1) (by decide)).trans s1))) rfl
    · rintro L fa wx h hcl hL hw2
      exact rp_make h (by decide) rfl rfl rfl (by decide) (by decide) (Bool.eq_false_iff.2 fun hq => by have hz := (hcl 14 _ rfl (hcl 15 _ rfl hq ⟨14, .data⟩ (by simp) rfl) ⟨11, .data⟩ (by simp) rfl); rw [hL] at hz; cases hz) rfl (run_call1 (eval_G (show G fa 17 = .pointer (some ⟨px, 0, none⟩) from h.lit (hw2 ⟨10, .data⟩ (by simp) rfl) rfl rfl)) callDen) (unhide DX wx (h.old (Bool.eq_false_iff.2 fun hq => by have hz := (hcl 14 _ rfl (hcl 15 _ rfl hq ⟨14, .data⟩ (by simp) rfl) ⟨11, .data⟩ (by simp) rfl); rw [hL] at hz; cases hz))) rfl
    · rintro L fa wx h hcl hL hw2
      exact rp_val h (by decide) rfl rfl rfl (by decide) (by decide) rfl (run_mv (eval_G ((h.keep (s := 2) (by decide)).trans s2))) rfl
    · rintro L fa wx h hcl hL hw2
      exact rp_make h (by decide) rfl rfl rfl (by decide) (by decide) (Bool.eq_false_iff.2 fun hq => by have hz := (hcl 14 _ rfl (hcl 15 _ rfl hq ⟨14, .data⟩ (by simp) rfl) ⟨13, .data⟩ (by simp) rfl); rw [hL] at hz; cases hz) rfl (run_call1 (eval_G (show G fa 19 = .pointer (some ⟨py, 0, none⟩) from h.lit (hw2 ⟨12, .data⟩ (by simp) rfl) rfl rfl)) callDen) (unhide DY wx (h.old (Bool.eq_false_iff.2 fun hq => by have hz := (hcl 14 _ rfl (hcl 15 _ rfl hq ⟨14, .data⟩ (by simp) rfl) ⟨13, .data⟩ (by simp) rfl); rw [hL] at hz; cases hz))) rfl
    · rintro L fa wx h hcl hL hw2
      obtain ⟨b0, e0, z0, l0⟩ := h.new (Bool.eq_false_iff.2 fun hq => by have hz := (hcl 15 _ rfl hq ⟨14, .data⟩ (by simp) rfl); rw [hL] at hz; cases hz) (hw2 ⟨9, .data⟩ (by simp) rfl) rfl rfl
      obtain ⟨b1, o1, e1, mm1⟩ := h.ptr (Bool.eq_false_iff.2 fun hq => by have hz := (hcl 15 _ rfl hq ⟨14, .data⟩ (by simp) rfl); rw [hL] at hz; cases hz) (hw2 ⟨11, .data⟩ (by simp) rfl) rfl rfl
      obtain ⟨b2, o2, e2, mm2⟩ := h.ptr (Bool.eq_false_iff.2 fun hq => by have hz := (hcl 15 _ rfl hq ⟨14, .data⟩ (by simp) rfl); rw [hL] at hz; cases hz) (hw2 ⟨13, .data⟩ (by simp) rfl) rfl rfl
      exact rp_put h (by decide) rfl rfl rfl (by decide) (by decide) (Bool.eq_false_iff.2 fun hq => by have hz := (hcl 15 _ rfl hq ⟨14, .data⟩ (by simp) rfl); rw [hL] at hz; cases hz) rfl (run_call3 (eval_G e0) (eval_G e1) (eval_G e2) callIMul) (hw2 ⟨9, .data⟩ (by simp) rfl) rfl rfl e0 (mul_put z0 mm1 mm2 (by omega) (by omega)) rfl (al_of (bad := [14]) rfl (by
        intro k hk
        simp only [List.mem_cons, List.not_mem_nil, or_false] at hk
        rcases hk with rfl
        · exact hL))
    · rintro L fa wx h hcl hL hw2
      obtain ⟨b1, o1, e1, mm1⟩ := h.ptr hL (hw2 ⟨8, .data⟩ (by simp) rfl) rfl rfl
      obtain ⟨b2, o2, e2, mm2⟩ := h.ptr hL (hw2 ⟨14, .data⟩ (by simp) rfl) rfl rfl
      exact rp_last h (by decide) rfl rfl rfl (by decide) hL rfl (run_call3 (eval_G (show G fa 7 = .pointer (some ⟨p, 0, none⟩) from h.lit (hw2 ⟨0, .data⟩ (by simp) rfl) rfl rfl)) (eval_G e1) (eval_G e2) callFrac) (unhide SF wx _ _ _ _ (h.old hL) mm1 mm2) rfl
    · rintro L fa wx h hcl hL hw2
      exact rp_val h (by decide) rfl rfl rfl (by decide) (by decide) rfl (run_asg (eval_G (show G fa 22 = .pointer (some ⟨p, 0, none⟩) from h.lit (hw2 ⟨15, .data⟩ (by simp) rfl) rfl rfl))) rfl
  case done =>
    rintro L f1 w3 h hall
    have q6 : G f1 6 = .pointer (some ⟨p, 0, none⟩) := h.lit (i := 16) (hall 16 (by simp)) rfl rfl
    have HF := hide (h.fin (hall 15 (by simp)))
    rw [fr23 h.size h.defs, q6]
    clear h hall q6
    go_wp2
    go_ret
    exact ⟨rfl, unhide HF⟩

end Go.Proofs.YtbdgngfpofohpaaDoor

/- Walks: ratios: Add, Sub (written by gen_bz5.py). -/
namespace Go.Proofs.YtbdgngfpofohpaaDoor
open Go.RowKit

theorem fr33 {a : Act} (hs : a.tmps.size = 33) (hd : a.defers = []) : a = { tmps := #[G a 0, G a 1, G a 2, G a 3, G a 4, G a 5, G a 6, G a 7, G a 8, G a 9, G a 10, G a 11, G a 12, G a 13, G a 14, G a 15, G a 16, G a 17, G a 18, G a 19, G a 20, G a 21, G a 22, G a 23, G a 24, G a 25, G a 26, G a 27, G a 28, G a 29, G a 30, G a 31, G a 32], defers := [] } := frame_is hs hd

end Go.Proofs.YtbdgngfpofohpaaDoor

/- Walks: Abs of whole numbers; ratios: SetInt, SetInt64, NewRat, Num, Denom. -/
namespace Go.Proofs.YtbdgngfpofohpaaDoor
open Go.RowKit

theorem ZA.newR (w : World) : ZA (w.alloc (.cells #[.bool false, .slice none 0 0, .bool false, .slice none 0 0] 83)) w.heap.size 2 :=
  ⟨#[.bool false, .slice none 0 0, .bool false, .slice none 0 0], 83, by show (w.heap.push _)[w.heap.size]? = _; simp, by decide, by simp⟩

set_option maxHeartbeats 2000000 in
theorem iabs_any (b o bx ox : Nat) (x : Int) (w : World) (hz : ZA w b o) (hx : IA w bx ox x) (lx : (Bg.wd x.natAbs).length ≤ 100000) :
    Calls Tryd.prog 60 #[.pointer (some ⟨b, o, none⟩), .pointer (some ⟨bx, ox, none⟩)] w fun e w' => e = .returned (.pointer (some ⟨b, o, none⟩)) ∧ IA w' b o (x.natAbs : Int) ∧ Out b o w w' := by
  obtain ⟨vx, x1, x2⟩ := hx.abs
  obtain ⟨px, cx, rfl, -⟩ := id x2
  have TW := hide (twin_any _ x.natAbs w x2 lx)
  have HZ := hide hz
  clear x2 hx lx hz
  go_enter Tryd.func60, Tryd.ntmps60
  go_wp2_with fail
  refine (unhide TW).mono ?_
  rintro e w1 ⟨u, rfl, hu, hb⟩
  have GV := hide (give_any b o false x.natAbs u w1 ((unhide HZ).below hb) hu)
  have HB := hide hb
  clear hu hb
  go_wp2_with fail
  refine (unhide GV).mono ?_
  rintro e w2 ⟨rfl, hi, ho⟩
  have HI := hide hi
  have HO := hide ho
  clear hi ho
  go_wp2
  go_ret
  exact ⟨rfl, unhide HI, (Out.of (unhide HB)).trans (unhide HO)⟩

set_option maxHeartbeats 2000000 in
theorem rsetInt_any (p bx ox : Nat) (x : Int) (w : World) (hz : ZA w p 2) (hx : IA w bx ox x) (lx : Ln x ≤ 20000) :
    Calls Tryd.prog 54 #[.pointer (some ⟨p, 0, none⟩), .pointer (some ⟨bx, ox, none⟩)] w fun e w' => e = .returned (.pointer (some ⟨p, 0, none⟩)) ∧ RV w' p x 1 ∧ Blk p w w' := by
  have NI := hide (newInt_any 1 w (by omega) (by omega))
  have HX := hide hx
  have SF := hide (frac_last (A := x) (B := 1) (N := x) (D := 1) hz (by omega) (by omega) (Nat.le_trans (Ln_small (by decide)) (by omega)) rfl (Nat.le_refl _))
  clear hx hz
  go_enter Tryd.func54, Tryd.ntmps54
  go_wp2_with fail
  refine (unhide NI).mono ?_
  rintro e w1 ⟨rfl, h1, hb⟩
  have CF := hide (unhide SF w1 _ _ _ _ hb ((unhide HX).below hb) h1)
  clear h1 hb
  go_wp2_with fail
  refine (unhide CF).mono ?_
  rintro e w2 ⟨rfl, hr, hk⟩
  have HR := hide hr
  have HK := hide hk
  clear hr hk
  go_wp2
  go_ret
  exact ⟨rfl, unhide HR, unhide HK⟩

set_option maxHeartbeats 2000000 in
theorem rsetInt64_any (p : Nat) (x : Int) (w : World) (hz : ZA w p 2) (h1 : -9223372036854775808 ≤ x) (h2 : x ≤ 9223372036854775807) :
    Calls Tryd.prog 53 #[.pointer (some ⟨p, 0, none⟩), .int .i64 x] w fun e w' => e = .returned (.pointer (some ⟨p, 0, none⟩)) ∧ RV w' p x 1 ∧ Blk p w w' := by
  have NI := hide (newInt_any x w h1 h2)
  have lx : Ln x ≤ 2 := Ln_small (by omega)
  have SF := hide (frac_last (A := x) (B := 1) (N := x) (D := 1) hz (by omega) (by omega) (Nat.le_trans (Ln_small (by decide)) (by omega)) rfl (Nat.le_refl _))
  clear hz
  go_enter Tryd.func53, Tryd.ntmps53
  go_wp2_with fail
  refine (unhide NI).mono ?_
  rintro e w1 ⟨rfl, i1, hb⟩
  have N2 := hide (newInt_any 1 w1 (by omega) (by omega))
  have HI := hide i1
  have HB := hide hb
  clear i1 hb
  go_wp2_with fail
  refine (unhide N2).mono ?_
  rintro e w2 ⟨rfl, i2, hb2⟩
  have CF := hide (unhide SF w2 _ _ _ _ (below_step (unhide HB) hb2) ((unhide HI).below hb2) i2)
  clear i2 hb2
  go_wp2_with fail
  refine (unhide CF).mono ?_
  rintro e w3 ⟨rfl, hr, hk⟩
  have HR := hide hr
  have HK := hide hk
  clear hr hk
  go_wp2
  go_ret
  exact ⟨rfl, unhide HR, unhide HK⟩

theorem newInt_at (x : Int) (w : World) (n : Nat) (hn : w.heap.size = n) (h1 : -9223372036854775808 ≤ x) (h2 : x ≤ 9223372036854775807) :
    Calls Tryd.prog 57 #[.int .i64 x] w fun e w' => e = .returned (.pointer (some ⟨n, 0, none⟩)) ∧ IA w' n 0 x ∧ Below w.heap.size w w' := by
  subst hn
  exact newInt_any x w h1 h2

/-- two that stand in the same ratio compare alike -/
theorem icmp_cross {x y X Y K M : Int} (hK : 0 < K) (hM : 0 < M) (ex : x * K = X * M) (ey : y * K = Y * M) : icmp x y = icmp X Y := by
  unfold icmp
  rcases Int.lt_trichotomy x y with h | h | h
  · have h1 : X * M < Y * M := by rw [← ex, ← ey]; exact Int.mul_lt_mul_of_pos_right h hK
    have h2 : X < Y := Int.lt_of_mul_lt_mul_right h1 (by omega)
    rw [if_pos h, if_pos h2]
  · have h1 : X * M = Y * M := by rw [← ex, ← ey, h]
    have h2 : X = Y := Int.eq_of_mul_eq_mul_right (by omega) h1
    rw [if_neg (by omega), if_pos h, if_neg (by omega), if_pos h2]
  · have h1 : Y * M < X * M := by rw [← ex, ← ey]; exact Int.mul_lt_mul_of_pos_right h hK
    have h2 : Y < X := Int.lt_of_mul_lt_mul_right h1 (by omega)
    rw [if_neg (by omega), if_neg (by omega), if_neg (by omega), if_neg (by omega)]
theorem icmp_zero {x y : Int} : icmp x y = 0 ↔ x = y := by
  unfold icmp
  split
  · constructor
    · intro h; omega
    · intro h; omega
  · split
    · rename_i h; simp [h]
    · rename_i h; constructor
      · intro g; omega
      · intro g; exact absurd g h
end Go.Proofs.YtbdgngfpofohpaaDoor
