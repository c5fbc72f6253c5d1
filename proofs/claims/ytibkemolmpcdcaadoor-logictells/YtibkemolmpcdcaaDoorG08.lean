/- Walks: SetFrac. -/
import Derived.Test.YtibkemolmpcdcaaDoorG07
namespace Go.Proofs.YtibkemolmpcdcaaDoor
open Go.RowKit

theorem two_laid {w : World} {p : Nat} {A B : Int} {x y : Value} (hz : ZA w p 2) (hx : WS w x (Bg.wd A.natAbs)) (hy : WS w y (Bg.wd B.natAbs)) :
    IA ((((w.setCell ⟨p, 0, none⟩ (.bool (decide (A < 0)))).setCell ⟨p, 1, none⟩ x).setCell ⟨p, 2, none⟩ (.bool (decide (B < 0)))).setCell ⟨p, 3, none⟩ y) p 0 A ∧
    IA ((((w.setCell ⟨p, 0, none⟩ (.bool (decide (A < 0)))).setCell ⟨p, 1, none⟩ x).setCell ⟨p, 2, none⟩ (.bool (decide (B < 0)))).setCell ⟨p, 3, none⟩ y) p 2 B ∧
    Blk p w ((((w.setCell ⟨p, 0, none⟩ (.bool (decide (A < 0)))).setCell ⟨p, 1, none⟩ x).setCell ⟨p, 2, none⟩ (.bool (decide (B < 0)))).setCell ⟨p, 3, none⟩ y) := by
  have O1 : Out p 0 w (w.setCell ⟨p, 0, none⟩ (.bool (decide (A < 0)))) := Out.set (.inl rfl)
  have O2 : Out p 0 (w.setCell ⟨p, 0, none⟩ (.bool (decide (A < 0)))) ((w.setCell ⟨p, 0, none⟩ (.bool (decide (A < 0)))).setCell ⟨p, 1, none⟩ x) := Out.set (.inr rfl)
  have O3 : Out p 2 ((w.setCell ⟨p, 0, none⟩ (.bool (decide (A < 0)))).setCell ⟨p, 1, none⟩ x) (((w.setCell ⟨p, 0, none⟩ (.bool (decide (A < 0)))).setCell ⟨p, 1, none⟩ x).setCell ⟨p, 2, none⟩ (.bool (decide (B < 0)))) := Out.set (.inl rfl)
  have O4 : Out p 2 (((w.setCell ⟨p, 0, none⟩ (.bool (decide (A < 0)))).setCell ⟨p, 1, none⟩ x).setCell ⟨p, 2, none⟩ (.bool (decide (B < 0)))) ((((w.setCell ⟨p, 0, none⟩ (.bool (decide (A < 0)))).setCell ⟨p, 1, none⟩ x).setCell ⟨p, 2, none⟩ (.bool (decide (B < 0)))).setCell ⟨p, 3, none⟩ y) := Out.set (.inr rfl)
  obtain ⟨⟨v2, c2⟩, v3, c3⟩ := hz.cell
  obtain ⟨⟨v0, c0⟩, v1, c1⟩ := (hz.up (show 0 ≤ 2 by omega)).cell
  have K := ((O1.blk.trans O2.blk).trans O3.blk).trans O4.blk
  have kw := K.kw hz
  refine ⟨⟨(hz.up (show 0 ≤ 2 by omega)).blk K, ?_, x, ?_, hx.keep kw⟩, ⟨hz.blk K, ?_, y, ?_, hy.keep kw⟩, K⟩
  · simp [go_sem, c0]
  · simp [go_sem, c1]
  · simp [go_sem, c2]
  · simp [go_sem, c3]

set_option maxRecDepth 100000 in
set_option maxHeartbeats 4000000 in
theorem setFrac_any (p ba oa bb ob : Nat) (A B : Int) (w : World) (hz : ZA w p 2) (ha : IA w ba oa A) (hb : IA w bb ob B) (b0 : B ≠ 0) (la : Ln A ≤ 90000) (lb : Ln B ≤ 90000) :
    Calls Tryd.prog 48 #[.pointer (some ⟨p, 0, none⟩), .pointer (some ⟨ba, oa, none⟩), .pointer (some ⟨bb, ob, none⟩)] w fun e w' => e = .returned (.pointer (some ⟨p, 0, none⟩)) ∧ RV w' p A B ∧ Blk p w w' := by
  obtain ⟨v, x1, x2⟩ := hb.abs
  obtain ⟨q, c, rfl, -⟩ := id x2
  have hl := wd_pos_len (n := B.natAbs) (by omega)
  have g1 : (((Bg.wd B.natAbs).length : Int) == 0) = false := by rw [beq_eq_false_iff_ne]; omega
  have N := below_new w (.cells #[.bool false, .slice none 0 0] 71)
  have lz := hz.low
  have lba := ha.place.low
  have lbb := hb.place.low
  have S1 := hide (iset_any w.heap.size 0 ba oa A _ (ZA.new w) (ha.below N) (by unfold Ln at la; omega))
  have HN := hide N
  have HZ := hide hz
  have HB := hide hb
  clear x2 N hz ha hb
  go_enter Tryd.func48, Tryd.ntmps48
  go_wp2_with fail
  refine (unhide S1).mono ?_
  rintro e w1 ⟨rfl, hi1, ho1⟩
  have B1 : Below w.heap.size w w1 := (unhide HN).trans (ho1.below (Nat.le_refl _) (by simp))
  have N1 := below_new w1 (.cells #[.bool false, .slice none 0 0] 71)
  have s1 := B1.size
  have S2 := hide (iset_any w1.heap.size 0 bb ob B _ (ZA.new w1) (((unhide HB).below B1).below N1) (by unfold Ln at lb; omega))
  have HI1 := hide (hi1.below N1)
  have li1 := hi1.place.low
  have HB1 := hide (B1.trans (N1.mono s1))
  clear hi1 ho1 B1 N1 S1 HN
  go_wp2_with fail
  refine (unhide S2).mono ?_
  rintro e w2 ⟨rfl, hi2, ho2⟩
  have B2 : Below w.heap.size w w2 := (unhide HB1).trans (ho2.below (by omega) (by simp; omega))
  have j1 := (unhide HI1).out ho2 (ZA.new w1) (.inl (by omega))
  obtain ⟨va, ca1, va2⟩ := j1.abs
  obtain ⟨vb, cb1, vb2⟩ := hi2.abs
  obtain ⟨pa, ka, rfl, -⟩ := id va2
  obtain ⟨pb, kb, rfl, -⟩ := id vb2
  have ca0 := j1.neg
  have cb0 := hi2.neg
  have z2 := (unhide HZ).below B2
  have f0 := z2.frozen 0
  have f1 := z2.frozen 1
  have f2 := z2.frozen 2
  have f3 := z2.frozen 3
  obtain ⟨⟨v2, c2⟩, v3, c3⟩ := z2.cell
  obtain ⟨⟨v0, c0⟩, v1, c1⟩ := (z2.up (show 0 ≤ 2 by omega)).cell
  have ne1 : w1.heap.size ≠ p := by omega
  have ne2 : p ≠ w1.heap.size := by omega
  have HT := hide (two_laid z2 va2 vb2)
  have HB2 := hide B2
  have la' : (Bg.wd A.natAbs).length ≤ 90000 := la
  have lb' : (Bg.wd B.natAbs).length ≤ 90000 := lb
  clear S2 HI1 ho2 va2 vb2 j1 hi2 B2 z2
  go_wp2_with fail
  obtain ⟨tA, tB, tK⟩ := unhide HT
  refine (norm_any p A B _ tA tB b0 la' lb').mono ?_
  rintro e w3 ⟨rfl, ⟨n', d', hr, e1, -, l2⟩, hk⟩
  have HR := hide hr
  have HK := hide (((Blk.of (unhide HB2)).trans tK).trans hk)
  clear hr hk tA tB tK
  go_wp2
  go_ret
  exact ⟨rfl, ⟨n', d', (unhide HR).q, e1, l2⟩, unhide HK⟩
end Go.Proofs.YtibkemolmpcdcaaDoor

/- Walks: ratios: Set, Mul, Quo, Add, Sub (written by gen_bz5.py). -/
namespace Go.Proofs.YtibkemolmpcdcaaDoor
open Go.RowKit

theorem callIMul (zs : Array Value) (w : World) : Sem.run Tryd.prog (callFunc 53 zs) w = .ok (.enter 53 zs) w := by simp [go_sem]

theorem callDen (zs : Array Value) (w : World) : Sem.run Tryd.prog (callFunc 51 zs) w = .ok (.enter 51 zs) w := by simp [go_sem]

theorem callFrac (zs : Array Value) (w : World) : Sem.run Tryd.prog (callFunc 48 zs) w = .ok (.enter 48 zs) w := by simp [go_sem]

theorem mul_put {b bx ox b2 oy : Nat} {x y : Int} {w : World} (hz : ZA w b 0) (hx : IA w bx ox x) (hy : IA w b2 oy y) (lx : Ln x ≤ 90000) (ly : Ln y ≤ 90000) :
    Calls Tryd.prog 53 #[.pointer (some ⟨b, 0, none⟩), .pointer (some ⟨bx, ox, none⟩), .pointer (some ⟨b2, oy, none⟩)] w fun e w' => e = .returned (.pointer (some ⟨b, 0, none⟩)) ∧ (pI (x * y)).is w' b 0 ∧ Blk b w w' :=
  (imul_any b 0 bx ox b2 oy x y w hz hx hy (by unfold Ln at lx; omega) (by unfold Ln at ly; omega)).mono fun _ _ q => ⟨q.1, q.2.1, q.2.2.blk⟩

/-- den, wherever the region has come -/
theorem den_make {p : Nat} {n d : Int} {w : World} (h : RQ w p n d) : ∀ wx, Below w.heap.size w wx → Calls Tryd.prog 51 #[.pointer (some ⟨p, 0, none⟩)] wx fun e w' => ∃ b o, e = .returned (.pointer (some ⟨b, o, none⟩)) ∧ (pI d).is w' b o ∧ (b < w.heap.size ∨ wx.heap.size ≤ b) ∧ Below wx.heap.size wx w' := fun wx hb => by
  refine (den_q p n d wx (h.below hb)).mono ?_
  rintro e w' ⟨b, o, rfl, hi, hc, hB⟩
  refine ⟨b, o, rfl, hi, ?_, hB⟩
  rcases hc with ⟨rfl, _⟩ | hc
  · exact .inl h.place.low
  · exact .inr hc
/-- a ratio is laid, wherever the region has come -/
theorem frac_last {p : Nat} {A B N D : Int} {w : World} (hz : ZA w p 2) (b0 : B ≠ 0) (la : Ln A ≤ 90000) (lb : Ln B ≤ 90000) (e : A * D = N * B) (l : B.natAbs ≤ D.natAbs) : ∀ wx b1 o1 b2 o2, Below w.heap.size w wx → IA wx b1 o1 A → IA wx b2 o2 B → Calls Tryd.prog 48 #[.pointer (some ⟨p, 0, none⟩), .pointer (some ⟨b1, o1, none⟩), .pointer (some ⟨b2, o2, none⟩)] wx fun e w' => e = .returned (.pointer (some ⟨p, 0, none⟩)) ∧ RV w' p N D ∧ Blk p w w' := fun wx b1 o1 b2 o2 hb h1 h2 => by
  refine (setFrac_any p b1 o1 b2 o2 A B wx (hz.below hb) h1 h2 b0 la lb).mono ?_
  rintro e' w' ⟨rfl, hr, hk⟩
  exact ⟨rfl, hr.via b0 e l, (Blk.of hb).trans hk⟩
theorem abs_mul_le {a b c d : Int} (h1 : a.natAbs ≤ c.natAbs) (h2 : b.natAbs ≤ d.natAbs) : (a * b).natAbs ≤ (c * d).natAbs := by
  rw [Int.natAbs_mul, Int.natAbs_mul]
  exact Nat.mul_le_mul h1 h2

theorem fr12 {a : Act} (hs : a.tmps.size = 12) (hd : a.defers = []) : a = { tmps := #[G a 0, G a 1, G a 2, G a 3, G a 4, G a 5, G a 6, G a 7, G a 8, G a 9, G a 10, G a 11], defers := [] } := frame_is hs hd

theorem fr23 {a : Act} (hs : a.tmps.size = 23) (hd : a.defers = []) : a = { tmps := #[G a 0, G a 1, G a 2, G a 3, G a 4, G a 5, G a 6, G a 7, G a 8, G a 9, G a 10, G a 11, G a 12, G a 13, G a 14, G a 15, G a 16, G a 17, G a 18, G a 19, G a 20, G a 21, G a 22], defers := [] } := frame_is hs hd

set_option maxRecDepth 100000 in
set_option maxHeartbeats 4000000 in
theorem rmul_any (p px py : Nat) (N1 D1 N2 D2 : Int) (w : World) (hz : ZA w p 2) (hx : RV w px N1 D1) (hy : RV w py N2 D2) (d1 : D1 ≠ 0) (d2 : D2 ≠ 0) (lx : Ln N1 ≤ 20000) (kx : Ln D1 ≤ 20000) (ly : Ln N2 ≤ 20000) (ky : Ln D2 ≤ 20000) :
    Calls Tryd.prog 50 #[.pointer (some ⟨p, 0, none⟩), .pointer (some ⟨px, 0, none⟩), .pointer (some ⟨py, 0, none⟩)] w fun e w' => e = .returned (.pointer (some ⟨p, 0, none⟩)) ∧ RV w' p (N1 * N2) (D1 * D2) ∧ Blk p w w' := by
  obtain ⟨n1, m1, qx, e1, g1⟩ := hx
  obtain ⟨n2, m2, qy, e2, g2⟩ := hy
  have r1 := Ln_mono (ratio_le d1 e1 g1)
  have r2 := Ln_mono (ratio_le d2 e2 g2)
  have r3 := Ln_mono g1
  have r4 := Ln_mono g2
  have p1 := qx.pos
  have p2 := qy.pos
  have DX := hide (den_make qx)
  have DY := hide (den_make qy)
  have t1 := Ln_mul n1 n2
  have t2 := Ln_mul m1 m2
  have SF := hide (frac_last (A := n1 * n2) (B := m1 * m2) (N := N1 * N2) (D := D1 * D2) hz (Int.mul_ne_zero (by omega) (by omega)) (by omega) (by omega) (by rw [show n1 * n2 * (D1 * D2) = (n1 * D1) * (n2 * D2) by grind, e1, e2]; grind) (abs_mul_le g1 g2))
  have HX := hide qx
  have HY := hide qy
  clear qx qy hz e1 e2 t1 t2
  go_enter Tryd.func50, Tryd.ntmps50
  go_upto_region 1 with fail
  refine frame_intro (fun a => G a 0 = .pointer (some ⟨p, 0, none⟩) ∧ G a 1 = .pointer (some ⟨px, 0, none⟩) ∧ G a 2 = .pointer (some ⟨py, 0, none⟩) ∧ a.tmps.size = 23 ∧ a.defers = []) ⟨rfl, rfl, rfl, rfl, rfl⟩ ?_
  rintro f0 ⟨s0, s1, s2, hsz, hdf⟩
  refine region_any (I := RP w f0 23 [7, 8, 9, 10, 11, 12, 13, 14, 15, 16, 17, 18, 19, 20, 21, 22, 6] 15 (fun w' => RV w' p (N1 * N2) (D1 * D2) ∧ Blk p w w') [.lit (.pointer (some ⟨p, 0, none⟩)), .new 1 0, .lit (.pointer (some ⟨px, 0, none⟩)), .lit (.pointer (some ⟨px, 0, none⟩)), .lit (.pointer (some ⟨px, 0, none⟩)), .lit (.pointer (some ⟨py, 0, none⟩)), .lit (.pointer (some ⟨py, 0, none⟩)), .lit (.pointer (some ⟨py, 0, none⟩)), .ptr 1 (pI (n1 * n2)), .new 9 0, .lit (.pointer (some ⟨px, 0, none⟩)), .ptr 11 (pI m1), .lit (.pointer (some ⟨py, 0, none⟩)), .ptr 13 (pI m2), .ptr 9 (pI (m1 * m2)), .lit (.pointer (some ⟨p, 0, none⟩)), .lit (.pointer (some ⟨p, 0, none⟩))]) (by kernel_rfl) ?wait ?step ?done ?start
  case wait => exact ⟨by simp, by simp, by simp, by simp, by simp, by simp, by simp, by simp, by simp, by simp, by simp, by simp, by simp, by simp, by simp, by simp, by simp, trivial⟩
  case start => exact RP.start hsz hdf ((Below.refl _ _).drew)
  case step =>
    refine ⟨?_, ?_, ?_, ?_, ?_, ?_, ?_, ?_, ?_, ?_, ?_, ?_, ?_, ?_, ?_, ?_, ?_, trivial⟩
    · rintro L fa wx h hcl hL hw2
      exact rp_val h (by decide) rfl rfl rfl (by decide) (by decide) rfl (run_mv (eval_G ((h.keep (s := 0) (by decide)).trans s0))) rfl
    · rintro L fa wx h hcl hL hw2
      exact rp_new h (by decide) rfl rfl rfl (by decide) (by decide) (Bool.eq_false_iff.2 fun hq => by have hz := (hcl 8 _ rfl (hcl 15 _ rfl hq ⟨8, .data⟩ (by simp) rfl) ⟨1, .data⟩ (by simp) rfl); rw [hL] at hz; cases hz) rfl run_newI ZA.new rfl
    · rintro L fa wx h hcl hL hw2
      exact rp_val h (by decide) rfl rfl rfl (by decide) (by decide) rfl (run_mv (eval_G ((h.keep (s := 1) (by decide)).trans s1))) rfl
    · rintro L fa wx h hcl hL hw2
      exact rp_val h (by decide) rfl rfl rfl (by decide) (by decide) rfl (run_nil (eval_G (show G fa 9 = .pointer (some ⟨px, 0, none⟩) from h.lit (hw2 ⟨2, .data⟩ (by simp) rfl) rfl rfl))) rfl
    · rintro L fa wx h hcl hL hw2
      exact rp_val h (by decide) rfl rfl rfl (by decide) (by decide) rfl (run_fldA (eval_G (show G fa 10 = .pointer (some ⟨px, 0, none⟩) from h.lit (hw2 ⟨3, .data⟩ (by simp) rfl) rfl rfl))) rfl
    · rintro L fa wx h hcl hL hw2
      exact rp_val h (by decide) rfl rfl rfl (by decide) (by decide) rfl (run_mv (eval_G ((h.keep (s := 2) (by decide)).trans s2))) rfl
    · rintro L fa wx h hcl hL hw2
      exact rp_val h (by decide) rfl rfl rfl (by decide) (by decide) rfl (run_nil (eval_G (show G fa 12 = .pointer (some ⟨py, 0, none⟩) from h.lit (hw2 ⟨5, .data⟩ (by simp) rfl) rfl rfl))) rfl
    · rintro L fa wx h hcl hL hw2
      exact rp_val h (by decide) rfl rfl rfl (by decide) (by decide) rfl (run_fldA (eval_G (show G fa 13 = .pointer (some ⟨py, 0, none⟩) from h.lit (hw2 ⟨6, .data⟩ (by simp) rfl) rfl rfl))) rfl
    · rintro L fa wx h hcl hL hw2
      obtain ⟨b0, e0, z0, l0⟩ := h.new (Bool.eq_false_iff.2 fun hq => by have hz := (hcl 15 _ rfl hq ⟨8, .data⟩ (by simp) rfl); rw [hL] at hz; cases hz) (hw2 ⟨1, .data⟩ (by simp) rfl) rfl rfl
      exact rp_put h (by decide) rfl rfl rfl (by decide) (by decide) (Bool.eq_false_iff.2 fun hq => by have hz := (hcl 15 _ rfl hq ⟨8, .data⟩ (by simp) rfl); rw [hL] at hz; cases hz) rfl (run_call3 (eval_G e0) (eval_G (show G fa 11 = .pointer (some ⟨px, 0, none⟩) from h.lit (hw2 ⟨4, .data⟩ (by simp) rfl) rfl rfl)) (eval_G (show G fa 14 = .pointer (some ⟨py, 0, none⟩) from h.lit (hw2 ⟨7, .data⟩ (by simp) rfl) rfl rfl)) callIMul) (hw2 ⟨1, .data⟩ (by simp) rfl) rfl rfl e0 (mul_put z0 ((unhide HX).num.below (h.old (Bool.eq_false_iff.2 fun hq => by have hz := (hcl 15 _ rfl hq ⟨8, .data⟩ (by simp) rfl); rw [hL] at hz; cases hz))) ((unhide HY).num.below (h.old (Bool.eq_false_iff.2 fun hq => by have hz := (hcl 15 _ rfl hq ⟨8, .data⟩ (by simp) rfl); rw [hL] at hz; cases hz))) (by omega) (by omega)) rfl (al_of (bad := [8]) rfl (by
        intro k hk
        simp only [List.mem_cons, List.not_mem_nil, or_false] at hk
        rcases hk with rfl
        · exact hL))
    · rintro L fa wx h hcl hL hw2
      exact rp_new h (by decide) rfl rfl rfl (by decide) (by decide) (Bool.eq_false_iff.2 fun hq => by have hz := (hcl 14 _ rfl (hcl 15 _ rfl hq ⟨14, .data⟩ (by simp) rfl) ⟨9, .data⟩ (by simp) rfl); rw [hL] at hz; cases hz) rfl run_newI ZA.new rfl
    · rintro L fa wx h hcl hL hw2
      exact rp_val h (by decide) rfl rfl rfl (by decide) (by decide) rfl (run_mv (eval_G ((h.keep (s := 1) (by decide)).trans s1))) rfl
    · rintro L fa wx h hcl hL hw2
      exact rp_make h (by decide) rfl rfl rfl (by decide) (by decide) (Bool.eq_false_iff.2 fun hq => by have hz := (hcl 14 _ rfl (hcl 15 _ rfl hq ⟨14, .data⟩ (by simp) rfl) ⟨11, .data⟩ (by simp) rfl); rw [hL] at hz; cases hz) rfl (run_call1 (eval_G (show G fa 17 = .pointer (some ⟨px, 0, none⟩) from h.lit (hw2 ⟨10, .data⟩ (by simp) rfl) rfl rfl)) callDen) (unhide DX wx (h.old (Bool.eq_false_iff.2 fun hq => by have hz := (hcl 14 _ rfl (hcl 15 _ rfl hq ⟨14, .data⟩ (by simp) rfl) ⟨11, .data⟩ (by simp) rfl); rw [hL] at hz; cases hz))) rfl
    · rintro L fa wx h hcl hL hw2
      exact rp_val h (by decide) rfl rfl rfl (by decide) (by decide) rfl (run_mv (eval_G ((h.keep (s := 2) (by decide)).trans s2))) rfl
    · rintro L fa wx h hcl hL hw2
      exact rp_make h (by decide) rfl rfl rfl (by decide) (by decide) (Bool.eq_false_iff.2 fun hq => by have hz := (hcl 14 _ rfl (hcl 15 _ rfl hq ⟨14, .data⟩ (by simp) rfl) ⟨13, .data⟩ (by simp) rfl); rw [hL] at hz; cases hz) rfl (run_call1 (eval_G (show G fa 19 = .pointer (some ⟨py, 0, none⟩) from h.lit (hw2 ⟨12, .data⟩ (by simp) rfl) rfl rfl)) callDen) (unhide DY wx (h.old (Bool.eq_false_iff.2 fun hq => by have hz := (hcl 14 _ rfl (hcl 15 _ rfl hq ⟨14, .data⟩ (by simp) rfl) ⟨13, .data⟩ (by simp) rfl); rw [hL] at hz; cases hz))) rfl
    · rintro L fa wx h hcl hL hw2
      obtain ⟨b0, e0, z0, l0⟩ := h.new (Bool.eq_false_iff.2 fun hq => by have hz := (hcl 15 _ rfl hq ⟨14, .data⟩ (by simp) rfl); rw [hL] at hz; cases hz) (hw2 ⟨9, .data⟩ (by simp) rfl) rfl rfl
      obtain ⟨b1, o1, e1, mm1⟩ := h.ptr (Bool.eq_false_iff.2 fun hq => by have hz := (hcl 15 _ rfl hq ⟨14, .data⟩ (by simp) rfl); rw [hL] at hz; cases hz) (hw2 ⟨11, .data⟩ (by simp) rfl) rfl rfl
      obtain ⟨b2, o2, e2, mm2⟩ := h.ptr (Bool.eq_false_iff.2 fun hq => by have hz := (hcl 15 _ rfl hq ⟨14, .data⟩ (by simp) rfl); rw [hL] at hz; cases hz) (hw2 ⟨13, .data⟩ (by simp) rfl) rfl rfl
      exact rp_put h (by decide) rfl rfl rfl (by decide) (by decide) (Bool.eq_false_iff.2 fun hq => by have hz := (hcl 15 _ rfl hq ⟨14, .data⟩ (by simp) rfl); rw [hL] at hz; cases hz) rfl (run_call3 (eval_G e0) (eval_G e1) (eval_G e2) callIMul) (hw2 ⟨9, .data⟩ (by simp) rfl) rfl rfl e0 (mul_put z0 mm1 mm2 (by omega) (by omega)) rfl (al_of (bad := [14]) rfl (by
        intro k hk
        simp only [List.mem_cons, List.not_mem_nil, or_false] at hk
        rcases hk with rfl
        · exact hL))
    · rintro L fa wx h hcl hL hw2
      obtain ⟨b1, o1, e1, mm1⟩ := h.ptr hL (hw2 ⟨8, .data⟩ (by simp) rfl) rfl rfl
      obtain ⟨b2, o2, e2, mm2⟩ := h.ptr hL (hw2 ⟨14, .data⟩ (by simp) rfl) rfl rfl
      exact rp_last h (by decide) rfl rfl rfl (by decide) hL rfl (run_call3 (eval_G (show G fa 7 = .pointer (some ⟨p, 0, none⟩) from h.lit (hw2 ⟨0, .data⟩ (by simp) rfl) rfl rfl)) (eval_G e1) (eval_G e2) callFrac) (unhide SF wx _ _ _ _ (h.old hL) mm1 mm2) rfl
    · rintro L fa wx h hcl hL hw2
      exact rp_val h (by decide) rfl rfl rfl (by decide) (by decide) rfl (run_asg (eval_G (show G fa 22 = .pointer (some ⟨p, 0, none⟩) from h.lit (hw2 ⟨15, .data⟩ (by simp) rfl) rfl rfl))) rfl
  case done =>
    rintro L f1 w3 h hall
    have q6 : G f1 6 = .pointer (some ⟨p, 0, none⟩) := h.lit (i := 16) (hall 16 (by simp)) rfl rfl
    have HF := hide (h.fin (hall 15 (by simp)))
    rw [fr23 h.size h.defs, q6]
    clear h hall q6
    go_wp2
    go_ret
    exact ⟨rfl, unhide HF⟩

end Go.Proofs.YtibkemolmpcdcaaDoor

/- Walks: ratios: Add, Sub (written by gen_bz5.py). -/
namespace Go.Proofs.YtibkemolmpcdcaaDoor
open Go.RowKit

theorem fr33 {a : Act} (hs : a.tmps.size = 33) (hd : a.defers = []) : a = { tmps := #[G a 0, G a 1, G a 2, G a 3, G a 4, G a 5, G a 6, G a 7, G a 8, G a 9, G a 10, G a 11, G a 12, G a 13, G a 14, G a 15, G a 16, G a 17, G a 18, G a 19, G a 20, G a 21, G a 22, G a 23, G a 24, G a 25, G a 26, G a 27, G a 28, G a 29, G a 30, G a 31, G a 32], defers := [] } := frame_is hs hd

end Go.Proofs.YtibkemolmpcdcaaDoor

/- Walks: Abs of whole numbers; ratios: SetInt, SetInt64, NewRat, Num, Denom. -/
namespace Go.Proofs.YtibkemolmpcdcaaDoor
open Go.RowKit

theorem ZA.newR (w : World) : ZA (w.alloc (.cells #[.bool false, .slice none 0 0, .bool false, .slice none 0 0] 73)) w.heap.size 2 :=
  ⟨#[.bool false, .slice none 0 0, .bool false, .slice none 0 0], 73, by show (w.heap.push _)[w.heap.size]? = _; simp, by decide, by simp⟩

set_option maxHeartbeats 2000000 in
theorem rsetInt_any (p bx ox : Nat) (x : Int) (w : World) (hz : ZA w p 2) (hx : IA w bx ox x) (lx : Ln x ≤ 20000) :
    Calls Tryd.prog 46 #[.pointer (some ⟨p, 0, none⟩), .pointer (some ⟨bx, ox, none⟩)] w fun e w' => e = .returned (.pointer (some ⟨p, 0, none⟩)) ∧ RV w' p x 1 ∧ Blk p w w' := by
  have NI := hide (newInt_any 1 w (by omega) (by omega))
  have HX := hide hx
  have SF := hide (frac_last (A := x) (B := 1) (N := x) (D := 1) hz (by omega) (by omega) (Nat.le_trans (Ln_small (by decide)) (by omega)) rfl (Nat.le_refl _))
  clear hx hz
  go_enter Tryd.func46, Tryd.ntmps46
  go_wp2_with fail
  refine (unhide NI).mono ?_
  rintro e w1 ⟨rfl, h1, hb⟩
  have CF := hide (unhide SF w1 _ _ _ _ hb ((unhide HX).below hb) h1)
  clear h1 hb
  go_wp2_with fail
  refine (unhide CF).mono ?_
  rintro e w2 ⟨rfl, hr, hk⟩
  have HR := hide hr
  have HK := hide hk
  clear hr hk
  go_wp2
  go_ret
  exact ⟨rfl, unhide HR, unhide HK⟩

set_option maxHeartbeats 2000000 in
theorem rsetInt64_any (p : Nat) (x : Int) (w : World) (hz : ZA w p 2) (h1 : -9223372036854775808 ≤ x) (h2 : x ≤ 9223372036854775807) :
    Calls Tryd.prog 45 #[.pointer (some ⟨p, 0, none⟩), .int .i64 x] w fun e w' => e = .returned (.pointer (some ⟨p, 0, none⟩)) ∧ RV w' p x 1 ∧ Blk p w w' := by
  have NI := hide (newInt_any x w h1 h2)
  have lx : Ln x ≤ 2 := Ln_small (by omega)
  have SF := hide (frac_last (A := x) (B := 1) (N := x) (D := 1) hz (by omega) (by omega) (Nat.le_trans (Ln_small (by decide)) (by omega)) rfl (Nat.le_refl _))
  clear hz
  go_enter Tryd.func45, Tryd.ntmps45
  go_wp2_with fail
  refine (unhide NI).mono ?_
  rintro e w1 ⟨rfl, i1, hb⟩
  have N2 := hide (newInt_any 1 w1 (by omega) (by omega))
  have HI := hide i1
  have HB := hide hb
  clear i1 hb
  go_wp2_with fail
  refine (unhide N2).mono ?_
  rintro e w2 ⟨rfl, i2, hb2⟩
  have CF := hide (unhide SF w2 _ _ _ _ (below_step (unhide HB) hb2) ((unhide HI).below hb2) i2)
  clear i2 hb2
  go_wp2_with fail
  refine (unhide CF).mono ?_
  rintro e w3 ⟨rfl, hr, hk⟩
  have HR := hide hr
  have HK := hide hk
  clear hr hk
  go_wp2
  go_ret
  exact ⟨rfl, unhide HR, unhide HK⟩

theorem newInt_at (x : Int) (w : World) (n : Nat) (hn : w.heap.size = n) (h1 : -9223372036854775808 ≤ x) (h2 : x ≤ 9223372036854775807) :
    Calls Tryd.prog 49 #[.int .i64 x] w fun e w' => e = .returned (.pointer (some ⟨n, 0, none⟩)) ∧ IA w' n 0 x ∧ Below w.heap.size w w' := by
  subst hn
  exact newInt_any x w h1 h2

/-- two that stand in the same ratio compare alike -/
theorem icmp_cross {x y X Y K M : Int} (hK : 0 < K) (hM : 0 < M) (ex : x * K = X * M) (ey : y * K = Y * M) : icmp x y = icmp X Y := by
  unfold icmp
  rcases Int.lt_trichotomy x y with h | h | h
  · have h1 : X * M < Y * M := by rw [← ex, ← ey]; exact Int.mul_lt_mul_of_pos_right h hK
    have h2 : X < Y := Int.lt_of_mul_lt_mul_right h1 (by omega)
    rw [if_pos h, if_pos h2]
  · have h1 : X * M = Y * M := by rw [← ex, ← ey, h]
    have h2 : X = Y := Int.eq_of_mul_eq_mul_right (by omega) h1
    rw [if_neg (by omega), if_pos h, if_neg (by omega), if_pos h2]
  · have h1 : Y * M < X * M := by rw [← ex, ← ey]; exact Int.mul_lt_mul_of_pos_right h hK
    have h2 : Y < X := Int.lt_of_mul_lt_mul_right h1 (by omega)
    rw [if_neg (by omega), if_neg (by omega), if_neg (by omega), if_neg (by omega)]
theorem icmp_zero {x y : Int} : icmp x y = 0 ↔ x = y := by
  unfold icmp
  split
  · constructor
    · intro h; omega
    · intro h; omega
  · split
    · rename_i h; simp [h]
    · rename_i h; constructor
      · intro g; omega
      · intro g; exact absurd g h
end Go.Proofs.YtibkemolmpcdcaaDoor

/- Walks: ratios: Neg, Abs, Cmp (written by gen_bz8.py). -/
namespace Go.Proofs.YtibkemolmpcdcaaDoor
open Go.RowKit

theorem callINeg (zs : Array Value) (w : World) : Sem.run Tryd.prog (callFunc 64 zs) w = .ok (.enter 64 zs) w := by simp [go_sem]

theorem callICmp (zs : Array Value) (w : World) : Sem.run Tryd.prog (callFunc 52 zs) w = .ok (.enter 52 zs) w := by simp [go_sem]

theorem abs_ratio {n d N D : Int} (hD : 0 < D) (hd : 0 < d) (e : n * D = N * d) : (n.natAbs : Int) * D = (N.natAbs : Int) * d := by
  have : n.natAbs * D.natAbs = N.natAbs * d.natAbs := by rw [← Int.natAbs_mul, ← Int.natAbs_mul, e]
  have h : ((n.natAbs * D.natAbs : Nat) : Int) = ((N.natAbs * d.natAbs : Nat) : Int) := by rw [this]
  rw [Int.natCast_mul, Int.natCast_mul] at h
  rwa [show ((D.natAbs : Nat) : Int) = D by omega, show ((d.natAbs : Nat) : Int) = d by omega] at h

theorem fr16 {a : Act} (hs : a.tmps.size = 16) (hd : a.defers = []) : a = { tmps := #[G a 0, G a 1, G a 2, G a 3, G a 4, G a 5, G a 6, G a 7, G a 8, G a 9, G a 10, G a 11, G a 12, G a 13, G a 14, G a 15], defers := [] } := frame_is hs hd

set_option maxRecDepth 100000 in
set_option maxHeartbeats 4000000 in
theorem rcmp_any (px py : Nat) (N1 D1 N2 D2 : Int) (w : World) (hx : RV w px N1 D1) (hy : RV w py N2 D2) (d1 : 0 < D1) (d2 : 0 < D2) (lx : Ln N1 ≤ 20000) (kx : Ln D1 ≤ 20000) (ly : Ln N2 ≤ 20000) (ky : Ln D2 ≤ 20000) :
    Calls Tryd.prog 39 #[.pointer (some ⟨px, 0, none⟩), .pointer (some ⟨py, 0, none⟩)] w fun e w' => e = .returned (.int .i64 (icmp (N1 * D2) (N2 * D1))) ∧ Below w.heap.size w w' := by
  obtain ⟨n1, m1, qx, e1, g1⟩ := hx
  obtain ⟨n2, m2, qy, e2, g2⟩ := hy
  have r1 := Ln_mono (ratio_le (by omega) e1 g1)
  have r2 := Ln_mono (ratio_le (by omega) e2 g2)
  have r3 := Ln_mono g1
  have r4 := Ln_mono g2
  have p1 := qx.pos
  have p2 := qy.pos
  have key : Hid (icmp (n1 * m2) (n2 * m1) = icmp (N1 * D2) (N2 * D1)) := hide (icmp_cross (K := D1 * D2) (M := m1 * m2) (Int.mul_pos d1 d2) (Int.mul_pos p1 p2) (by rw [show n1 * m2 * (D1 * D2) = (n1 * D1) * (m2 * D2) by grind, e1]; grind) (by rw [show n2 * m1 * (D1 * D2) = (n2 * D2) * (m1 * D1) by grind, e2]; grind))
  have C1 := hide (den_q px n1 m1 w qx)
  have HX := hide qx
  have HY := hide qy
  clear qx qy e1 e2
  go_enter Tryd.func39, Tryd.ntmps39
  go_wp2_with fail
  refine (unhide C1).mono ?_
  rintro e w1 ⟨b1, o1, rfl, i1, -, hb1⟩
  have C2 := hide (den_q py n2 m2 w1 ((unhide HY).below hb1))
  have HI1 := hide i1
  have HB1 := hide hb1
  clear i1 hb1
  go_wp2_with fail
  refine (unhide C2).mono ?_
  rintro e w2 ⟨b2, o2, rfl, i2, -, hb2⟩
  have CC := hide (icmp_any b1 o1 b2 o2 m1 m2 w2 ((unhide HI1).below hb2) i2)
  have HB2 := hide (below_step (unhide HB1) hb2)
  clear i2 hb2
  go_wp2_with fail
  refine (unhide CC).mono ?_
  rintro e w3 ⟨rfl, hb3⟩
  have B3 := below_step (unhide HB2) hb3
  have HX3 := hide ((unhide HX).below B3)
  have HY3 := hide ((unhide HY).below B3)
  have HB3 := hide B3
  have DX3 := hide (den_make (unhide HX3))
  have DY3 := hide (den_make (unhide HY3))
  have t1 := Ln_mul n1 m2
  have t2 := Ln_mul n2 m1
  clear hb3 B3
  by_cases hm : m1 = m2
  · have g : (icmp m1 m2 == 0) = true := by rw [beq_iff_eq]; exact icmp_zero.2 hm
    have k2 : Hid (icmp n1 n2 = icmp (n1 * m2) (n2 * m1)) := hide (by subst hm; exact icmp_cross (K := m1) (M := 1) p1 (by omega) (by rw [Int.mul_one]) (by rw [Int.mul_one]))
    clear hm
    go_upto_region 2 with fail
    refine frame_intro (fun a => G a 0 = .pointer (some ⟨px, 0, none⟩) ∧ G a 1 = .pointer (some ⟨py, 0, none⟩) ∧ a.tmps.size = 33 ∧ a.defers = []) ⟨rfl, rfl, rfl, rfl⟩ ?_
    rintro f0 ⟨s0, s1, hsz, hdf⟩
    refine region_any (I := RP w3 f0 33 [11, 12, 13, 14, 15, 16, 17, 4] 99 (fun _ => True) [.lit (.pointer (some ⟨px, 0, none⟩)), .lit (.pointer (some ⟨px, 0, none⟩)), .lit (.pointer (some ⟨px, 0, none⟩)), .lit (.pointer (some ⟨py, 0, none⟩)), .lit (.pointer (some ⟨py, 0, none⟩)), .lit (.pointer (some ⟨py, 0, none⟩)), .lit (.int .i64 (icmp n1 n2)), .lit (.int .i64 (icmp n1 n2))]) (by kernel_rfl) ?wait ?step ?done ?start
    case wait => exact ⟨by simp, by simp, by simp, by simp, by simp, by simp, by simp, by simp, trivial⟩
    case start => exact RP.start hsz hdf ((Below.refl _ _).drew)
    case step =>
      refine ⟨?_, ?_, ?_, ?_, ?_, ?_, ?_, ?_, trivial⟩
      · rintro L fa wx h hcl hL hw2
        exact rp_val h (by decide) rfl rfl rfl (by decide) (by decide) rfl (run_mv (eval_G ((h.keep (s := 0) (by decide)).trans s0))) rfl
      · rintro L fa wx h hcl hL hw2
        exact rp_val h (by decide) rfl rfl rfl (by decide) (by decide) rfl (run_nil (eval_G (show G fa 11 = .pointer (some ⟨px, 0, none⟩) from h.lit (hw2 ⟨0, .data⟩ (by simp) rfl) rfl rfl))) rfl
      · rintro L fa wx h hcl hL hw2
        exact rp_val h (by decide) rfl rfl rfl (by decide) (by decide) rfl (run_fldA (eval_G (show G fa 12 = .pointer (some ⟨px, 0, none⟩) from h.lit (hw2 ⟨1, .data⟩ (by simp) rfl) rfl rfl))) rfl
      · rintro L fa wx h hcl hL hw2
        exact rp_val h (by decide) rfl rfl rfl (by decide) (by decide) rfl (run_mv (eval_G ((h.keep (s := 1) (by decide)).trans s1))) rfl
      · rintro L fa wx h hcl hL hw2
        exact rp_val h (by decide) rfl rfl rfl (by decide) (by decide) rfl (run_nil (eval_G (show G fa 14 = .pointer (some ⟨py, 0, none⟩) from h.lit (hw2 ⟨3, .data⟩ (by simp) rfl) rfl rfl))) rfl
      · rintro L fa wx h hcl hL hw2
        exact rp_val h (by decide) rfl rfl rfl (by decide) (by decide) rfl (run_fldA (eval_G (show G fa 15 = .pointer (some ⟨py, 0, none⟩) from h.lit (hw2 ⟨4, .data⟩ (by simp) rfl) rfl rfl))) rfl
      · rintro L fa wx h hcl hL hw2
        exact rp_read h (by decide) rfl rfl rfl (by decide) (by decide) (h.nogi (by decide)) rfl (run_call2 (eval_G (show G fa 13 = .pointer (some ⟨px, 0, none⟩) from h.lit (hw2 ⟨2, .data⟩ (by simp) rfl) rfl rfl)) (eval_G (show G fa 16 = .pointer (some ⟨py, 0, none⟩) from h.lit (hw2 ⟨5, .data⟩ (by simp) rfl) rfl rfl)) callICmp) (icmp_any _ _ _ _ n1 n2 wx ((unhide HX3).num.below (h.old (h.nogi (by decide)))) ((unhide HY3).num.below (h.old (h.nogi (by decide))))) rfl
      · rintro L fa wx h hcl hL hw2
        exact rp_val h (by decide) rfl rfl rfl (by decide) (by decide) rfl (run_asg (eval_G (show G fa 17 = .int .i64 (icmp n1 n2) from h.lit (hw2 ⟨6, .data⟩ (by simp) rfl) rfl rfl))) rfl
    case done =>
      rintro L f1 w4 h hall
      have q4 : G f1 4 = .int .i64 (icmp n1 n2) := h.lit (i := 7) (hall 7 (by simp)) rfl rfl
      have HO := hide (h.old (h.nogi (by decide)))
      rw [fr33 h.size h.defs, q4]
      clear h hall q4
      go_wp2
      go_ret
      exact ⟨congrArg (fun z => Ending.returned (Value.int .i64 z)) ((unhide k2).trans (unhide key)), below_step (unhide HB3) (unhide HO)⟩
  · have g : (icmp m1 m2 == 0) = false := by rw [beq_eq_false_iff_ne]; exact fun h => hm (icmp_zero.1 h)
    clear hm
    go_upto_region 3 with fail
    refine frame_intro (fun a => G a 0 = .pointer (some ⟨px, 0, none⟩) ∧ G a 1 = .pointer (some ⟨py, 0, none⟩) ∧ a.tmps.size = 33 ∧ a.defers = []) ⟨rfl, rfl, rfl, rfl⟩ ?_
    rintro f0 ⟨s0, s1, hsz, hdf⟩
    refine region_any (I := RP w3 f0 33 [18, 19, 20, 21, 22, 23, 24, 25, 26, 27, 28, 29, 30, 31, 32, 4] 99 (fun _ => True) [.new 0 0, .lit (.pointer (some ⟨px, 0, none⟩)), .lit (.pointer (some ⟨px, 0, none⟩)), .lit (.pointer (some ⟨px, 0, none⟩)), .lit (.pointer (some ⟨py, 0, none⟩)), .ptr 5 (pI m2), .ptr 0 (pI (n1 * m2)), .new 7 0, .lit (.pointer (some ⟨py, 0, none⟩)), .lit (.pointer (some ⟨py, 0, none⟩)), .lit (.pointer (some ⟨py, 0, none⟩)), .lit (.pointer (some ⟨px, 0, none⟩)), .ptr 12 (pI m1), .ptr 7 (pI (n2 * m1)), .lit (.int .i64 (icmp (n1 * m2) (n2 * m1))), .lit (.int .i64 (icmp (n1 * m2) (n2 * m1)))]) (by kernel_rfl) ?wait ?step ?done ?start
    case wait => exact ⟨by simp, by simp, by simp, by simp, by simp, by simp, by simp, by simp, by simp, by simp, by simp, by simp, by simp, by simp, by simp, by simp, trivial⟩
    case start => exact RP.start hsz hdf ((Below.refl _ _).drew)
    case step =>
      refine ⟨?_, ?_, ?_, ?_, ?_, ?_, ?_, ?_, ?_, ?_, ?_, ?_, ?_, ?_, ?_, ?_, trivial⟩
      · rintro L fa wx h hcl hL hw2
        exact rp_new h (by decide) rfl rfl rfl (by decide) (by decide) (h.nogi (by decide)) rfl run_newI ZA.new rfl
      · rintro L fa wx h hcl hL hw2
        exact rp_val h (by decide) rfl rfl rfl (by decide) (by decide) rfl (run_mv (eval_G ((h.keep (s := 0) (by decide)).trans s0))) rfl
      · rintro L fa wx h hcl hL hw2
        exact rp_val h (by decide) rfl rfl rfl (by decide) (by decide) rfl (run_nil (eval_G (show G fa 19 = .pointer (some ⟨px, 0, none⟩) from h.lit (hw2 ⟨1, .data⟩ (by simp) rfl) rfl rfl))) rfl
      · rintro L fa wx h hcl hL hw2
        exact rp_val h (by decide) rfl rfl rfl (by decide) (by decide) rfl (run_fldA (eval_G (show G fa 20 = .pointer (some ⟨px, 0, none⟩) from h.lit (hw2 ⟨2, .data⟩ (by simp) rfl) rfl rfl))) rfl
      · rintro L fa wx h hcl hL hw2
        exact rp_val h (by decide) rfl rfl rfl (by decide) (by decide) rfl (run_mv (eval_G ((h.keep (s := 1) (by decide)).trans s1))) rfl
      · rintro L fa wx h hcl hL hw2
        exact rp_make h (by decide) rfl rfl rfl (by decide) (by decide) (h.nogi (by decide)) rfl (run_call1 (eval_G (show G fa 22 = .pointer (some ⟨py, 0, none⟩) from h.lit (hw2 ⟨4, .data⟩ (by simp) rfl) rfl rfl)) callDen) (unhide DY3 wx (h.old (h.nogi (by decide)))) rfl
      · rintro L fa wx h hcl hL hw2
        obtain ⟨b0, e0, z0, l0⟩ := h.new (h.nogi (by decide)) (hw2 ⟨0, .data⟩ (by simp) rfl) rfl rfl
        obtain ⟨b2, o2, e2, mm2⟩ := h.ptr (h.nogi (by decide)) (hw2 ⟨5, .data⟩ (by simp) rfl) rfl rfl
        exact rp_put h (by decide) rfl rfl rfl (by decide) (by decide) (h.nogi (by decide)) rfl (run_call3 (eval_G e0) (eval_G (show G fa 21 = .pointer (some ⟨px, 0, none⟩) from h.lit (hw2 ⟨3, .data⟩ (by simp) rfl) rfl rfl)) (eval_G e2) callIMul) (hw2 ⟨0, .data⟩ (by simp) rfl) rfl rfl e0 (mul_put z0 ((unhide HX3).num.below (h.old (h.nogi (by decide)))) mm2 (by omega) (by omega)) rfl (al_of (bad := [6]) rfl (by
        intro k hk
        simp only [List.mem_cons, List.not_mem_nil, or_false] at hk
        rcases hk with rfl
        · exact hL))
      · rintro L fa wx h hcl hL hw2
        exact rp_new h (by decide) rfl rfl rfl (by decide) (by decide) (h.nogi (by decide)) rfl run_newI ZA.new rfl
      · rintro L fa wx h hcl hL hw2
        exact rp_val h (by decide) rfl rfl rfl (by decide) (by decide) rfl (run_mv (eval_G ((h.keep (s := 1) (by decide)).trans s1))) rfl
      · rintro L fa wx h hcl hL hw2
        exact rp_val h (by decide) rfl rfl rfl (by decide) (by decide) rfl (run_nil (eval_G (show G fa 26 = .pointer (some ⟨py, 0, none⟩) from h.lit (hw2 ⟨8, .data⟩ (by simp) rfl) rfl rfl))) rfl
      · rintro L fa wx h hcl hL hw2
        exact rp_val h (by decide) rfl rfl rfl (by decide) (by decide) rfl (run_fldA (eval_G (show G fa 27 = .pointer (some ⟨py, 0, none⟩) from h.lit (hw2 ⟨9, .data⟩ (by simp) rfl) rfl rfl))) rfl
      · rintro L fa wx h hcl hL hw2
        exact rp_val h (by decide) rfl rfl rfl (by decide) (by decide) rfl (run_mv (eval_G ((h.keep (s := 0) (by decide)).trans s0))) rfl
      · rintro L fa wx h hcl hL hw2
        exact rp_make h (by decide) rfl rfl rfl (by decide) (by decide) (h.nogi (by decide)) rfl (run_call1 (eval_G (show G fa 29 = .pointer (some ⟨px, 0, none⟩) from h.lit (hw2 ⟨11, .data⟩ (by simp) rfl) rfl rfl)) callDen) (unhide DX3 wx (h.old (h.nogi (by decide)))) rfl
      · rintro L fa wx h hcl hL hw2
        obtain ⟨b0, e0, z0, l0⟩ := h.new (h.nogi (by decide)) (hw2 ⟨7, .data⟩ (by simp) rfl) rfl rfl
        obtain ⟨b2, o2, e2, mm2⟩ := h.ptr (h.nogi (by decide)) (hw2 ⟨12, .data⟩ (by simp) rfl) rfl rfl
        exact rp_put h (by decide) rfl rfl rfl (by decide) (by decide) (h.nogi (by decide)) rfl (run_call3 (eval_G e0) (eval_G (show G fa 28 = .pointer (some ⟨py, 0, none⟩) from h.lit (hw2 ⟨10, .data⟩ (by simp) rfl) rfl rfl)) (eval_G e2) callIMul) (hw2 ⟨7, .data⟩ (by simp) rfl) rfl rfl e0 (mul_put z0 ((unhide HY3).num.below (h.old (h.nogi (by decide)))) mm2 (by omega) (by omega)) rfl (al_of (bad := [13]) rfl (by
        intro k hk
        simp only [List.mem_cons, List.not_mem_nil, or_false] at hk
        rcases hk with rfl
        · exact hL))
      · rintro L fa wx h hcl hL hw2
        obtain ⟨b0, o0, e0, mm0⟩ := h.ptr (h.nogi (by decide)) (hw2 ⟨6, .data⟩ (by simp) rfl) rfl rfl
        obtain ⟨b1, o1, e1, mm1⟩ := h.ptr (h.nogi (by decide)) (hw2 ⟨13, .data⟩ (by simp) rfl) rfl rfl
        exact rp_read h (by decide) rfl rfl rfl (by decide) (by decide) (h.nogi (by decide)) rfl (run_call2 (eval_G e0) (eval_G e1) callICmp) (icmp_any _ _ _ _ (n1 * m2) (n2 * m1) wx mm0 mm1) rfl
      · rintro L fa wx h hcl hL hw2
        exact rp_val h (by decide) rfl rfl rfl (by decide) (by decide) rfl (run_asg (eval_G (show G fa 32 = .int .i64 (icmp (n1 * m2) (n2 * m1)) from h.lit (hw2 ⟨14, .data⟩ (by simp) rfl) rfl rfl))) rfl
    case done =>
      rintro L f1 w4 h hall
      have q4 : G f1 4 = .int .i64 (icmp (n1 * m2) (n2 * m1)) := h.lit (i := 15) (hall 15 (by simp)) rfl rfl
      have HO := hide (h.old (h.nogi (by decide)))
      rw [fr33 h.size h.defs, q4]
      clear h hall q4
      go_wp2
      go_ret
      exact ⟨congrArg (fun z => Ending.returned (Value.int .i64 z)) (unhide key), below_step (unhide HB3) (unhide HO)⟩

end Go.Proofs.YtibkemolmpcdcaaDoor

/- Walks: the document's answer: Ten, Rat2, Down. -/
namespace Go.Proofs.YtibkemolmpcdcaaDoor
open Go.RowKit

theorem Bl2.low {b m B : Nat} {w w' : World} (h : Bl2 b m w w') (hb : B ≤ b) (hm : B ≤ m) (hw : B ≤ w.heap.size) : Below B w w' := ⟨h.os, h.tape, h.output, h.size, fun k hk => h.block k (by omega) (by omega) (by omega)⟩
theorem Ln_ten (k : Nat) : Ln ((10 : Int) ^ k) ≤ k + 1 := by
  apply Ln_le
  rw [Int.natAbs_pow]
  have h1 : (10 : Int).natAbs ^ k ≤ 4294967296 ^ k := Nat.pow_le_pow_left (by decide) k
  have h2 : 4294967296 ^ k < 4294967296 ^ (k + 1) := Nat.pow_lt_pow_right (by omega) (by omega)
  omega

set_option maxHeartbeats 2000000 in
theorem ten_any (n : Int) (w : World) (h1 : -200 ≤ n) (h2 : n ≤ 200) :
    Calls Tryd.prog 47 #[.int .i64 n] w fun e w' => e = .returned (.pointer (some ⟨w.heap.size, 0, none⟩)) ∧ IA w' w.heap.size 0 ((10 : Int) ^ n.toNat) ∧ Below w.heap.size w w' := by
  have NI := hide (newInt_any 1 w (by omega) (by omega))
  go_enter Tryd.func47, Tryd.ntmps47
  go_wp2_with fail
  refine (unhide NI).mono ?_
  rintro e w1 ⟨rfl, i1, hb1⟩
  have HI := hide i1
  have HB := hide hb1
  clear i1 hb1 NI
  go_wp2_with fail
  go_loopw [0] (fun i wr => ∃ k : Nat, k ≤ n.toNat ∧ i = .int .i64 (n - k) ∧ Hid (IA wr w.heap.size 0 ((10 : Int) ^ k)) ∧ Hid (Below w.heap.size w wr)) (fun i _ => (intOf i).toNat)
  case atStart => exact ⟨0, Nat.zero_le _, by simp, HI, HB⟩
  case round =>
    obtain ⟨k, hk, rfl, HI2, HB2⟩ := hrel
    clear HI HB
    by_cases g : 0 < n - (k : Int)
    · have hs := (unhide HB2).size
      have N2 := hide (newInt_any 10 wr (by omega) (by omega))
      go_wp2_with fail
      refine (unhide N2).mono ?_
      rintro e w2 ⟨rfl, i2, hb2⟩
      have lk := Ln_ten k
      have MU := hide (imul_any w.heap.size 0 w.heap.size 0 wr.heap.size 0 ((10 : Int) ^ k) 10 w2 ((unhide HI2).place.below hb2) ((unhide HI2).below hb2) i2 (by unfold Ln at lk; omega) (len_small (by decide)))
      have HB3 := hide (below_step (unhide HB2) hb2)
      clear i2 hb2 N2 lk
      go_wp2_with fail
      refine (unhide MU).mono ?_
      rintro e w3 ⟨rfl, i3, ho3⟩
      have HI3 := hide i3
      have HB4 := hide ((unhide HB3).trans (ho3.below (Nat.le_refl _) (unhide HB3).size))
      clear i3 ho3 MU
      go_wp2
      refine ⟨⟨k + 1, by omega, by congr 1; omega, hide ?_, HB4⟩, ?_⟩
      · rw [Int.pow_succ]; exact unhide HI3
      · simp [intOf]; omega
    · have HE : Hid (n.toNat = k) := hide (by omega)
      go_wp2
      go_ret
      rw [unhide HE]
      exact ⟨rfl, unhide HI2, unhide HB2⟩
end Go.Proofs.YtibkemolmpcdcaaDoor
