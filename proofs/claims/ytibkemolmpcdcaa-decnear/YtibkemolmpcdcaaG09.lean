/- Walks: ratios: Neg, Abs, Cmp (written by gen_bz8.py). -/
import Derived.Test.YtibkemolmpcdcaaG08
import Derived.Test.YtibkemolmpcdcaaG01
namespace Go.Proofs.Ytibkemolmpcdcaa
open Go.RowKit

theorem callINeg (zs : Array Value) (w : World) : Sem.run Try.prog (callFunc 49 zs) w = .ok (.enter 49 zs) w := by simp [go_sem]

theorem callIAbs (zs : Array Value) (w : World) : Sem.run Try.prog (callFunc 61 zs) w = .ok (.enter 61 zs) w := by simp [go_sem]

theorem callICmp (zs : Array Value) (w : World) : Sem.run Try.prog (callFunc 58 zs) w = .ok (.enter 58 zs) w := by simp [go_sem]

theorem abs_ratio {n d N D : Int} (hD : 0 < D) (hd : 0 < d) (e : n * D = N * d) : (n.natAbs : Int) * D = (N.natAbs : Int) * d := by
  have : n.natAbs * D.natAbs = N.natAbs * d.natAbs := by rw [← Int.natAbs_mul, ← Int.natAbs_mul, e]
  have h : ((n.natAbs * D.natAbs : Nat) : Int) = ((N.natAbs * d.natAbs : Nat) : Int) := by rw [this]
  rw [Int.natCast_mul, Int.natCast_mul] at h
  rwa [show ((D.natAbs : Nat) : Int) = D by omega, show ((d.natAbs : Nat) : Int) = d by omega] at h

theorem fr16 {a : Act} (hs : a.tmps.size = 16) (hd : a.defers = []) : a = { tmps := #[G a 0, G a 1, G a 2, G a 3, G a 4, G a 5, G a 6, G a 7, G a 8, G a 9, G a 10, G a 11, G a 12, G a 13, G a 14, G a 15], defers := [] } := frame_is hs hd

set_option maxRecDepth 100000 in
set_option maxHeartbeats 4000000 in
theorem rneg_any (p px : Nat) (N1 D1 : Int) (w : World) (hz : ZA w p 2) (hx : RV w px N1 D1) (d1 : D1 ≠ 0) (lx : Ln N1 ≤ 20000) (kx : Ln D1 ≤ 20000) :
    Calls Try.prog 27 #[.pointer (some ⟨p, 0, none⟩), .pointer (some ⟨px, 0, none⟩)] w fun e w' => e = .returned (.pointer (some ⟨p, 0, none⟩)) ∧ RV w' p (-N1) D1 ∧ Blk p w w' := by
  have RS := hide (rset_any p px N1 D1 w hz hx (by omega) lx kx)
  clear hz hx
  go_enter Try.func27, Try.ntmps27
  go_wp2_with fail
  refine (unhide RS).mono ?_
  rintro e w1 ⟨rfl, hr, hk⟩
  obtain ⟨n, d, q, e1, g1⟩ := hr
  have ln : Ln n ≤ Ln N1 := Ln_mono (ratio_le (by omega) e1 g1)
  have hpos := q.pos
  have NG : Hid (∀ wx, Below w1.heap.size w1 wx → Calls Try.prog 49 #[.pointer (some ⟨p, 0, none⟩), .pointer (some ⟨p, 0, none⟩)] wx fun e w' => e = .returned (.pointer (some ⟨p, 0, none⟩)) ∧ RQ w' p (-n) d ∧ Blk p w1 w') := hide fun wx hb => by
    have qx := q.below hb
    refine (ineg_any p 0 p 0 n wx qx.num.place qx.num (by unfold Ln at *; omega)).mono ?_
    rintro e w' ⟨rfl, hi, ho⟩
    refine ⟨rfl, ⟨hi, ?_, hpos⟩, (Blk.of hb).trans ho.blk⟩
    rcases qx.den with h | ⟨h, h2⟩
    · exact .inl (h.out ho qx.num.place (.inr (.inr (by omega))))
    · exact .inr ⟨h.out ho qx.num.place (.inr (.inr (by omega))), h2⟩
  have HE := hide e1
  have HG := hide g1
  have HK := hide hk
  clear q e1 g1 hk
  go_upto_region 2 with fail
  refine frame_intro (fun a => G a 0 = .pointer (some ⟨p, 0, none⟩) ∧ a.tmps.size = 16 ∧ a.defers = []) ⟨rfl, rfl, rfl⟩ ?_
  rintro f0 ⟨s0, hsz, hdf⟩
  refine region_any (I := RP w1 f0 16 [8, 9, 10, 11, 12, 13, 14] 6 (fun w' => RQ w' p (-n) d ∧ Blk p w1 w') [.lit (.pointer (some ⟨p, 0, none⟩)), .lit (.pointer (some ⟨p, 0, none⟩)), .lit (.pointer (some ⟨p, 0, none⟩)), .lit (.pointer (some ⟨p, 0, none⟩)), .lit (.pointer (some ⟨p, 0, none⟩)), .lit (.pointer (some ⟨p, 0, none⟩)), .lit (.pointer (some ⟨p, 0, none⟩))]) (by kernel_rfl) ?wait ?step ?done ?start
  case wait => exact ⟨by simp, by simp, by simp, by simp, by simp, by simp, by simp, trivial⟩
  case start => exact RP.start hsz hdf ((Below.refl _ _).drew)
  case step =>
    refine ⟨?_, ?_, ?_, ?_, ?_, ?_, ?_, trivial⟩
    · rintro L fa wx h hcl hL hw2
      exact rp_val h (by decide) rfl rfl rfl (by decide) (by decide) rfl (run_mv (eval_G ((h.keep (s := 0) (by decide)).trans s0))) rfl
    · rintro L fa wx h hcl hL hw2
      exact rp_val h (by decide) rfl rfl rfl (by decide) (by decide) rfl (run_nil (eval_G (show G fa 8 = .pointer (some ⟨p, 0, none⟩) from h.lit (hw2 ⟨0, .data⟩ (by simp) rfl) rfl rfl))) rfl
    · rintro L fa wx h hcl hL hw2
      exact rp_val h (by decide) rfl rfl rfl (by decide) (by decide) rfl (run_fldA (eval_G (show G fa 9 = .pointer (some ⟨p, 0, none⟩) from h.lit (hw2 ⟨1, .data⟩ (by simp) rfl) rfl rfl))) rfl
    · rintro L fa wx h hcl hL hw2
      exact rp_val h (by decide) rfl rfl rfl (by decide) (by decide) rfl (run_mv (eval_G ((h.keep (s := 0) (by decide)).trans s0))) rfl
    · rintro L fa wx h hcl hL hw2
      exact rp_val h (by decide) rfl rfl rfl (by decide) (by decide) rfl (run_nil (eval_G (show G fa 11 = .pointer (some ⟨p, 0, none⟩) from h.lit (hw2 ⟨3, .data⟩ (by simp) rfl) rfl rfl))) rfl
    · rintro L fa wx h hcl hL hw2
      exact rp_val h (by decide) rfl rfl rfl (by decide) (by decide) rfl (run_fldA (eval_G (show G fa 12 = .pointer (some ⟨p, 0, none⟩) from h.lit (hw2 ⟨4, .data⟩ (by simp) rfl) rfl rfl))) rfl
    · rintro L fa wx h hcl hL hw2
      exact rp_last h (by decide) rfl rfl rfl (by decide) hL rfl (run_call2 (eval_G (show G fa 10 = .pointer (some ⟨p, 0, none⟩) from h.lit (hw2 ⟨2, .data⟩ (by simp) rfl) rfl rfl)) (eval_G (show G fa 13 = .pointer (some ⟨p, 0, none⟩) from h.lit (hw2 ⟨5, .data⟩ (by simp) rfl) rfl rfl)) callINeg) (unhide NG wx (h.old hL)) rfl
  case done =>
    rintro L f1 w3 h hall
    have q0 := (h.keep (s := 0) (by decide)).trans s0
    have HF := hide (h.fin (hall 6 (by simp)))
    rw [fr16 h.size h.defs, q0]
    clear h hall q0
    go_wp2
    go_ret
    exact ⟨rfl, ⟨-n, d, (unhide HF).1, by rw [Int.neg_mul, Int.neg_mul, unhide HE], unhide HG⟩, (unhide HK).trans (unhide HF).2⟩

set_option maxRecDepth 100000 in
set_option maxHeartbeats 4000000 in
theorem rabs_any (p px : Nat) (N1 D1 : Int) (w : World) (hz : ZA w p 2) (hx : RV w px N1 D1) (d1 : 0 < D1) (lx : Ln N1 ≤ 20000) (kx : Ln D1 ≤ 20000) :
    Calls Try.prog 29 #[.pointer (some ⟨p, 0, none⟩), .pointer (some ⟨px, 0, none⟩)] w fun e w' => e = .returned (.pointer (some ⟨p, 0, none⟩)) ∧ RV w' p (N1.natAbs : Int) D1 ∧ Blk p w w' := by
  have RS := hide (rset_any p px N1 D1 w hz hx (by omega) lx kx)
  clear hz hx
  go_enter Try.func29, Try.ntmps29
  go_wp2_with fail
  refine (unhide RS).mono ?_
  rintro e w1 ⟨rfl, hr, hk⟩
  obtain ⟨n, d, q, e1, g1⟩ := hr
  have ln : Ln n ≤ Ln N1 := Ln_mono (ratio_le (by omega) e1 g1)
  have hpos := q.pos
  have NG : Hid (∀ wx, Below w1.heap.size w1 wx → Calls Try.prog 61 #[.pointer (some ⟨p, 0, none⟩), .pointer (some ⟨p, 0, none⟩)] wx fun e w' => e = .returned (.pointer (some ⟨p, 0, none⟩)) ∧ RQ w' p ((n.natAbs : Int)) d ∧ Blk p w1 w') := hide fun wx hb => by
    have qx := q.below hb
    refine (iabs_any p 0 p 0 n wx qx.num.place qx.num (by unfold Ln at *; omega)).mono ?_
    rintro e w' ⟨rfl, hi, ho⟩
    refine ⟨rfl, ⟨hi, ?_, hpos⟩, (Blk.of hb).trans ho.blk⟩
    rcases qx.den with h | ⟨h, h2⟩
    · exact .inl (h.out ho qx.num.place (.inr (.inr (by omega))))
    · exact .inr ⟨h.out ho qx.num.place (.inr (.inr (by omega))), h2⟩
  have HE := hide e1
  have HG := hide g1
  have HK := hide hk
  clear q e1 g1 hk
  go_upto_region 2 with fail
  refine frame_intro (fun a => G a 0 = .pointer (some ⟨p, 0, none⟩) ∧ a.tmps.size = 16 ∧ a.defers = []) ⟨rfl, rfl, rfl⟩ ?_
  rintro f0 ⟨s0, hsz, hdf⟩
  refine region_any (I := RP w1 f0 16 [8, 9, 10, 11, 12, 13, 14] 6 (fun w' => RQ w' p ((n.natAbs : Int)) d ∧ Blk p w1 w') [.lit (.pointer (some ⟨p, 0, none⟩)), .lit (.pointer (some ⟨p, 0, none⟩)), .lit (.pointer (some ⟨p, 0, none⟩)), .lit (.pointer (some ⟨p, 0, none⟩)), .lit (.pointer (some ⟨p, 0, none⟩)), .lit (.pointer (some ⟨p, 0, none⟩)), .lit (.pointer (some ⟨p, 0, none⟩))]) (by kernel_rfl) ?wait ?step ?done ?start
  case wait => exact ⟨by simp, by simp, by simp, by simp, by simp, by simp, by simp, trivial⟩
  case start => exact RP.start hsz hdf ((Below.refl _ _).drew)
  case step =>
    refine ⟨?_, ?_, ?_, ?_, ?_, ?_, ?_, trivial⟩
    · rintro L fa wx h hcl hL hw2
      exact rp_val h (by decide) rfl rfl rfl (by decide) (by decide) rfl (run_mv (eval_G ((h.keep (s := 0) (by decide)).trans s0))) rfl
    · rintro L fa wx h hcl hL hw2
      exact rp_val h (by decide) rfl rfl rfl (by decide) (by decide) rfl (run_nil (eval_G (show G fa 8 = .pointer (some ⟨p, 0, none⟩) from h.lit (hw2 ⟨0, .data⟩ (by simp) rfl) rfl rfl))) rfl
    · rintro L fa wx h hcl hL hw2
      exact rp_val h (by decide) rfl rfl rfl (by decide) (by decide) rfl (run_fldA (eval_G (show G fa 9 = .pointer (some ⟨p, 0, none⟩) from h.lit (hw2 ⟨1, .data⟩ (by simp) rfl) rfl rfl))) rfl
    · rintro L fa wx h hcl hL hw2
      exact rp_val h (by decide) rfl rfl rfl (by decide) (by decide) rfl (run_mv (eval_G ((h.keep (s := 0) (by decide)).trans s0))) rfl
    · rintro L fa wx h hcl hL hw2
      exact rp_val h (by decide) rfl rfl rfl (by decide) (by decide) rfl (run_nil (eval_G (show G fa 11 = .pointer (some ⟨p, 0, none⟩) from h.lit (hw2 ⟨3, .data⟩ (by simp) rfl) rfl rfl))) rfl
    · rintro L fa wx h hcl hL hw2
      exact rp_val h (by decide) rfl rfl rfl (by decide) (by decide) rfl (run_fldA (eval_G (show G fa 12 = .pointer (some ⟨p, 0, none⟩) from h.lit (hw2 ⟨4, .data⟩ (by simp) rfl) rfl rfl))) rfl
    · rintro L fa wx h hcl hL hw2
      exact rp_last h (by decide) rfl rfl rfl (by decide) hL rfl (run_call2 (eval_G (show G fa 10 = .pointer (some ⟨p, 0, none⟩) from h.lit (hw2 ⟨2, .data⟩ (by simp) rfl) rfl rfl)) (eval_G (show G fa 13 = .pointer (some ⟨p, 0, none⟩) from h.lit (hw2 ⟨5, .data⟩ (by simp) rfl) rfl rfl)) callIAbs) (unhide NG wx (h.old hL)) rfl
  case done =>
    rintro L f1 w3 h hall
    have q0 := (h.keep (s := 0) (by decide)).trans s0
    have HF := hide (h.fin (hall 6 (by simp)))
    rw [fr16 h.size h.defs, q0]
    clear h hall q0
    go_wp2
    go_ret
    exact ⟨rfl, ⟨(n.natAbs : Int), d, (unhide HF).1, abs_ratio d1 hpos (unhide HE), unhide HG⟩, (unhide HK).trans (unhide HF).2⟩

set_option maxRecDepth 100000 in
set_option maxHeartbeats 4000000 in
theorem rcmp_any (px py : Nat) (N1 D1 N2 D2 : Int) (w : World) (hx : RV w px N1 D1) (hy : RV w py N2 D2) (d1 : 0 < D1) (d2 : 0 < D2) (lx : Ln N1 ≤ 20000) (kx : Ln D1 ≤ 20000) (ly : Ln N2 ≤ 20000) (ky : Ln D2 ≤ 20000) :
    Calls Try.prog 25 #[.pointer (some ⟨px, 0, none⟩), .pointer (some ⟨py, 0, none⟩)] w fun e w' => e = .returned (.int .i64 (icmp (N1 * D2) (N2 * D1))) ∧ Below w.heap.size w w' := by
  obtain ⟨n1, m1, qx, e1, g1⟩ := hx
  obtain ⟨n2, m2, qy, e2, g2⟩ := hy
  have r1 := Ln_mono (ratio_le (by omega) e1 g1)
  have r2 := Ln_mono (ratio_le (by omega) e2 g2)
  have r3 := Ln_mono g1
  have r4 := Ln_mono g2
  have p1 := qx.pos
  have p2 := qy.pos
  have key : Hid (icmp (n1 * m2) (n2 * m1) = icmp (N1 * D2) (N2 * D1)) := hide (icmp_cross (K := D1 * D2) (M := m1 * m2) (Int.mul_pos d1 d2) (Int.mul_pos p1 p2) (by rw [show n1 * m2 * (D1 * D2) = (n1 * D1) * (m2 * D2) by grind, e1]; grind) (by rw [show n2 * m1 * (D1 * D2) = (n2 * D2) * (m1 * D1) by grind, e2]; grind))
  have C1 := hide (den_q px n1 m1 w qx)
  have HX := hide qx
  have HY := hide qy
  clear qx qy e1 e2
  go_enter Try.func25, Try.ntmps25
  go_wp2_with fail
  refine (unhide C1).mono ?_
  rintro e w1 ⟨b1, o1, rfl, i1, -, hb1⟩
  have C2 := hide (den_q py n2 m2 w1 ((unhide HY).below hb1))
  have HI1 := hide i1
  have HB1 := hide hb1
  clear i1 hb1
  go_wp2_with fail
  refine (unhide C2).mono ?_
  rintro e w2 ⟨b2, o2, rfl, i2, -, hb2⟩
  have CC := hide (icmp_any b1 o1 b2 o2 m1 m2 w2 ((unhide HI1).below hb2) i2)
  have HB2 := hide (below_step (unhide HB1) hb2)
  clear i2 hb2
  go_wp2_with fail
  refine (unhide CC).mono ?_
  rintro e w3 ⟨rfl, hb3⟩
  have B3 := below_step (unhide HB2) hb3
  have HX3 := hide ((unhide HX).below B3)
  have HY3 := hide ((unhide HY).below B3)
  have HB3 := hide B3
  have DX3 := hide (den_make (unhide HX3))
  have DY3 := hide (den_make (unhide HY3))
  have t1 := Ln_mul n1 m2
  have t2 := Ln_mul n2 m1
  clear hb3 B3
  by_cases hm : m1 = m2
  · have g : (icmp m1 m2 == 0) = true := by rw [beq_iff_eq]; exact icmp_zero.2 hm
    have k2 : Hid (icmp n1 n2 = icmp (n1 * m2) (n2 * m1)) := hide (by subst hm; exact icmp_cross (K := m1) (M := 1) p1 (by omega) (by rw [Int.mul_one]) (by rw [Int.mul_one]))
    clear hm
    go_upto_region 2 with fail
    refine frame_intro (fun a => G a 0 = .pointer (some ⟨px, 0, none⟩) ∧ G a 1 = .pointer (some ⟨py, 0, none⟩) ∧ a.tmps.size = 33 ∧ a.defers = []) ⟨rfl, rfl, rfl, rfl⟩ ?_
    rintro f0 ⟨s0, s1, hsz, hdf⟩
    refine region_any (I := RP w3 f0 33 [11, 12, 13, 14, 15, 16, 17, 4] 99 (fun _ => True) [.lit (.pointer (some ⟨px, 0, none⟩)), .lit (.pointer (some ⟨px, 0, none⟩)), .lit (.pointer (some ⟨px, 0, none⟩)), .lit (.pointer (some ⟨py, 0, none⟩)), .lit (.pointer (some ⟨py, 0, none⟩)), .lit (.pointer (some ⟨py, 0, none⟩)), .lit (.int .i64 (icmp n1 n2)), .lit (.int .i64 (icmp n1 n2))]) (by kernel_rfl) ?wait ?step ?done ?start
    case wait => exact ⟨by simp, by simp, by simp, by simp, by simp, by simp, by simp, by simp, trivial⟩
    case start => exact RP.start hsz hdf ((Below.refl _ _).drew)
    case step =>
      refine ⟨?_, ?_, ?_, ?_, ?_, ?_, ?_, ?_, trivial⟩
      · rintro L fa wx h hcl hL hw2
        exact rp_val h (by decide) rfl rfl rfl (by decide) (by decide) rfl (run_mv (eval_G ((h.keep (s := 0) (by decide)).trans s0))) rfl
      · rintro L fa wx h hcl hL hw2
        exact rp_val h (by decide) rfl rfl rfl (by decide) (by decide) rfl (run_nil (eval_G (show G fa 11 = .pointer (some ⟨px, 0, none⟩) from h.lit (hw2 ⟨0, .data⟩ (by simp) rfl) rfl rfl))) rfl
      · rintro L fa wx h hcl hL hw2
        exact rp_val h (by decide) rfl rfl rfl (by decide) (by decide) rfl (run_fldA (eval_G (show G fa 12 = .pointer (some ⟨px, 0, none⟩) from h.lit (hw2 ⟨1, .data⟩ (by simp) rfl) rfl rfl))) rfl
      · rintro L fa wx h hcl hL hw2
        exact rp_val h (by decide) rfl rfl rfl (by decide) (by decide) rfl (run_mv (eval_G ((h.keep (s := 1) (by decide)).trans s1))) rfl
      · rintro L fa wx h hcl hL hw2
        exact rp_val h (by decide) rfl rfl rfl (by decide) (by decide) rfl (run_nil (eval_G (show G fa 14 = .pointer (some ⟨py, 0, none⟩) from h.lit (hw2 ⟨3, .data⟩ (by simp) rfl) rfl rfl))) rfl
      · rintro L fa wx h hcl hL hw2
        exact rp_val h (by decide) rfl rfl rfl (by decide) (by decide) rfl (run_fldA (eval_G (show G fa 15 = .pointer (some ⟨py, 0, none⟩) from h.lit (hw2 ⟨4, .data⟩ (by simp) rfl) rfl rfl))) rfl
      · rintro L fa wx h hcl hL hw2
        exact rp_read h (by decide) rfl rfl rfl (by decide) (by decide) (h.nogi (by decide)) rfl (run_call2 (eval_G (show G fa 13 = .pointer (some ⟨px, 0, none⟩) from h.lit (hw2 ⟨2, .data⟩ (by simp) rfl) rfl rfl)) (eval_G (show G fa 16 = .pointer (some ⟨py, 0, none⟩) from h.lit (hw2 ⟨5, .data⟩ (by simp) rfl) rfl rfl)) callICmp) (icmp_any _ _ _ _ n1 n2 wx ((unhide HX3).num.below (h.old (h.nogi (by decide)))) ((unhide HY3).num.below (h.old (h.nogi (by decide))))) rfl
      · rintro L fa wx h hcl hL hw2
        exact rp_val h (by decide) rfl rfl rfl (by decide) (by decide) rfl (run_asg (eval_G (show G fa 17 = .int .i64 (icmp n1 n2) from h.lit (hw2 ⟨6, .data⟩ (by simp) rfl) rfl rfl))) rfl
    case done =>
      rintro L f1 w4 h hall
      have q4 : G f1 4 = .int .i64 (icmp n1 n2) := h.lit (i := 7) (hall 7 (by simp)) rfl rfl
      have HO := hide (h.old (h.nogi (by decide)))
      rw [fr33 h.size h.defs, q4]
      clear h hall q4
      go_wp2
      go_ret
      exact ⟨congrArg (fun z => Ending.returned (Value.int .i64 z)) ((unhide k2).trans (unhide key)), below_step (unhide HB3) (unhide HO)⟩
  · have g : (icmp m1 m2 == 0) = false := by rw [beq_eq_false_iff_ne]; exact fun h => hm (icmp_zero.1 h)
    clear hm
    go_upto_region 3 with fail
    refine frame_intro (fun a => G a 0 = .pointer (some ⟨px, 0, none⟩) ∧ G a 1 = .pointer (some ⟨py, 0, none⟩) ∧ a.tmps.size = 33 ∧ a.defers = []) ⟨rfl, rfl, rfl, rfl⟩ ?_
    rintro f0 ⟨s0, s1, hsz, hdf⟩
    refine region_any (I := RP w3 f0 33 [18, 19, 20, 21, 22, 23, 24, 25, 26, 27, 28, 29, 30, 31, 32, 4] 99 (fun _ => True) [.new 0 0, .lit (.pointer (some ⟨px, 0, none⟩)), .lit (.pointer (some ⟨px, 0, none⟩)), .lit (.pointer (some ⟨px, 0, none⟩)), .lit (.pointer (some ⟨py, 0, none⟩)), .ptr 5 (pI m2), .ptr 0 (pI (n1 * m2)), .new 7 0, .lit (.pointer (some ⟨py, 0, none⟩)), .lit (.pointer (some ⟨py, 0, none⟩)), .lit (.pointer (some ⟨py, 0, none⟩)), .lit (.pointer (some ⟨px, 0, none⟩)), .ptr 12 (pI m1), .ptr 7 (pI (n2 * m1)), .lit (.int .i64 (icmp (n1 * m2) (n2 * m1))), .lit (.int .i64 (icmp (n1 * m2) (n2 * m1)))]) (by kernel_rfl) ?wait ?step ?done ?start
    case wait => exact ⟨by simp, by simp, by simp, by simp, by simp, by simp, by simp, by simp, by simp, by simp, by simp, by simp, by simp, by simp, by simp, by simp, trivial⟩
    case start => exact RP.start hsz hdf ((Below.refl _ _).drew)
    case step =>
      refine ⟨?_, ?_, ?_, ?_, ?_, ?_, ?_, ?_, ?_, ?_, ?_, ?_, ?_, ?_, ?_, ?_, trivial⟩
      · rintro L fa wx h hcl hL hw2
        exact rp_new h (by decide) rfl rfl rfl (by decide) (by decide) (h.nogi (by decide)) rfl run_newI ZA.new rfl
      · rintro L fa wx h hcl hL hw2
        exact rp_val h (by decide) rfl rfl rfl (by decide) (by decide) rfl (run_mv (eval_G ((h.keep (s := 0) (by decide)).trans s0))) rfl
      · rintro L fa wx h hcl hL hw2
        exact rp_val h (by decide) rfl rfl rfl (by decide) (by decide) rfl (run_nil (eval_G (show G fa 19 = .pointer (some ⟨px, 0, none⟩) from h.lit (hw2 ⟨1, .data⟩ (by simp) rfl) rfl rfl))) rfl
      · rintro L fa wx h hcl hL hw2
        exact rp_val h (by decide) rfl rfl rfl (by decide) (by decide) rfl (run_fldA (eval_G (show G fa 20 = .pointer (some ⟨px, 0, none⟩) from h.lit (hw2 ⟨2, .data⟩ (by simp) rfl) rfl rfl))) rfl
      · rintro L fa wx h hcl hL hw2
        exact rp_val h (by decide) rfl rfl rfl (by decide) (by decide) rfl (run_mv (eval_G ((h.keep (s := 1) (by decide)).trans s1))) rfl
      · rintro L fa wx h hcl hL hw2
        exact rp_make h (by decide) rfl rfl rfl (by decide) (by decide) (h.nogi (by decide)) rfl (run_call1 (eval_G (show G fa 22 = .pointer (some ⟨py, 0, none⟩) from h.lit (hw2 ⟨4, .data⟩ (by simp) rfl) rfl rfl)) callDen) (unhide DY3 wx (h.old (h.nogi (by decide)))) rfl
      · rintro L fa wx h hcl hL hw2
        obtain ⟨b0, e0, z0, l0⟩ := h.new (h.nogi (by decide)) (hw2 ⟨0, .data⟩ (by simp) rfl) rfl rfl
        obtain ⟨b2, o2, e2, mm2⟩ := h.ptr (h.nogi (by decide)) (hw2 ⟨5, .data⟩ (by simp) rfl) rfl rfl
        exact rp_put h (by decide) rfl rfl rfl (by decide) (by decide) (h.nogi (by decide)) rfl (run_call3 (eval_G e0) (eval_G (show G fa 21 = .pointer (some ⟨px, 0, none⟩) from h.lit (hw2 ⟨3, .data⟩ (by simp) rfl) rfl rfl)) (eval_G e2) callIMul) (hw2 ⟨0, .data⟩ (by simp) rfl) rfl rfl e0 (mul_put z0 ((unhide HX3).num.below (h.old (h.nogi (by decide)))) mm2 (by omega) (by omega)) rfl (al_of (bad := [6]) rfl (by
        intro k hk
        simp only [List.mem_cons, List.not_mem_nil, or_false] at hk
        rcases hk with rfl
        · exact hL))
      · rintro L fa wx h hcl hL hw2
        exact rp_new h (by decide) rfl rfl rfl (by decide) (by decide) (h.nogi (by decide)) rfl run_newI ZA.new rfl
      · rintro L fa wx h hcl hL hw2
        exact rp_val h (by decide) rfl rfl rfl (by decide) (by decide) rfl (run_mv (eval_G ((h.keep (s := 1) (by decide)).trans s1))) rfl
      · rintro L fa wx h hcl hL hw2
        exact rp_val h (by decide) rfl rfl rfl (by decide) (by decide) rfl (run_nil (eval_G (show G fa 26 = .pointer (some ⟨py, 0, none⟩) from h.lit (hw2 ⟨8, .data⟩ (by simp) rfl) rfl rfl))) rfl
      · rintro L fa wx h hcl hL hw2
        exact rp_val h (by decide) rfl rfl rfl (by decide) (by decide) rfl (run_fldA (eval_G (show G fa 27 = .pointer (some ⟨py, 0, none⟩) from h.lit (hw2 ⟨9, .data⟩ (by simp) rfl) rfl rfl))) rfl
      · rintro L fa wx h hcl hL hw2
        exact rp_val h (by decide) rfl rfl rfl (by decide) (by decide) rfl (run_mv (eval_G ((h.keep (s := 0) (by decide)).trans s0))) rfl
      · rintro L fa wx h hcl hL hw2
        exact rp_make h (by decide) rfl rfl rfl (by decide) (by decide) (h.nogi (by decide)) rfl (run_call1 (eval_G (show G fa 29 = .pointer (some ⟨px, 0, none⟩) from h.lit (hw2 ⟨11, .data⟩ (by simp) rfl) rfl rfl)) callDen) (unhide DX3 wx (h.old (h.nogi (by decide)))) rfl
      · rintro L fa wx h hcl hL hw2
        obtain ⟨b0, e0, z0, l0⟩ := h.new (h.nogi (by decide)) (hw2 ⟨7, .data⟩ (by simp) rfl) rfl rfl
        obtain ⟨b2, o2, e2, mm2⟩ := h.ptr (h.nogi (by decide)) (hw2 ⟨12, .data⟩ (by simp) rfl) rfl rfl
        exact rp_put h (by decide) rfl rfl rfl (by decide) (by decide) (h.nogi (by decide)) rfl (run_call3 (eval_G e0) (eval_G (show G fa 28 = .pointer (some ⟨py, 0, none⟩) from h.lit (hw2 ⟨10, .data⟩ (by simp) rfl) rfl rfl)) (eval_G e2) callIMul) (hw2 ⟨7, .data⟩ (by simp) rfl) rfl rfl e0 (mul_put z0 ((unhide HY3).num.below (h.old (h.nogi (by decide)))) mm2 (by omega) (by omega)) rfl (al_of (bad := [13]) rfl (by
        intro k hk
        simp only [List.mem_cons, List.not_mem_nil, or_false] at hk
        rcases hk with rfl
        · exact hL))
      · rintro L fa wx h hcl hL hw2
        obtain ⟨b0, o0, e0, mm0⟩ := h.ptr (h.nogi (by decide)) (hw2 ⟨6, .data⟩ (by simp) rfl) rfl rfl
        obtain ⟨b1, o1, e1, mm1⟩ := h.ptr (h.nogi (by decide)) (hw2 ⟨13, .data⟩ (by simp) rfl) rfl rfl
        exact rp_read h (by decide) rfl rfl rfl (by decide) (by decide) (h.nogi (by decide)) rfl (run_call2 (eval_G e0) (eval_G e1) callICmp) (icmp_any _ _ _ _ (n1 * m2) (n2 * m1) wx mm0 mm1) rfl
      · rintro L fa wx h hcl hL hw2
        exact rp_val h (by decide) rfl rfl rfl (by decide) (by decide) rfl (run_asg (eval_G (show G fa 32 = .int .i64 (icmp (n1 * m2) (n2 * m1)) from h.lit (hw2 ⟨14, .data⟩ (by simp) rfl) rfl rfl))) rfl
    case done =>
      rintro L f1 w4 h hall
      have q4 : G f1 4 = .int .i64 (icmp (n1 * m2) (n2 * m1)) := h.lit (i := 15) (hall 15 (by simp)) rfl rfl
      have HO := hide (h.old (h.nogi (by decide)))
      rw [fr33 h.size h.defs, q4]
      clear h hall q4
      go_wp2
      go_ret
      exact ⟨congrArg (fun z => Ending.returned (Value.int .i64 z)) (unhide key), below_step (unhide HB3) (unhide HO)⟩

end Go.Proofs.Ytibkemolmpcdcaa

/- Walks: the document's answer: Ten, Rat2, Down. -/
namespace Go.Proofs.Ytibkemolmpcdcaa
open Go.RowKit

theorem Bl2.low {b m B : Nat} {w w' : World} (h : Bl2 b m w w') (hb : B ≤ b) (hm : B ≤ m) (hw : B ≤ w.heap.size) : Below B w w' := ⟨h.os, h.tape, h.output, h.size, fun k hk => h.block k (by omega) (by omega) (by omega)⟩
theorem Ln_ten (k : Nat) : Ln ((10 : Int) ^ k) ≤ k + 1 := by
  apply Ln_le
  rw [Int.natAbs_pow]
  have h1 : (10 : Int).natAbs ^ k ≤ 4294967296 ^ k := Nat.pow_le_pow_left (by decide) k
  have h2 : 4294967296 ^ k < 4294967296 ^ (k + 1) := Nat.pow_lt_pow_right (by omega) (by omega)
  omega

set_option maxHeartbeats 2000000 in
theorem ten_any (n : Int) (w : World) (h1 : -200 ≤ n) (h2 : n ≤ 200) :
    Calls Try.prog 31 #[.int .i64 n] w fun e w' => e = .returned (.pointer (some ⟨w.heap.size, 0, none⟩)) ∧ IA w' w.heap.size 0 ((10 : Int) ^ n.toNat) ∧ Below w.heap.size w w' := by
  have NI := hide (newInt_any 1 w (by omega) (by omega))
  go_enter Try.func31, Try.ntmps31
  go_wp2_with fail
  refine (unhide NI).mono ?_
  rintro e w1 ⟨rfl, i1, hb1⟩
  have HI := hide i1
  have HB := hide hb1
  clear i1 hb1 NI
  go_wp2_with fail
  go_loopw [0] (fun i wr => ∃ k : Nat, k ≤ n.toNat ∧ i = .int .i64 (n - k) ∧ Hid (IA wr w.heap.size 0 ((10 : Int) ^ k)) ∧ Hid (Below w.heap.size w wr)) (fun i _ => (intOf i).toNat)
  case atStart => exact ⟨0, Nat.zero_le _, by simp, HI, HB⟩
  case round =>
    obtain ⟨k, hk, rfl, HI2, HB2⟩ := hrel
    clear HI HB
    by_cases g : 0 < n - (k : Int)
    · have hs := (unhide HB2).size
      have N2 := hide (newInt_any 10 wr (by omega) (by omega))
      go_wp2_with fail
      refine (unhide N2).mono ?_
      rintro e w2 ⟨rfl, i2, hb2⟩
      have lk := Ln_ten k
      have MU := hide (imul_any w.heap.size 0 w.heap.size 0 wr.heap.size 0 ((10 : Int) ^ k) 10 w2 ((unhide HI2).place.below hb2) ((unhide HI2).below hb2) i2 (by unfold Ln at lk; omega) (len_small (by decide)))
      have HB3 := hide (below_step (unhide HB2) hb2)
      clear i2 hb2 N2 lk
      go_wp2_with fail
      refine (unhide MU).mono ?_
      rintro e w3 ⟨rfl, i3, ho3⟩
      have HI3 := hide i3
      have HB4 := hide ((unhide HB3).trans (ho3.below (Nat.le_refl _) (unhide HB3).size))
      clear i3 ho3 MU
      go_wp2
      refine ⟨⟨k + 1, by omega, by congr 1; omega, hide ?_, HB4⟩, ?_⟩
      · rw [Int.pow_succ]; exact unhide HI3
      · simp [intOf]; omega
    · have HE : Hid (n.toNat = k) := hide (by omega)
      go_wp2
      go_ret
      rw [unhide HE]
      exact ⟨rfl, unhide HI2, unhide HB2⟩
end Go.Proofs.Ytibkemolmpcdcaa

/- Plain facts on digits, rounding and the noughts at a number's end: no Go in sight. -/
namespace Dm

/-- the whole number that the first k digits tell -/
def val (D : Nat → Nat) : Nat → Nat
  | 0 => 0
  | k + 1 => val D k * 10 + D k
/-- the whole number that the last k of n digits tell -/
def suf (D : Nat → Nat) (n : Nat) : Nat → Nat
  | 0 => 0
  | k + 1 => D (n - (k + 1)) * 10 ^ k + suf D n k

theorem p10_succ (k : Nat) : 10 ^ (k + 1) = 10 * 10 ^ k := by rw [Nat.pow_succ, Nat.mul_comm]
theorem p10_pos (k : Nat) : 0 < 10 ^ k := Nat.pow_pos (by decide)

theorem val_suf (D : Nat → Nat) (n : Nat) : ∀ k, k ≤ n → val D n = val D (n - k) * 10 ^ k + suf D n k
  | 0, _ => by simp [suf]
  | k + 1, h => by
    rw [val_suf D n k (by omega), show n - k = (n - (k + 1)) + 1 by omega, val, suf, p10_succ, Nat.add_mul, Nat.mul_assoc, Nat.add_assoc]
theorem val_suf_all (D : Nat → Nat) (n : Nat) : val D n = suf D n n := by
  rw [val_suf D n n (Nat.le_refl n)]; simp [val]
theorem val_lt {D : Nat → Nat} (h : ∀ j, D j < 10) : ∀ k, val D k < 10 ^ k
  | 0 => by simp [val]
  | k + 1 => by have := val_lt h k; have := h k; rw [val, p10_succ]; omega
theorem suf_lt {D : Nat → Nat} (h : ∀ j, D j < 10) (n : Nat) : ∀ k, suf D n k < 10 ^ k
  | 0 => by simp [suf]
  | k + 1 => by
    have := suf_lt h n k
    have h9 : D (n - (k + 1)) * 10 ^ k ≤ 9 * 10 ^ k := Nat.mul_le_mul_right _ (by have := h (n - (k + 1)); omega)
    rw [suf, p10_succ]; omega
theorem val_congr {D E : Nat → Nat} : ∀ k, (∀ j, j < k → D j = E j) → val D k = val E k
  | 0, _ => rfl
  | k + 1, h => by rw [val, val, val_congr k (fun j hj => h j (by omega)), h k (by omega)]
theorem suf_congr {D E : Nat → Nat} (n : Nat) : ∀ k, k ≤ n → (∀ j, n - k ≤ j → j < n → D j = E j) → suf D n k = suf E n k
  | 0, _, _ => rfl
  | k + 1, hk, h => by rw [suf, suf, suf_congr n k (by omega) (fun j a b => h j (by omega) b), h (n - (k + 1)) (by omega) (by omega)]
theorem val_zeros {D : Nat → Nat} : ∀ k, (∀ j, j < k → D j = 0) → val D k = 0
  | 0, _ => rfl
  | k + 1, h => by rw [val, val_zeros k (fun j hj => h j (by omega)), h k (by omega)]
theorem val_drop (D : Nat → Nat) (z : Nat) : ∀ k, val D (z + k) = val D z * 10 ^ k + val (fun j => D (z + j)) k
  | 0 => by simp [val]
  | k + 1 => by
    rw [show z + (k + 1) = z + k + 1 by omega, val, val_drop D z k, val, p10_succ, Nat.add_mul, ← Nat.add_assoc, Nat.mul_assoc, Nat.mul_comm (10 ^ k) 10]
theorem val_pos {D : Nat → Nat} {k : Nat} (h : D 0 ≠ 0) (hk : 0 < k) : 10 ^ (k - 1) ≤ val D k := by
  have := val_drop D 1 (k - 1)
  rw [show 1 + (k - 1) = k by omega] at this
  rw [this, show val D 1 = D 0 by simp [val]]
  have h1 : 1 * 10 ^ (k - 1) ≤ D 0 * 10 ^ (k - 1) := Nat.mul_le_mul_right _ (by omega)
  omega

def upd (R : Nat → Nat) (i d : Nat) : Nat → Nat := fun j => if j = i then d else R j
theorem upd_same (R : Nat → Nat) (i d : Nat) : upd R i d i = d := by simp [upd]
theorem upd_other {R : Nat → Nat} {i d j : Nat} (h : j ≠ i) : upd R i d j = R j := by simp [upd, h]
theorem upd_lt {R : Nat → Nat} (h : ∀ j, R j < 10) {d : Nat} (hd : d < 10) (i : Nat) : ∀ j, upd R i d j < 10 := by
  intro j; unfold upd; split
  · exact hd
  · exact h j
/-- the digit at which one more from the right begins is written -/
theorem suf_upd (R : Nat → Nat) {n m : Nat} (d : Nat) (h : m < n) : suf (upd R m d) n (n - m) = d * 10 ^ (n - m - 1) + suf R n (n - m - 1) := by
  obtain ⟨k, hk⟩ : ∃ k, n - m = k + 1 := ⟨n - m - 1, by omega⟩
  rw [hk, suf, show n - (k + 1) = m by omega, upd_same, show k + 1 - 1 = k by omega]
  congr 1
  exact suf_congr n k (by omega) (fun j a b => upd_other (by omega))

/-- the digits of N, W of them -/
def pd (N W : Nat) : Nat → Nat := fun j => N / 10 ^ (W - 1 - j) % 10
theorem pd_lt (N W : Nat) : ∀ j, pd N W j < 10 := fun _ => Nat.mod_lt _ (by decide)
theorem suf_pd (N W : Nat) : ∀ k, k ≤ W → suf (pd N W) W k = N % 10 ^ k
  | 0, _ => by simp [suf, Nat.mod_one]
  | k + 1, h => by
    rw [suf, suf_pd N W k (by omega), Nat.mod_pow_succ, pd, show W - 1 - (W - (k + 1)) = k by omega, Nat.mul_comm (10 ^ k), Nat.add_comm]
theorem val_pd {N W : Nat} (h : N < 10 ^ W) : val (pd N W) W = N := by
  rw [val_suf_all, suf_pd N W W (Nat.le_refl _), Nat.mod_eq_of_lt h]

/-- the digits of N, and z noughts behind them: W in all -/
def cl (N W z : Nat) : Nat → Nat := fun j => if j < W - z then pd N (W - z) j else 0
theorem cl_lt (N W z : Nat) : ∀ j, cl N W z j < 10 := by
  intro j; unfold cl; split
  · exact pd_lt _ _ _
  · omega
theorem val_cl {N W z : Nat} (hz : z ≤ W) (h : N < 10 ^ (W - z)) : val (cl N W z) W = N * 10 ^ z := by
  have := val_drop (cl N W z) (W - z) z
  rw [show W - z + z = W by omega] at this
  rw [this, val_congr (D := cl N W z) (E := pd N (W - z)) (W - z) (fun j hj => by unfold cl; rw [if_pos hj]), val_pd h, val_zeros z (fun j _ => by simp only [cl]; rw [if_neg (by omega)])]
  rfl

/-- N divided by p, to the nearest, a half to the even one, or up where more follows -/
def up (N p : Nat) (rest : Bool) : Bool := decide (p < 2 * (N % p) ∨ (2 * (N % p) = p ∧ (N / p % 2 = 1 ∨ rest = true)))
def rnd (N p : Nat) (rest : Bool) : Nat := if up N p rest = true then N / p + 1 else N / p
/-- N times 10^s, to the nearest -/
def sc (N : Nat) (s : Int) (rest : Bool) : Nat := if 0 ≤ s then N * 10 ^ s.toNat else rnd N (10 ^ (-s).toNat) rest

theorem mod_suf {D : Nat → Nat} (h : ∀ j, D j < 10) {n k : Nat} (hk : k ≤ n) : val D n % 10 ^ k = suf D n k ∧ val D n / 10 ^ k = val D (n - k) := by
  have e := val_suf D n k hk
  have l := suf_lt h n k
  constructor
  · rw [e, Nat.mul_comm, Nat.mul_add_mod, Nat.mod_eq_of_lt l]
  · rw [e, Nat.mul_comm, Nat.mul_add_div (p10_pos k), Nat.div_eq_of_lt l, Nat.add_zero]

/-- what the digit behind the kept ones says -/
theorem up_digit {D : Nat → Nat} (h : ∀ j, D j < 10) {n k : Nat} (hk : k < n) (rest : Bool) :
    (D k < 5 → up (val D n) (10 ^ (n - k)) rest = false) ∧ (5 < D k → up (val D n) (10 ^ (n - k)) rest = true) ∧
    (D k = 5 → up (val D n) (10 ^ (n - k)) rest = (decide (val D k % 2 = 1) || rest || decide (0 < suf D n (n - k - 1)))) := by
  obtain ⟨m, hm⟩ : ∃ m, n - k = m + 1 := ⟨n - k - 1, by omega⟩
  have a := (mod_suf h (n := n) (k := n - k) (by omega)).1
  have b := (mod_suf h (n := n) (k := n - k) (by omega)).2
  rw [show n - (n - k) = k by omega] at b
  have l := suf_lt h n m
  have e : suf D n (m + 1) = D k * 10 ^ m + suf D n m := by rw [suf, show n - (m + 1) = k by omega]
  have pp := p10_pos m
  unfold up
  rw [a, b, hm, e, p10_succ, show m + 1 - 1 = m by omega]
  generalize 10 ^ m = p at *
  generalize suf D n m = s at *
  generalize val D k = q at *
  generalize hd : D k = d at *
  refine ⟨fun g => ?_, fun g => ?_, fun g => ?_⟩
  · have : d * p ≤ 4 * p := Nat.mul_le_mul_right _ (by omega)
    simp only [decide_eq_false_iff_not]
    omega
  · have : 6 * p ≤ d * p := Nat.mul_le_mul_right _ (by omega)
    simp only [decide_eq_true_eq]
    omega
  · subst g
    cases rest
    · by_cases hq : q % 2 = 1
      · simp only [hq, true_or, and_true, decide_true, Bool.true_or, decide_eq_true_eq]; omega
      · by_cases hs : 0 < s
        · simp only [hs, decide_true, Bool.or_true, decide_eq_true_eq]; omega
        · simp [hq]; omega
    · simp; omega
/-- with too many digits dropped nothing is left -/
theorem up_far {D : Nat → Nat} (h : ∀ j, D j < 10) {n k : Nat} (hk : n < k) (rest : Bool) : rnd (val D n) (10 ^ k) rest = 0 := by
  have l := val_lt h n
  have m : 10 ^ (n + 1) ≤ 10 ^ k := Nat.pow_le_pow_right (by decide) (by omega)
  rw [p10_succ] at m
  have u : up (val D n) (10 ^ k) rest = false := by
    unfold up
    rw [Nat.mod_eq_of_lt (by omega)]
    simp only [decide_eq_false_iff_not]
    omega
  unfold rnd
  rw [u, Nat.div_eq_of_lt (by omega)]
  simp

/-- how many noughts are at the end -/
def tzs : Nat → Int → Nat
  | 0, _ => 0
  | f + 1, c => if c.tmod 10 = 0 then tzs f (c.tdiv 10) + 1 else 0
/-- the number without them -/
def tco : Nat → Int → Int
  | 0, c => c
  | f + 1, c => if c.tmod 10 = 0 then tco f (c.tdiv 10) else c
theorem td10 (c : Int) : 10 * c.tdiv 10 + c.tmod 10 = c := Int.mul_tdiv_add_tmod c 10
theorem tm10 (c : Int) : (c * 10).tmod 10 = 0 := Int.mul_tmod_left c 10
theorem tz_spec : ∀ (f : Nat) (c : Int), c ≠ 0 → (c.natAbs : Int) < 10 ^ f → c = tens (tco f c) (tzs f c) ∧ (tco f c).tmod 10 ≠ 0
  | 0, c, h, l => by simp at l; omega
  | f + 1, c, h, l => by
    have t := td10 c
    by_cases g : c.tmod 10 = 0
    · have l' : ((c.tdiv 10).natAbs : Int) < 10 ^ f := by
        rw [Int.pow_succ] at l
        have : (c.tdiv 10).natAbs * 10 = c.natAbs := by omega
        omega
      obtain ⟨a, b⟩ := tz_spec f (c.tdiv 10) (by omega) l'
      rw [tco, tzs, if_pos g, if_pos g]
      refine ⟨?_, b⟩
      rw [tens, ← a]; omega
    · rw [tco, tzs, if_neg g, if_neg g]
      exact ⟨rfl, g⟩
theorem tens_uniq {a b : Int} (ha : a.tmod 10 ≠ 0) (hb : b.tmod 10 ≠ 0) : ∀ {j k : Nat}, tens a j = tens b k → a = b ∧ j = k
  | 0, 0, h => ⟨h, rfl⟩
  | 0, k + 1, h => by rw [tens, tens] at h; exact absurd (by rw [h]; exact tm10 _) ha
  | j + 1, 0, h => by rw [tens, tens] at h; exact absurd (by rw [← h]; exact tm10 _) hb
  | j + 1, k + 1, h => by
    rw [tens, tens] at h
    obtain ⟨x, y⟩ := tens_uniq ha hb (j := j) (k := k) (by omega)
    exact ⟨x, by omega⟩

theorem tdiv_facts {m : Int} (h0 : m ≠ 0) (h : m.tmod 10 = 0) : m = m.tdiv 10 * 10 ∧ m.tdiv 10 ≠ 0 ∧ (m.tdiv 10).natAbs < m.natAbs ∧ (0 ≤ m → 0 ≤ m.tdiv 10 ∧ m.tdiv 10 ≤ m) ∧ (m ≤ 0 → m ≤ m.tdiv 10 ∧ m.tdiv 10 ≤ 0) := by
  have := td10 m
  omega
theorem tens_1_19 : tens 1 19 = 10000000000000000000 := by decide
theorem tens_k {c m : Int} {k : Nat} (e : c = tens m k) (h : m.tmod 10 = 0) (h0 : m ≠ 0) (h1 : -1000000000000000000 ≤ c) (h2 : c ≤ 1000000000000000000) : k < 18 := by
  have t := td10 m
  rcases Nat.lt_or_ge k 18 with g | g
  · exact g
  · exfalso
    have a := tens_mono (n := 1) (by omega) (show 19 ≤ k + 1 by omega)
    rw [tens_1_19] at a
    have e2 : c = tens (m.tdiv 10) (k + 1) := by rw [show k + 1 = 1 + k by omega, ← tens_add, e]; congr 1; simp only [tens]; omega
    rcases Int.lt_trichotomy (m.tdiv 10) 0 with q | q | q
    · have b := tens_le (n := -(m.tdiv 10)) (by omega) (k + 1)
      rw [tens_neg] at b
      omega
    · omega
    · have b := tens_le (n := m.tdiv 10) (by omega) (k + 1)
      omega

theorem tens_step {c m q : Int} {k : Nat} (H : c = tens m k) (h : m = q * 10) : c = tens q (k + 1) := by
  rw [show k + 1 = 1 + k by omega, ← tens_add, H]; congr 1

theorem V_inj {c1 x1 c2 x2 : Int} (h1 : wrongN c1 x1 = 0) (h2 : wrongN c2 x2 = 0) (h : V c1 x1 = V c2 x2) : c1 = c2 ∧ x1 = x2 := by
  obtain ⟨_, _, a3, _, a5⟩ := wrong_ok h1
  obtain ⟨_, _, b3, _, b5⟩ := wrong_ok h2
  have z : ∀ {c : Int} (x : Int), V c x = 0 → c = 0 := by
    intro c x hv
    rcases Int.lt_trichotomy c 0 with g | g | g
    · have := V_neg g x; omega
    · exact g
    · have := V_pos g x; omega
  by_cases g1 : c1 = 0
  · subst g1
    rw [V_zero] at h
    have g2 := z x2 h.symm
    subst g2
    have := a5 rfl
    have := b5 rfl
    omega
  · by_cases g2 : c2 = 0
    · subst g2
      rw [V_zero] at h
      exact absurd (z x1 h) g1
    · obtain ⟨a, b⟩ := tens_uniq (fun q => g1 (a5 q).1) (fun q => g2 (b5 q).1) h
      exact ⟨a, by omega⟩
theorem order_facts {c1 x1 c2 x2 c3 x3 : Int} (h1 : wrongN c1 x1 = 0) (h2 : wrongN c2 x2 = 0) :
    (sgn (V c1 x1 - V c2 x2) = 0 ∧ sgn (V c2 x2 - V c1 x1) = 0 ∧ c1 = c2 ∧ x1 = x2 ∧ sgn (V c1 x1 - V c3 x3) = sgn (V c2 x2 - V c3 x3)) ∨
    (sgn (V c1 x1 - V c2 x2) = 1 ∧ sgn (V c2 x2 - V c1 x1) = -1 ∧ ¬ (c1 = c2 ∧ x1 = x2)) ∨
    (sgn (V c1 x1 - V c2 x2) = -1 ∧ sgn (V c2 x2 - V c1 x1) = 1 ∧ ¬ (c1 = c2 ∧ x1 = x2) ∧ (0 < sgn (V c2 x2 - V c3 x3) ∨ sgn (V c1 x1 - V c3 x3) ≤ 0)) := by
  have inj := @V_inj c1 x1 c2 x2 h1 h2
  have ne : ¬ V c1 x1 = V c2 x2 → ¬ (c1 = c2 ∧ x1 = x2) := fun a b => a (by rw [b.1, b.2])
  rcases Int.lt_trichotomy (V c1 x1) (V c2 x2) with g | g | g
  · refine .inr (.inr ⟨sgn_lt (by omega), sgn_gt (by omega), ne (by omega), ?_⟩)
    rcases sgn_cases (V c2 x2 - V c3 x3) with ⟨a, b⟩ | ⟨a, b⟩ | ⟨a, b⟩
    · right; rw [sgn_lt (by omega)]; omega
    · right; rw [sgn_lt (by omega)]; omega
    · left; omega
  · refine .inl ⟨by rw [g, Int.sub_self]; rfl, by rw [g, Int.sub_self]; rfl, (inj g).1, (inj g).2, by rw [g]⟩
  · exact .inr (.inl ⟨sgn_gt (by omega), sgn_lt (by omega), ne (by omega)⟩)

def fuel : Nat := 64
def tz (c : Int) : Nat := tzs fuel c
def tc (c : Int) : Int := tco fuel c
theorem tz_at {c m : Int} {k : Nat} (h : c = tens m k) (hm : m.tmod 10 ≠ 0) (hl : (c.natAbs : Int) ≤ 1000000000000000000) : tz c = k ∧ tc c = m := by
  have hc : c ≠ 0 := by
    intro h0
    have hm0 : m ≠ 0 := by intro z; rw [z] at hm; exact hm rfl
    rcases Int.lt_trichotomy m 0 with g | g | g
    · have := tens_pos (n := -m) (by omega) k; rw [tens_neg] at this; omega
    · exact hm0 g
    · have := tens_pos (n := m) (by omega) k; omega
  have hf : (1000000000000000000 : Int) < 10 ^ fuel := by decide
  obtain ⟨a, b⟩ := tz_spec fuel c hc (by omega)
  obtain ⟨x, y⟩ := tens_uniq b hm (a.symm.trans h)
  exact ⟨y, x⟩
theorem tz_of {c : Int} (hc : c ≠ 0) (hl : (c.natAbs : Int) ≤ 1000000000000000000) : c = tens (tc c) (tz c) ∧ (tc c).tmod 10 ≠ 0 := by
  have hf : (1000000000000000000 : Int) < 10 ^ fuel := by decide
  exact tz_spec fuel c hc (by omega)

/-- what is told of c times 10^x, its noughts taken away -/
def fC (c x : Int) : Int := if c = 0 then 0 else if 40 < x + tz c then 0 else tc c
def fE (c x : Int) : Int := if c = 0 then 0 else if 40 < x + tz c then 0 else x + tz c
def fR (c x : Int) : Int := if c = 0 then 0 else if 40 < x + tz c then 4 else 0

/-- how many digits N has -/
def ndf : Nat → Nat → Nat
  | 0, _ => 0
  | f + 1, N => if N = 0 then 0 else ndf f (N / 10) + 1
def nd (N : Nat) : Nat := ndf 200 N
theorem ndf_at : ∀ (f N L : Nat), L ≤ f → N < 10 ^ L → (L = 0 ∨ 10 ^ (L - 1) ≤ N) → ndf f N = L
  | 0, N, L, h, _, _ => by simp [ndf]; omega
  | f + 1, N, 0, h, l, _ => by simp at l; simp [ndf, l]
  | f + 1, N, L + 1, h, l, g => by
    have g' : 10 ^ L ≤ N := by rcases g with g | g; · omega
                               · simpa using g
    have := p10_pos L
    rw [p10_succ] at l
    rw [ndf, if_neg (by omega), ndf_at f (N / 10) L (by omega) (by omega) ?_]
    rcases Nat.eq_zero_or_pos L with z | z
    · exact .inl z
    · right
      rw [show L = (L - 1) + 1 by omega, p10_succ] at g'
      omega
theorem nd_at {N L : Nat} (h : L ≤ 200) (l : N < 10 ^ L) (g : L = 0 ∨ 10 ^ (L - 1) ≤ N) : nd N = L := ndf_at 200 N L h l g

/-- the exponent at which N times 10^x has eighteen digits at most, and the whole number there -/
def nE (N : Nat) (x : Int) : Int := max (-40) (x + nd N - 18)
def nQ (N : Nat) (x : Int) (rest : Bool) : Nat := sc N (x - nE N x) rest
def sg (b : Bool) (q : Nat) : Int := if b = true then -(q : Int) else q

/-- does what stands behind the kept digits make one more? -/
def gu (D : Nat → Nat) (n : Nat) (kept : Int) (odd R : Bool) : Bool :=
  if kept < 0 ∨ (n : Int) ≤ kept then false else if D kept.toNat = 5 then odd || R || decide (0 < suf D n (n - kept.toNat - 1)) else decide (5 < D kept.toNat)
theorem gu_out {D : Nat → Nat} {n : Nat} {kept : Int} (odd R : Bool) (h : kept < 0 ∨ (n : Int) ≤ kept) : gu D n kept odd R = false := by unfold gu; rw [if_pos h]
theorem gu_in {D : Nat → Nat} {n k : Nat} (odd R : Bool) (h : k < n) (h5 : D k ≠ 5) : gu D n (k : Int) odd R = decide (5 < D k) := by
  unfold gu; rw [if_neg (by omega), Int.toNat_natCast, if_neg h5]
theorem gu_5 {D : Nat → Nat} {n k : Nat} (odd R : Bool) (h : k < n) (h5 : D k = 5) : gu D n (k : Int) odd R = (odd || R || decide (0 < suf D n (n - k - 1))) := by
  unfold gu; rw [if_neg (by omega), Int.toNat_natCast, if_pos h5]
theorem suf_val (D : Nat → Nat) {n k : Nat} (h : k ≤ n) : suf D n (n - k) = val (fun j => D (k + j)) (n - k) := by
  have a := val_drop D k (n - k)
  have b := val_suf D n (n - k) (by omega)
  rw [show k + (n - k) = n by omega] at a
  rw [show n - (n - k) = k by omega] at b
  omega
/-- noughts alone, or not -/
theorem val_z {E : Nat → Nat} {m z : Nat} (hz : z ≤ m) (h0 : ∀ j, j < z → E j = 0) (h1 : z < m → E z ≠ 0) : decide (0 < val E m) = decide (z < m) := by
  rcases Nat.lt_or_ge z m with g | g
  · have a := val_drop E z (m - z)
    rw [show z + (m - z) = m by omega] at a
    have b := val_pos (D := fun j => E (z + j)) (k := m - z) (h1 g) (by omega)
    have c := p10_pos (m - z - 1)
    simp only [decide_eq_decide]
    omega
  · rw [val_zeros m (fun j hj => h0 j (by omega))]
    simp; omega

theorem suf_z (D : Nat → Nat) {n k z : Nat} (hk : k < n) (hz : z ≤ n - (k + 1)) (h0 : ∀ j, j < z → D (k + 1 + j) = 0) (h1 : z < n - (k + 1) → D (k + 1 + z) ≠ 0) : decide (0 < suf D n (n - k - 1)) = decide (z < n - (k + 1)) := by
  rw [show n - k - 1 = n - (k + 1) by omega, suf_val D (by omega)]
  exact val_z (E := fun j => D (k + 1 + j)) hz h0 h1

/-- the first k digits as a whole number, with noughts where there are no more -/
def vx (D : Nat → Nat) (n k : Nat) : Nat := if k ≤ n then val D k else val D n * 10 ^ (k - n)
theorem vx_zero (D : Nat → Nat) (n : Nat) : vx D n 0 = 0 := by simp [vx, val]
theorem vx_in {D : Nat → Nat} {n k : Nat} (h : k < n) : vx D n (k + 1) = vx D n k * 10 + D k := by
  unfold vx; rw [if_pos (by omega), if_pos (by omega), val]
theorem vx_out {D : Nat → Nat} {n k : Nat} (h : n ≤ k) : vx D n (k + 1) = vx D n k * 10 := by
  unfold vx
  rw [if_neg (by omega)]
  split
  · rw [show k = n by omega, show n + 1 - n = 1 by omega]
  · rw [show k + 1 - n = (k - n) + 1 by omega, p10_succ, Nat.mul_assoc, Nat.mul_comm 10 (10 ^ (k - n))]
theorem vx_lt {D : Nat → Nat} (h : ∀ j, D j < 10) (n : Nat) : ∀ k, vx D n k < 10 ^ k
  | 0 => by rw [vx_zero]; decide
  | k + 1 => by
    have := vx_lt h n k
    have := h k
    rw [p10_succ]
    rcases Nat.lt_or_ge k n with g | g
    · rw [vx_in g]; omega
    · rw [vx_out g]; omega
theorem p10_17 {k : Nat} (h : k ≤ 17) : 10 ^ k ≤ 100000000000000000 := Nat.le_trans (Nat.pow_le_pow_right (by decide) h) (by decide)
theorem p10_18 {k : Nat} (h : k ≤ 18) : 10 ^ k ≤ 1000000000000000000 := Nat.le_trans (Nat.pow_le_pow_right (by decide) h) (by decide)

def one (b : Bool) : Nat := if b = true then 1 else 0
theorem whole_eq {D : Nat → Nat} (h : ∀ j, D j < 10) (n : Nat) (x y : Int) (R : Bool) :
    vx D n ((n : Int) + x - y).toNat + one (gu D n ((n : Int) + x - y) (decide (vx D n ((n : Int) + x - y).toNat % 2 = 1)) R) = sc (val D n) (x - y) R := by
  rcases Int.lt_trichotomy ((n : Int) + x - y) 0 with g | g | g
  · rw [gu_out _ _ (.inl g), show ((n : Int) + x - y).toNat = 0 by omega, vx_zero]
    unfold sc
    rw [if_neg (by omega), up_far h (by omega)]
    rfl
  all_goals
    obtain ⟨k, hk⟩ : ∃ k : Nat, (n : Int) + x - y = (k : Int) := ⟨((n : Int) + x - y).toNat, by omega⟩
    rw [hk, Int.toNat_natCast]
    rcases Nat.lt_or_ge k n with q | q
    · have u := up_digit h q R
      have e : vx D n k = val D n / 10 ^ (n - k) := by rw [(mod_suf h (n := n) (k := n - k) (by omega)).2, show n - (n - k) = k by omega]; unfold vx; rw [if_pos (by omega)]
      have e2 : vx D n k = val D k := by unfold vx; rw [if_pos (by omega)]
      have gg : gu D n (k : Int) (decide (vx D n k % 2 = 1)) R = up (val D n) (10 ^ (n - k)) R := by
        rcases Nat.lt_trichotomy (D k) 5 with d | d | d
        · rw [gu_in _ _ q (by omega), u.1 d]; simp; omega
        · rw [gu_5 _ _ q d, u.2.2 d, e2]
        · rw [gu_in _ _ q (by omega), u.2.1 d]; simp; omega
      rw [gg]
      unfold sc
      rw [if_neg (by omega), show (-(x - y)).toNat = n - k by omega]
      unfold rnd one
      rw [← e]
      split <;> rfl
    · rw [gu_out _ _ (.inr (by omega))]
      have e1 : sc (val D n) (x - y) R = val D n * 10 ^ (k - n) := by unfold sc; rw [if_pos (by omega), show (x - y).toNat = k - n by omega]
      rw [e1]
      unfold vx
      split
      · rw [show k = n by omega]; simp [one]
      · rfl

theorem sc_le {D : Nat → Nat} (h : ∀ j, D j < 10) {n : Nat} {x y : Int} (R : Bool) (hk : (n : Int) + x - y ≤ 18) : sc (val D n) (x - y) R ≤ 1000000000000000000 := by
  have a := whole_eq h n x y R
  have b := vx_lt h n ((n : Int) + x - y).toNat
  have c := p10_18 (k := ((n : Int) + x - y).toNat) (by omega)
  have d : ∀ b, one b ≤ 1 := fun b => by unfold one; split <;> omega
  have := d (gu D n ((n : Int) + x - y) (decide (vx D n ((n : Int) + x - y).toNat % 2 = 1)) R)
  omega
theorem nd_val {D : Nat → Nat} (h : ∀ j, D j < 10) {n z : Nat} (hn : n ≤ 100) (hz : z ≤ n) (h0 : ∀ j, j < z → D j = 0) (h1 : z < n → D z ≠ 0) : val D n = val (fun j => D (z + j)) (n - z) ∧ nd (val D n) = n - z := by
  have a := val_drop D z (n - z)
  rw [show z + (n - z) = n by omega, val_zeros z h0] at a
  have e : val D n = val (fun j => D (z + j)) (n - z) := by omega
  refine ⟨e, ?_⟩
  rw [e]
  refine nd_at (by omega) (val_lt (fun j => h _) _) ?_
  rcases Nat.lt_or_ge z n with g | g
  · right; exact val_pos (D := fun j => D (z + j)) (h1 g) (by omega)
  · left; omega
theorem near_facts {D : Nat → Nat} (h : ∀ j, D j < 10) {n z : Nat} {x y : Int} (R : Bool) {q : Nat} (hn : n ≤ 100) (hx1 : -200 ≤ x) (hx2 : x ≤ 100) (hz : z ≤ n) (h0 : ∀ j, j < z → D j = 0) (h1 : z < n → D z ≠ 0)
    (hy : (if -40 < x + ((n - z : Nat) : Int) - 18 then x + ((n - z : Nat) : Int) - 18 else -40) = y) (hq : q = sc (val (fun j => D (z + j)) (n - z)) (x - y) R) :
    -200 ≤ y ∧ y ≤ 200 ∧ ((n - z : Nat) : Int) + x - y ≤ 18 ∧ (q : Int) ≤ 1000000000000000000 ∧ y = nE (val D n) x ∧ q = nQ (val D n) x R := by
  obtain ⟨e1, e2⟩ := nd_val h hn hz h0 h1
  have ey : y = nE (val D n) x := by
    unfold nE
    rw [e2, ← hy]
    split <;> omega
  have yk : ((n - z : Nat) : Int) + x - y ≤ 18 := by rw [← hy]; split <;> omega
  refine ⟨by rw [← hy]; split <;> omega, by rw [← hy]; split <;> omega, yk, ?_, ey, ?_⟩
  · have := sc_le (D := fun j => D (z + j)) (fun j => h _) R yk
    rw [hq]; omega
  · unfold nQ
    rw [hq, ← ey, e1]

/-- one digit more of a sum, from the right -/
theorem plus_step {X Y R : Nat → Nat} {n m cy : Nat} (h : m < n) (H : suf X n (n - (m + 1)) + suf Y n (n - (m + 1)) = suf R n (n - (m + 1)) + cy * 10 ^ (n - (m + 1))) :
    suf X n (n - m) + suf Y n (n - m) = suf (upd R m ((X m + Y m + cy) % 10)) n (n - m) + (X m + Y m + cy) / 10 * 10 ^ (n - m) := by
  rw [suf_upd R _ h]
  obtain ⟨k, hk⟩ : ∃ k, n - m = k + 1 := ⟨n - m - 1, by omega⟩
  rw [show n - (m + 1) = k by omega] at H
  rw [hk, suf, suf, show n - (k + 1) = m by omega, show k + 1 - 1 = k by omega, p10_succ]
  generalize suf X n k = a at *
  generalize suf Y n k = b at *
  generalize suf R n k = r at *
  generalize 10 ^ k = p at *
  generalize X m = x at *
  generalize Y m = y at *
  have e : (x + y + cy) * p = ((x + y + cy) / 10 * 10 + (x + y + cy) % 10) * p := by rw [Nat.div_add_mod']
  rw [Nat.add_mul, Nat.add_mul, Nat.add_mul ((x + y + cy) / 10 * 10), Nat.mul_assoc] at e
  omega
theorem minus_step {X Y R : Nat → Nat} {n m bw : Nat} (h : m < n) (hy : Y m < 10) (hb : bw ≤ 1) (H : suf X n (n - (m + 1)) + bw * 10 ^ (n - (m + 1)) = suf Y n (n - (m + 1)) + suf R n (n - (m + 1))) (hx : X m < 10) :
    suf X n (n - m) + (1 - (10 + X m - Y m - bw) / 10) * 10 ^ (n - m) = suf Y n (n - m) + suf (upd R m ((10 + X m - Y m - bw) % 10)) n (n - m) := by
  rw [suf_upd R _ h]
  obtain ⟨k, hk⟩ : ∃ k, n - m = k + 1 := ⟨n - m - 1, by omega⟩
  rw [show n - (m + 1) = k by omega] at H
  rw [hk, suf, suf, show n - (k + 1) = m by omega, show k + 1 - 1 = k by omega, p10_succ]
  generalize suf X n k = a at *
  generalize suf Y n k = b at *
  generalize suf R n k = r at *
  generalize 10 ^ k = p at *
  generalize X m = x at *
  generalize Y m = y at *
  rcases Nat.lt_or_ge x (y + bw) with g | g
  · have e1 : (10 + x - y - bw) / 10 = 0 := by omega
    have e2 : (10 + x - y - bw) % 10 = 10 + x - y - bw := by omega
    rw [e1, e2]
    have e : (10 + x - y - bw) * p + (y + bw) * p = (10 + x) * p := by rw [← Nat.add_mul]; congr 1; omega
    rw [Nat.add_mul, Nat.add_mul] at e
    omega
  · have e1 : (10 + x - y - bw) / 10 = 1 := by omega
    have e2 : (10 + x - y - bw) % 10 = x - y - bw := by omega
    rw [e1, e2]
    have e : (x - y - bw) * p + (y + bw) * p = x * p := by rw [← Nat.add_mul]; congr 1; omega
    rw [Nat.add_mul] at e
    omega

/-- the sum of two numbers, the lesser exponent's unit -/
def addS (c1 x1 c2 x2 : Int) : Int := tens c1 (x1 - min x1 x2).toNat + tens c2 (x2 - min x1 x2).toNat

theorem tens_abs (c : Int) (z : Nat) : (c < 0 → tens c z = -((c.natAbs * 10 ^ z : Nat) : Int)) ∧ (0 ≤ c → tens c z = ((c.natAbs * 10 ^ z : Nat) : Int)) := by
  rw [tens_eq]
  have p : ((10 : Int) ^ z) = ((10 ^ z : Nat) : Int) := by simp
  rw [p]
  refine ⟨fun h => ?_, fun h => ?_⟩
  · rw [Int.natCast_mul, show (c.natAbs : Int) = -c by omega, Int.neg_mul, Int.neg_neg]
  · rw [Int.natCast_mul, show (c.natAbs : Int) = c by omega]
theorem col_lt {N z W : Nat} (h : N < 1000000000000000000) (hz : z + 18 < W) : N * 10 ^ z < 10 ^ (W - 1) ∧ N < 10 ^ (W - z) := by
  have e : (1000000000000000000 : Nat) = 10 ^ 18 := by decide
  rw [e] at h
  refine ⟨?_, ?_⟩
  · have a : N * 10 ^ z < 10 ^ 18 * 10 ^ z := Nat.mul_lt_mul_of_pos_right h (p10_pos z)
    have b : 10 ^ 18 * 10 ^ z ≤ 10 ^ (W - 1) := by rw [← Nat.pow_add]; exact Nat.pow_le_pow_right (by decide) (by omega)
    omega
  · have b : 10 ^ 18 ≤ 10 ^ (W - z) := Nat.pow_le_pow_right (by decide) (by omega)
    omega
theorem p10_W {W : Nat} (h : 0 < W) : 10 ^ W = 10 * 10 ^ (W - 1) := by
  rw [← p10_succ]; congr 1; omega

theorem addS_eq {c1 x1 c2 x2 low : Int} {z1 z2 : Nat} (l3 : low = min x1 x2) (e1 : x1 - low = (z1 : Int)) (e2 : x2 - low = (z2 : Int)) : addS c1 x1 c2 x2 = tens c1 z1 + tens c2 z2 := by
  unfold addS
  rw [← l3, e1, e2, Int.toNat_natCast, Int.toNat_natCast]
theorem sum_plus {c1 c2 S : Int} {z1 z2 v : Nat} (h : S = tens c1 z1 + tens c2 z2) (hv : v = c1.natAbs * 10 ^ z1 + c2.natAbs * 10 ^ z2) : (c1 < 0 → c2 < 0 → sg true v = S) ∧ (¬ c1 < 0 → ¬ c2 < 0 → sg false v = S) := by
  have a := tens_abs c1 z1
  have b := tens_abs c2 z2
  unfold sg
  refine ⟨fun p q => ?_, fun p q => ?_⟩
  · rw [if_pos rfl, h, a.1 p, b.1 q, hv]; omega
  · rw [if_neg (by decide), h, a.2 (by omega), b.2 (by omega), hv]; omega
theorem sum_minus {c1 c2 S : Int} {z1 z2 v : Nat} (h : S = tens c1 z1 + tens c2 z2) (hl : c2.natAbs * 10 ^ z2 ≤ c1.natAbs * 10 ^ z1) (hv : v = c1.natAbs * 10 ^ z1 - c2.natAbs * 10 ^ z2) : (c1 < 0 → ¬ c2 < 0 → sg true v = S) ∧ (¬ c1 < 0 → c2 < 0 → sg false v = S) := by
  have a := tens_abs c1 z1
  have b := tens_abs c2 z2
  unfold sg
  refine ⟨fun p q => ?_, fun p q => ?_⟩
  · rw [if_pos rfl, h, a.1 p, b.2 (by omega), hv]; omega
  · rw [if_neg (by decide), h, a.2 (by omega), b.1 q, hv]; omega

def nearZ (S x : Int) (R : Bool) : Int := sg (decide (S < 0)) (nQ S.natAbs x R)
theorem nQ_zero (x : Int) : nQ 0 x false = 0 := by
  unfold nQ sc
  split
  · simp
  · unfold rnd up
    rw [Nat.zero_mod, Nat.zero_div]
    rw [if_neg (by simp)]
theorem sg_nat {B : Bool} {N : Nat} {S : Int} (h : sg B N = S) : N = S.natAbs ∧ (S ≠ 0 → B = decide (S < 0)) := by
  unfold sg at h
  cases B
  · simp at h
    refine ⟨by omega, fun g => ?_⟩
    simp; omega
  · simp at h
    refine ⟨by omega, fun g => ?_⟩
    simp; omega
theorem sg_near {B : Bool} {N : Nat} {S : Int} (h : sg B N = S) (x : Int) : sg B (nQ N x false) = nearZ S x false ∧ nE N x = nE S.natAbs x := by
  obtain ⟨a, b⟩ := sg_nat h
  rw [a]
  refine ⟨?_, rfl⟩
  unfold nearZ
  by_cases g : S = 0
  · subst g
    rw [show Int.natAbs 0 = 0 by rfl, nQ_zero x]
    cases B <;> rfl
  · rw [b g]

end Dm
