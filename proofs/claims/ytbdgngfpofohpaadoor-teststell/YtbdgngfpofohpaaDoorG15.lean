/- Walks: ratios: Neg, Abs, Cmp (written by gen_bz8.py). -/
import Derived.Test.YtbdgngfpofohpaaDoorG14
namespace Go.Proofs.YtbdgngfpofohpaaDoor
open Go.RowKit

theorem callINeg (zs : Array Value) (w : World) : Sem.run Tryd.prog (callFunc 82 zs) w = .ok (.enter 82 zs) w := by simp [go_sem]

theorem callIAbs (zs : Array Value) (w : World) : Sem.run Tryd.prog (callFunc 60 zs) w = .ok (.enter 60 zs) w := by simp [go_sem]

theorem callICmp (zs : Array Value) (w : World) : Sem.run Tryd.prog (callFunc 62 zs) w = .ok (.enter 62 zs) w := by simp [go_sem]

theorem abs_ratio {n d N D : Int} (hD : 0 < D) (hd : 0 < d) (e : n * D = N * d) : (n.natAbs : Int) * D = (N.natAbs : Int) * d := by
  have : n.natAbs * D.natAbs = N.natAbs * d.natAbs := by rw [← Int.natAbs_mul, ← Int.natAbs_mul, e]
  have h : ((n.natAbs * D.natAbs : Nat) : Int) = ((N.natAbs * d.natAbs : Nat) : Int) := by rw [this]
  rw [Int.natCast_mul, Int.natCast_mul] at h
  rwa [show ((D.natAbs : Nat) : Int) = D by omega, show ((d.natAbs : Nat) : Int) = d by omega] at h

theorem fr16 {a : Act} (hs : a.tmps.size = 16) (hd : a.defers = []) : a = { tmps := #[G a 0, G a 1, G a 2, G a 3, G a 4, G a 5, G a 6, G a 7, G a 8, G a 9, G a 10, G a 11, G a 12, G a 13, G a 14, G a 15], defers := [] } := frame_is hs hd

set_option maxRecDepth 100000 in
set_option maxHeartbeats 4000000 in
theorem rabs_any (p px : Nat) (N1 D1 : Int) (w : World) (hz : ZA w p 2) (hx : RV w px N1 D1) (d1 : 0 < D1) (lx : Ln N1 ≤ 20000) (kx : Ln D1 ≤ 20000) :
    Calls Tryd.prog 40 #[.pointer (some ⟨p, 0, none⟩), .pointer (some ⟨px, 0, none⟩)] w fun e w' => e = .returned (.pointer (some ⟨p, 0, none⟩)) ∧ RV w' p (N1.natAbs : Int) D1 ∧ Blk p w w' := by
  have RS := hide (rset_any p px N1 D1 w hz hx (by omega) lx kx)
  clear hz hx
  go_enter Tryd.func40, Tryd.ntmps40
  go_wp2_with fail
  refine (unhide RS).mono ?_
  rintro e w1 ⟨rfl, hr, hk⟩
  obtain ⟨n, d, q, e1, g1⟩ := hr
  have ln : Ln n ≤ Ln N1 := Ln_mono (ratio_le (by omega) e1 g1)
  have hpos := q.pos
  have NG : Hid (∀ wx, Below w1.heap.size w1 wx → Calls Tryd.prog 60 #[.pointer (some ⟨p, 0, none⟩), .pointer (some ⟨p, 0, none⟩)] wx fun e w' => e = .returned (.pointer (some ⟨p, 0, none⟩)) ∧ RQ w' p ((n.natAbs : Int)) d ∧ Blk p w1 w') := hide fun wx hb => by
    have qx := q.below hb
    refine (iabs_any p 0 p 0 n wx qx.num.place qx.num (by unfold Ln at *; omega)).mono ?_
    rintro e w' ⟨rfl, hi, ho⟩
    refine ⟨rfl, ⟨hi, ?_, hpos⟩, (Blk.of hb).trans ho.blk⟩
    rcases qx.den with h | ⟨h, h2⟩
    · exact .inl (h.out ho qx.num.place (.inr (.inr (by omega))))
    · exact .inr ⟨h.out ho qx.num.place (.inr (.inr (by omega))), h2⟩
  have HE := hide e1
  have HG := hide g1
  have HK := hide hk
  clear q e1 g1 hk
  go_upto_region 2 with fail
  refine frame_intro (fun a => G a 0 = .pointer (some ⟨p, 0, none⟩) ∧ a.tmps.size = 16 ∧ a.defers = []) ⟨rfl, rfl, rfl⟩ ?_
  rintro f0 ⟨s0, hsz, hdf⟩
  refine region_any (I := RP w1 f0 16 [8, 9, 10, 11, 12, 13, 14] 6 (fun w' => RQ w' p ((n.natAbs : Int)) d ∧ Blk p w1 w') [.lit (.pointer (some ⟨p, 0, none⟩)), .lit (.pointer (some ⟨p, 0, none⟩)), .lit (.pointer (some ⟨p, 0, none⟩)), .lit (.pointer (some ⟨p, 0, none⟩)), .lit (.pointer (some ⟨p, 0, none⟩)), .lit (.pointer (some ⟨p, 0, none⟩)), .lit (.pointer (some ⟨p, 0, none⟩))]) (by kernel_rfl) ?wait ?step ?done ?start
  case wait => exact ⟨by simp, by simp, by simp, by simp, by simp, by simp, by simp, trivial⟩
  case start => exact RP.start hsz hdf ((Below.refl _ _).drew)
  case step =>
    refine ⟨?_, ?_, ?_, ?_, ?_, ?_, ?_, trivial⟩
    · rintro L fa wx h hcl hL hw2
      exact rp_val h (by decide) rfl rfl rfl (by decide) (by decide) rfl (run_mv (eval_G ((h.keep (s := 0) (by decide)).trans s0))) rfl
    · rintro L fa wx h hcl hL hw2
      exact rp_val h (by decide) rfl rfl rfl (by decide) (by decide) rfl (run_nil (eval_G (show G fa 8 = .pointer (some ⟨p, 0, none⟩) from h.lit (hw2 ⟨0, .data⟩ (by simp) rfl) rfl rfl))) rfl
    · rintro L fa wx h hcl hL hw2
      exact rp_val h (by decide) rfl rfl rfl (by decide) (by decide) rfl (run_fldA (eval_G (show G fa 9 = .pointer (some ⟨p, 0, none⟩) from h.lit (hw2 ⟨1, .data⟩ (by simp) rfl) rfl rfl))) rfl
    · rintro L fa wx h hcl hL hw2
      exact rp_val h (by decide) rfl rfl rfl (by decide) (by decide) rfl (run_mv (eval_G ((h.keep (s := 0) (by decide)).trans s0))) rfl
    · rintro L fa wx h hcl hL hw2
      exact rp_val h (by decide) rfl rfl rfl (by decide) (by decide) rfl (run_nil (eval_G (show G fa 11 = .pointer (some ⟨p, 0, none⟩) from h.lit (hw2 ⟨3, .data⟩ (by simp) rfl) rfl rfl))) rfl
    · rintro L fa wx h hcl hL hw2
      exact rp_val h (by decide) rfl rfl rfl (by decide) (by decide) rfl (run_fldA (eval_G (show G fa 12 = .pointer (some ⟨p, 0, none⟩) from h.lit (hw2 ⟨4, .data⟩ (by simp) rfl) rfl rfl))) rfl
    · rintro L fa wx h hcl hL hw2
      exact rp_last h (by decide) rfl rfl rfl (by decide) hL rfl (run_call2 (eval_G (show G fa 10 = .pointer (some ⟨p, 0, none⟩) from h.lit (hw2 ⟨2, .data⟩ (by simp) rfl) rfl rfl)) (eval_G (show G fa 13 = .pointer (some ⟨p, 0, none⟩) from h.lit (hw2 ⟨5, .data⟩ (by simp) rfl) rfl rfl)) callIAbs) (unhide NG wx (h.old hL)) rfl
  case done =>
    rintro L f1 w3 h hall
    have q0 := (h.keep (s := 0) (by decide)).trans s0
    have HF := hide (h.fin (hall 6 (by simp)))
    rw [fr16 h.size h.defs, q0]
    clear h hall q0
    go_wp2
    go_ret
    exact ⟨rfl, ⟨(n.natAbs : Int), d, (unhide HF).1, abs_ratio d1 hpos (unhide HE), unhide HG⟩, (unhide HK).trans (unhide HF).2⟩

set_option maxRecDepth 100000 in
set_option maxHeartbeats 4000000 in
theorem rcmp_any (px py : Nat) (N1 D1 N2 D2 : Int) (w : World) (hx : RV w px N1 D1) (hy : RV w py N2 D2) (d1 : 0 < D1) (d2 : 0 < D2) (lx : Ln N1 ≤ 20000) (kx : Ln D1 ≤ 20000) (ly : Ln N2 ≤ 20000) (ky : Ln D2 ≤ 20000) :
    Calls Tryd.prog 41 #[.pointer (some ⟨px, 0, none⟩), .pointer (some ⟨py, 0, none⟩)] w fun e w' => e = .returned (.int .i64 (icmp (N1 * D2) (N2 * D1))) ∧ Below w.heap.size w w' := by
  obtain ⟨n1, m1, qx, e1, g1⟩ := hx
  obtain ⟨n2, m2, qy, e2, g2⟩ := hy
  have r1 := Ln_mono (ratio_le (by omega) e1 g1)
  have r2 := Ln_mono (ratio_le (by omega) e2 g2)
  have r3 := Ln_mono g1
  have r4 := Ln_mono g2
  have p1 := qx.pos
  have p2 := qy.pos
  have key : Hid (icmp (n1 * m2) (n2 * m1) = icmp (N1 * D2) (N2 * D1)) := hide (icmp_cross (K := D1 * D2) (M := m1 * m2) (Int.mul_pos d1 d2) (Int.mul_pos p1 p2) (by rw [show n1 * m2 * (D1 * D2) = (n1 * D1) * (m2 * D2) by grind, e1]; grind) (by rw [show n2 * m1 * (D1 * D2) = (n2 * D2) * (m1 * D1) by grind, e2]; grind))
  have C1 := hide (den_q px n1 m1 w qx)
  have HX := hide qx
  have HY := hide qy
  clear qx qy e1 e2
  go_enter Tryd.func41, Tryd.ntmps41
  go_wp2_with fail
  refine (unhide C1).mono ?_
  rintro e w1 ⟨b1, o1, rfl, i1, -, hb1⟩
  have C2 := hide (den_q py n2 m2 w1 ((unhide HY).below hb1))
  have HI1 := hide i1
  have HB1 := hide hb1
  clear i1 hb1
  go_wp2_with fail
  refine (unhide C2).mono ?_
  rintro e w2 ⟨b2, o2, rfl, i2, -, hb2⟩
  have CC := hide (icmp_any b1 o1 b2 o2 m1 m2 w2 ((unhide HI1).below hb2) i2)
  have HB2 := hide (below_step (unhide HB1) hb2)
  clear i2 hb2
  go_wp2_with fail
  refine (unhide CC).mono ?_
  rintro e w3 ⟨rfl, hb3⟩
  have B3 := below_step (unhide HB2) hb3
  have HX3 := hide ((unhide HX).below B3)
  have HY3 := hide ((unhide HY).below B3)
  have HB3 := hide B3
  have DX3 := hide (den_make (unhide HX3))
  have DY3 := hide (den_make (unhide HY3))
  have t1 := Ln_mul n1 m2
  have t2 := Ln_mul n2 m1
  clear hb3 B3
  by_cases hm : m1 = m2
  · have g : (icmp m1 m2 == 0) = true := by rw [beq_iff_eq]; exact icmp_zero.2 hm
    have k2 : Hid (icmp n1 n2 = icmp (n1 * m2) (n2 * m1)) := hide (by subst hm; exact icmp_cross (K := m1) (M := 1) p1 (by omega) (by rw [Int.mul_one]) (by rw [Int.mul_one]))
    clear hm
    go_upto_region 2 with fail
    refine frame_intro (fun a => G a 0 = .pointer (some ⟨px, 0, none⟩) ∧ G a 1 = .pointer (some ⟨py, 0, none⟩) ∧ a.tmps.size = 33 ∧ a.defers = []) ⟨rfl, rfl, rfl, rfl⟩ ?_
    rintro f0 ⟨s0, s1, hsz, hdf⟩
    refine region_any (I := RP w3 f0 33 [11, 12, 13, 14, 15, 16, 17, 4] 99 (fun _ => True) [.lit (.pointer (some ⟨px, 0, none⟩)), .lit (.pointer (some ⟨px, 0, none⟩)), .lit (.pointer (some ⟨px, 0, none⟩)), .lit (.pointer (some ⟨py, 0, none⟩)), .lit (.pointer (some ⟨py, 0, none⟩)), .lit (.pointer (some ⟨py, 0, none⟩)), .lit (.int .i64 (icmp n1 n2)), .lit (.int .i64 (icmp n1 n2))]) (by kernel_rfl) ?wait ?step ?done ?start
    case wait => exact ⟨by simp, by simp, by simp, by simp, by simp, by simp, by simp, by simp, trivial⟩
    case start => exact RP.start hsz hdf ((Below.refl _ _).drew)
    case step =>
      refine ⟨?_, ?_, ?_, ?_, ?_, ?_, ?_, ?_, trivial⟩
      · rintro L fa wx h hcl hL hw2
        exact rp_val h (by decide) rfl rfl rfl (by decide) (by decide) rfl (run_mv (eval_G ((h.keep (s := 0) (by decide)).trans s0))) rfl
      · rintro L fa wx h hcl hL hw2
        exact rp_val h (by decide) rfl rfl rfl (by decide) (by decide) rfl (run_nil (eval_G (show G fa 11 = .pointer (some ⟨px, 0, none⟩) from h.lit (hw2 ⟨0, .data⟩ (by simp) rfl) rfl rfl))) rfl
      · rintro L fa wx h hcl hL hw2
        exact rp_val h (by decide) rfl rfl rfl (by decide) (by decide) rfl (run_fldA (eval_G (show G fa 12 = .pointer (some ⟨px, 0, none⟩) from h.lit (hw2 ⟨1, .data⟩ (by simp) rfl) rfl rfl))) rfl
      · rintro L fa wx h hcl hL hw2
        exact rp_val h (by decide) rfl rfl rfl (by decide) (by decide) rfl (run_mv (eval_G ((h.keep (s := 1) (by decide)).trans s1))) rfl
      · rintro L fa wx h hcl hL hw2
        exact rp_val h (by decide) rfl rfl rfl (by decide) (by decide) rfl (run_nil (eval_G (show G fa 14 = .pointer (some ⟨py, 0, none⟩) from h.lit (hw2 ⟨3, .data⟩ (by simp) rfl) rfl rfl))) rfl
      · rintro L fa wx h hcl hL hw2
        exact rp_val h (by decide) rfl rfl rfl (by decide) (by decide) rfl (run_fldA (eval_G (show G fa 15 = .pointer (some ⟨py, 0, none⟩) from h.lit (hw2 ⟨4, .data⟩ (by simp) rfl) rfl rfl))) rfl
      · rintro L fa wx h hcl hL hw2
        exact rp_read h (by decide) rfl rfl rfl (by decide) (by decide) (h.nogi (by decide)) rfl (run_call2 (eval_G (show G fa 13 = .pointer (some ⟨px, 0, none⟩) from h.lit (hw2 ⟨2, .data⟩ (by simp) rfl) rfl rfl)) (eval_G (show G fa 16 = .pointer (some ⟨py, 0, none⟩) from h.lit (hw2 ⟨5, .data⟩ (by simp) rfl) rfl rfl)) callICmp) (icmp_any _ _ _ _ n1 n2 wx ((unhide HX3).num.below (h.old (h.nogi (by decide)))) ((unhide HY3).num.below (h.old (h.nogi (by decide))))) rfl
      · rintro L fa wx h hcl hL hw2
        exact rp_val h (by decide) rfl rfl rfl (by decide) (by decide) rfl (run_asg (eval_G (show G fa 17 = .int .i64 (icmp n1 n2) from h.lit (hw2 ⟨6, .data⟩ (by simp) rfl) rfl rfl))) rfl
    case done =>
      rintro L f1 w4 h hall
      have q4 : G f1 4 = .int .i64 (icmp n1 n2) := h.lit (i := 7) (hall 7 (by simp)) rfl rfl
      have HO := hide (h.old (h.nogi (by decide)))
      rw [fr33 h.size h.defs, q4]
      clear h hall q4
      go_wp2
      go_ret
      exact ⟨congrArg (fun z => Ending.returned (Value.int .i64 z)) ((unhide k2).trans (unhide key)), below_step (unhide HB3) (unhide HO)⟩
  · have g : (icmp m1 m2 == 0) = false := by rw [beq_eq_false_iff_ne]; exact fun h => hm (icmp_zero.1 h)
    clear hm
    go_upto_region 3 with fail
    refine frame_intro (fun a => G a 0 = .pointer (some ⟨px, 0, none⟩) ∧ G a 1 = .pointer (some ⟨py, 0, none⟩) ∧ a.tmps.size = 33 ∧ a.defers = []) ⟨rfl, rfl, rfl, rfl⟩ ?_
    rintro f0 ⟨s0, s1, hsz, hdf⟩
    refine region_any (I := RP w3 f0 33 [18, 19, 20, 21, 22, 23, 24, 25, 26, 27, 28, 29, 30, 31, 32, 4] 99 (fun _ => True) [.new 0 0, .lit (.pointer (some ⟨px, 0, none⟩)), .lit (.pointer (some ⟨px, 0, none⟩)), .lit (.pointer (some ⟨px, 0, none⟩)), .lit (.pointer (some ⟨py, 0, none⟩)), .ptr 5 (pI m2), .ptr 0 (pI (n1 * m2)), .new 7 0, .lit (.pointer (some ⟨py, 0, none⟩)), .lit (.pointer (some ⟨py, 0, none⟩)), .lit (.pointer (some ⟨py, 0, none⟩)), .lit (.pointer (some ⟨px, 0, none⟩)), .ptr 12 (pI m1), .ptr 7 (pI (n2 * m1)), .lit (.int .i64 (icmp (n1 * m2) (n2 * m1))), .lit (.int .i64 (icmp (n1 * m2) (n2 * m1)))]) (by kernel_rfl) ?wait ?step ?done ?start
    case wait => exact ⟨by simp, by simp, by simp, by simp, by simp, by simp, by simp, by simp, by simp, by simp, by simp, by simp, by simp, by simp, by simp, by simp, trivial⟩
    case start => exact RP.start hsz hdf ((Below.refl _ _).drew)
    case step =>
      refine ⟨?_, ?_, ?_, ?_, ?_, ?_, ?_, ?_, ?_, ?_, ?_, ?_, ?_, ?_, ?_, ?_, trivial⟩
      · rintro L fa wx h hcl hL hw2
        exact rp_new h (by decide) rfl rfl rfl (by decide) (by decide) (h.nogi (by decide)) rfl run_newI ZA.new rfl
      · rintro L fa wx h hcl hL hw2
        exact rp_val h (by decide) rfl rfl rfl (by decide) (by decide) rfl (run_mv (eval_G ((h.keep (s := 0) (by decide)).trans s0))) rfl
      · rintro L fa wx h hcl hL hw2
        exact rp_val h (by decide) rfl rfl rfl (by decide) (by decide) rfl (run_nil (eval_G (show G fa 19 = .pointer (some ⟨px, 0, none⟩) from h.lit (hw2 ⟨1, .data⟩ (by simp) rfl) rfl rfl))) rfl
      · rintro L fa wx h hcl hL hw2
        exact rp_val h (by decide) rfl rfl rfl (by decide) (by decide) rfl (run_fldA (eval_G (show G fa 20 = .pointer (some ⟨px, 0, none⟩) from h.lit (hw2 ⟨2, .data⟩ (by simp) rfl) rfl rfl))) rfl
      · rintro L fa wx h hcl hL hw2
        exact rp_val h (by decide) rfl rfl rfl (by decide) (by decide) rfl (run_mv (eval_G ((h.keep (s := 1) (by decide)).trans s1))) rfl
      · rintro L fa wx h hcl hL hw2
        exact rp_make h (by decide) rfl rfl rfl (by decide) (by decide) (h.nogi (by decide)) rfl (run_call1 (eval_G (show G fa 22 = .pointer (some ⟨py, 0, none⟩) from h.lit (hw2 ⟨4, .data⟩ (by simp) rfl) rfl rfl)) callDen) (unhide DY3 wx (h.old (h.nogi (by decide)))) rfl
      · rintro L fa wx h hcl hL hw2
        obtain ⟨b0, e0, z0, l0⟩ := h.new (h.nogi (by decide)) (hw2 ⟨0, .data⟩ (by simp) rfl) rfl rfl
        obtain ⟨b2, o2, e2, mm2⟩ := h.ptr (h.nogi (by decide)) (hw2 ⟨5, .data⟩ (by simp) rfl) rfl rfl
        exact rp_put h (by decide) rfl rfl rfl (by decide) (by decide) (h.nogi (by decide)) rfl (run_call3 (eval_G e0) (eval_G (show G fa 21 = .pointer (some ⟨px, 0, none⟩) from h.lit (hw2 ⟨3, .data⟩ (by simp) rfl) rfl rfl)) (eval_G e2) callIMul) (hw2 ⟨0, .data⟩ (by simp) rfl) rfl rfl e0 (mul_put z0 ((unhide HX3).num.below (h.old (h.nogi (by decide)))) mm2 (by omega) (by omega)) rfl (al_of (bad := [6]) rfl (by
        intro k hk
        simp only [List.mem_cons, List.not_mem_nil, or_false] at hk
        rcases hk with rfl
        · exact hL))
      · rintro L fa wx h hcl hL hw2
        exact rp_new h (by decide) rfl rfl rfl (by decide) (by decide) (h.nogi (by decide)) rfl run_newI ZA.new rfl
      · rintro L fa wx h hcl hL hw2
        exact rp_val h (by decide) rfl rfl rfl (by decide) (by decide) rfl (run_mv (eval_G ((h.keep (s := 1) (by decide)).trans s1))) rfl
      · rintro L fa wx h hcl hL hw2
        exact rp_val h (by decide) rfl rfl rfl (by decide) (by decide) rfl (run_nil (eval_G (show G fa 26 = .pointer (some ⟨py, 0, none⟩) from h.lit (hw2 ⟨8, .data⟩ (by simp) rfl) rfl rfl))) rfl
      · rintro L fa wx h hcl hL hw2
        exact rp_val h (by decide) rfl rfl rfl (by decide) (by decide) rfl (run_fldA (eval_G (show G fa 27 = .pointer (some ⟨py, 0, none⟩) from h.lit (hw2 ⟨9, .data⟩ (by simp) rfl) rfl rfl))) rfl
      · rintro L fa wx h hcl hL hw2
        exact rp_val h (by decide) rfl rfl rfl (by decide) (by decide) rfl (run_mv (eval_G ((h.keep (s := 0) (by decide)).trans s0))) rfl
      · rintro L fa wx h hcl hL hw2
        exact rp_make h (by decide) rfl rfl rfl (by decide) (by decide) (h.nogi (by decide)) rfl (run_call1 (eval_G (show G fa 29 = .pointer (some ⟨px, 0, none⟩) from h.lit (hw2 ⟨11, .data⟩ (by simp) rfl) rfl rfl)) callDen) (unhide DX3 wx (h.old (h.nogi (by decide)))) rfl
      · rintro L fa wx h hcl hL hw2
        obtain ⟨b0, e0, z0, l0⟩ := h.new (h.nogi (by decide)) (hw2 ⟨7, .data⟩ (by simp) rfl) rfl rfl
        obtain ⟨b2, o2, e2, mm2⟩ := h.ptr (h.nogi (by decide)) (hw2 ⟨12, .data⟩ (by simp) rfl) rfl rfl
        exact rp_put h (by decide) rfl rfl rfl (by decide) (by decide) (h.nogi (by decide)) rfl (run_call3 (eval_G e0) (eval_G (show G fa 28 = .pointer (some ⟨py, 0, none⟩) from h.lit (hw2 ⟨10, .data⟩ (by simp) rfl) rfl rfl)) (eval_G e2) callIMul) (hw2 ⟨7, .data⟩ (by simp) rfl) rfl rfl e0 (mul_put z0 ((unhide HY3).num.below (h.old (h.nogi (by decide)))) mm2 (by omega) (by omega)) rfl (al_of (bad := [13]) rfl (by
        intro k hk
        simp only [List.mem_cons, List.not_mem_nil, or_false] at hk
        rcases hk with rfl
        · exact hL))
      · rintro L fa wx h hcl hL hw2
        obtain ⟨b0, o0, e0, mm0⟩ := h.ptr (h.nogi (by decide)) (hw2 ⟨6, .data⟩ (by simp) rfl) rfl rfl
        obtain ⟨b1, o1, e1, mm1⟩ := h.ptr (h.nogi (by decide)) (hw2 ⟨13, .data⟩ (by simp) rfl) rfl rfl
        exact rp_read h (by decide) rfl rfl rfl (by decide) (by decide) (h.nogi (by decide)) rfl (run_call2 (eval_G e0) (eval_G e1) callICmp) (icmp_any _ _ _ _ (n1 * m2) (n2 * m1) wx mm0 mm1) rfl
      · rintro L fa wx h hcl hL hw2
        exact rp_val h (by decide) rfl rfl rfl (by decide) (by decide) rfl (run_asg (eval_G (show G fa 32 = .int .i64 (icmp (n1 * m2) (n2 * m1)) from h.lit (hw2 ⟨14, .data⟩ (by simp) rfl) rfl rfl))) rfl
    case done =>
      rintro L f1 w4 h hall
      have q4 : G f1 4 = .int .i64 (icmp (n1 * m2) (n2 * m1)) := h.lit (i := 15) (hall 15 (by simp)) rfl rfl
      have HO := hide (h.old (h.nogi (by decide)))
      rw [fr33 h.size h.defs, q4]
      clear h hall q4
      go_wp2
      go_ret
      exact ⟨congrArg (fun z => Ending.returned (Value.int .i64 z)) (unhide key), below_step (unhide HB3) (unhide HO)⟩

end Go.Proofs.YtbdgngfpofohpaaDoor

/- Walks: the document's answer: Ten, Rat2, Down. -/
namespace Go.Proofs.YtbdgngfpofohpaaDoor
open Go.RowKit

theorem Bl2.low {b m B : Nat} {w w' : World} (h : Bl2 b m w w') (hb : B ≤ b) (hm : B ≤ m) (hw : B ≤ w.heap.size) : Below B w w' := ⟨h.os, h.tape, h.output, h.size, fun k hk => h.block k (by omega) (by omega) (by omega)⟩
theorem Ln_ten (k : Nat) : Ln ((10 : Int) ^ k) ≤ k + 1 := by
  apply Ln_le
  rw [Int.natAbs_pow]
  have h1 : (10 : Int).natAbs ^ k ≤ 4294967296 ^ k := Nat.pow_le_pow_left (by decide) k
  have h2 : 4294967296 ^ k < 4294967296 ^ (k + 1) := Nat.pow_lt_pow_right (by omega) (by omega)
  omega

set_option maxHeartbeats 2000000 in
theorem ten_any (n : Int) (w : World) (h1 : -200 ≤ n) (h2 : n ≤ 200) :
    Calls Tryd.prog 55 #[.int .i64 n] w fun e w' => e = .returned (.pointer (some ⟨w.heap.size, 0, none⟩)) ∧ IA w' w.heap.size 0 ((10 : Int) ^ n.toNat) ∧ Below w.heap.size w w' := by
  have NI := hide (newInt_any 1 w (by omega) (by omega))
  go_enter Tryd.func55, Tryd.ntmps55
  go_wp2_with fail
  refine (unhide NI).mono ?_
  rintro e w1 ⟨rfl, i1, hb1⟩
  have HI := hide i1
  have HB := hide hb1
  clear i1 hb1 NI
  go_wp2_with fail
  go_loopw [0] (fun i wr => ∃ k : Nat, k ≤ n.toNat ∧ i = .int .i64 (n - k) ∧ Hid (IA wr w.heap.size 0 ((10 : Int) ^ k)) ∧ Hid (Below w.heap.size w wr)) (fun i _ => (intOf i).toNat)
  case atStart => exact ⟨0, Nat.zero_le _, by simp, HI, HB⟩
  case round =>
    obtain ⟨k, hk, rfl, HI2, HB2⟩ := hrel
    clear HI HB
    by_cases g : 0 < n - (k : Int)
    · have hs := (unhide HB2).size
      have N2 := hide (newInt_any 10 wr (by omega) (by omega))
      go_wp2_with fail
      refine (unhide N2).mono ?_
      rintro e w2 ⟨rfl, i2, hb2⟩
      have lk := Ln_ten k
      have MU := hide (imul_any w.heap.size 0 w.heap.size 0 wr.heap.size 0 ((10 : Int) ^ k) 10 w2 ((unhide HI2).place.below hb2) ((unhide HI2).below hb2) i2 (by unfold Ln at lk; omega) (len_small (by decide)))
      have HB3 := hide (below_step (unhide HB2) hb2)
      clear i2 hb2 N2 lk
      go_wp2_with fail
      refine (unhide MU).mono ?_
      rintro e w3 ⟨rfl, i3, ho3⟩
      have HI3 := hide i3
      have HB4 := hide ((unhide HB3).trans (ho3.below (Nat.le_refl _) (unhide HB3).size))
      clear i3 ho3 MU
      go_wp2
      refine ⟨⟨k + 1, by omega, by congr 1; omega, hide ?_, HB4⟩, ?_⟩
      · rw [Int.pow_succ]; exact unhide HI3
      · simp [intOf]; omega
    · have HE : Hid (n.toNat = k) := hide (by omega)
      go_wp2
      go_ret
      rw [unhide HE]
      exact ⟨rfl, unhide HI2, unhide HB2⟩
end Go.Proofs.YtbdgngfpofohpaaDoor
