/- Walks: ratios: Neg, Abs, Cmp (written by gen_bz8.py). -/
import Derived.Test.YtdkgapapdjefdaaGreatDoorH07
import Derived.Test.YtdkgapapdjefdaaGreatDoorH01
namespace Go.Proofs.YtdkgapapdjefdaaGreatDoor
open Go.RowKit

theorem callINeg (zs : Array Value) (w : World) : Sem.run Tryz.prog (callFunc 155 zs) w = .ok (.enter 155 zs) w := by simp [go_sem]

theorem callICmp (zs : Array Value) (w : World) : Sem.run Tryz.prog (callFunc 102 zs) w = .ok (.enter 102 zs) w := by simp [go_sem]

theorem abs_ratio {n d N D : Int} (hD : 0 < D) (hd : 0 < d) (e : n * D = N * d) : (n.natAbs : Int) * D = (N.natAbs : Int) * d := by
  have : n.natAbs * D.natAbs = N.natAbs * d.natAbs := by rw [← Int.natAbs_mul, ← Int.natAbs_mul, e]
  have h : ((n.natAbs * D.natAbs : Nat) : Int) = ((N.natAbs * d.natAbs : Nat) : Int) := by rw [this]
  rw [Int.natCast_mul, Int.natCast_mul] at h
  rwa [show ((D.natAbs : Nat) : Int) = D by omega, show ((d.natAbs : Nat) : Int) = d by omega] at h

theorem fr16 {a : Act} (hs : a.tmps.size = 16) (hd : a.defers = []) : a = { tmps := #[G a 0, G a 1, G a 2, G a 3, G a 4, G a 5, G a 6, G a 7, G a 8, G a 9, G a 10, G a 11, G a 12, G a 13, G a 14, G a 15], defers := [] } := frame_is hs hd

set_option maxRecDepth 100000 in
set_option maxHeartbeats 4000000 in
theorem rcmp_any (px py : Nat) (N1 D1 N2 D2 : Int) (w : World) (hx : RV w px N1 D1) (hy : RV w py N2 D2) (d1 : 0 < D1) (d2 : 0 < D2) (lx : Ln N1 ≤ 20000) (kx : Ln D1 ≤ 20000) (ly : Ln N2 ≤ 20000) (ky : Ln D2 ≤ 20000) :
    Calls Tryz.prog 66 #[.pointer (some ⟨px, 0, none⟩), .pointer (some ⟨py, 0, none⟩)] w fun e w' => e = .returned (.int .i64 (icmp (N1 * D2) (N2 * D1))) ∧ Below w.heap.size w w' := by
  obtain ⟨n1, m1, qx, e1, g1⟩ := hx
  obtain ⟨n2, m2, qy, e2, g2⟩ := hy
  have r1 := Ln_mono (ratio_le (by omega) e1 g1)
  have r2 := Ln_mono (ratio_le (by omega) e2 g2)
  have r3 := Ln_mono g1
  have r4 := Ln_mono g2
  have p1 := qx.pos
  have p2 := qy.pos
  have key : Hid (icmp (n1 * m2) (n2 * m1) = icmp (N1 * D2) (N2 * D1)) := hide (icmp_cross (K := D1 * D2) (M := m1 * m2) (Int.mul_pos d1 d2) (Int.mul_pos p1 p2) (by rw [show n1 * m2 * (D1 * D2) = (n1 * D1) * (m2 * D2) by grind, e1]; grind) (by rw [show n2 * m1 * (D1 * D2) = (n2 * D2) * (m1 * D1) by grind, e2]; grind))
  have C1 := hide (den_q px n1 m1 w qx)
  have HX := hide qx
  have HY := hide qy
  clear qx qy e1 e2
  go_enter Tryz.func66, Tryz.ntmps66
  go_wp2_with fail
  refine (unhide C1).mono ?_
  rintro e w1 ⟨b1, o1, rfl, i1, -, hb1⟩
  have C2 := hide (den_q py n2 m2 w1 ((unhide HY).below hb1))
  have HI1 := hide i1
  have HB1 := hide hb1
  clear i1 hb1
  go_wp2_with fail
  refine (unhide C2).mono ?_
  rintro e w2 ⟨b2, o2, rfl, i2, -, hb2⟩
  have CC := hide (icmp_any b1 o1 b2 o2 m1 m2 w2 ((unhide HI1).below hb2) i2)
  have HB2 := hide (below_step (unhide HB1) hb2)
  clear i2 hb2
  go_wp2_with fail
  refine (unhide CC).mono ?_
  rintro e w3 ⟨rfl, hb3⟩
  have B3 := below_step (unhide HB2) hb3
  have HX3 := hide ((unhide HX).below B3)
  have HY3 := hide ((unhide HY).below B3)
  have HB3 := hide B3
  have DX3 := hide (den_make (unhide HX3))
  have DY3 := hide (den_make (unhide HY3))
  have t1 := Ln_mul n1 m2
  have t2 := Ln_mul n2 m1
  clear hb3 B3
  by_cases hm : m1 = m2
  · have g : (icmp m1 m2 == 0) = true := by rw [beq_iff_eq]; exact icmp_zero.2 hm
    have k2 : Hid (icmp n1 n2 = icmp (n1 * m2) (n2 * m1)) := hide (by subst hm; exact icmp_cross (K := m1) (M := 1) p1 (by omega) (by rw [Int.mul_one]) (by rw [Int.mul_one]))
    clear hm
    go_upto_region 2 with fail
    refine frame_intro (fun a => G a 0 = .pointer (some ⟨px, 0, none⟩) ∧ G a 1 = .pointer (some ⟨py, 0, none⟩) ∧ a.tmps.size = 33 ∧ a.defers = []) ⟨rfl, rfl, rfl, rfl⟩ ?_
    rintro f0 ⟨s0, s1, hsz, hdf⟩
    refine region_any (I := RP w3 f0 33 [11, 12, 13, 14, 15, 16, 17, 4] 99 (fun _ => True) [.lit (.pointer (some ⟨px, 0, none⟩)), .lit (.pointer (some ⟨px, 0, none⟩)), .lit (.pointer (some ⟨px, 0, none⟩)), .lit (.pointer (some ⟨py, 0, none⟩)), .lit (.pointer (some ⟨py, 0, none⟩)), .lit (.pointer (some ⟨py, 0, none⟩)), .lit (.int .i64 (icmp n1 n2)), .lit (.int .i64 (icmp n1 n2))]) (by kernel_rfl) ?wait ?step ?done ?start
    case wait => exact ⟨by simp, by simp, by simp, by simp, by simp, by simp, by simp, by simp, trivial⟩
    case start => exact RP.start hsz hdf ((Below.refl _ _).drew)
    case step =>
      refine ⟨?_, ?_, ?_, ?_, ?_, ?_, ?_, ?_, trivial⟩
      · rintro L fa wx h hcl hL hw2
        exact rp_val h (by decide) rfl rfl rfl (by decide) (by decide) rfl (run_mv (eval_G ((h.keep (s := 0) (by decide)).trans s0))) rfl
      · rintro L fa wx h hcl hL hw2
        exact rp_val h (by decide) rfl rfl rfl (by decide) (by decide) rfl (run_nil (eval_G (show G fa 11 = .pointer (some ⟨px, 0, none⟩) from h.lit (hw2 ⟨0, .data⟩ (by simp) rfl) rfl rfl))) rfl
      · rintro L fa wx h hcl hL hw2
        exact rp_val h (by decide) rfl rfl rfl (by decide) (by decide) rfl (run_fldA (eval_G (show G fa 12 = .pointer (some ⟨px, 0, none⟩) from h.lit (hw2 ⟨1, .data⟩ (by simp) rfl) rfl rfl))) rfl
      · rintro L fa wx h hcl hL hw2
        exact rp_val h (by decide) rfl rfl rfl (by decide) (by decide) rfl (run_mv (eval_G ((h.keep (s := 1) (by decide)).trans s1))) rfl
      · rintro L fa wx h hcl hL hw2
        exact rp_val h (by decide) rfl rfl rfl (by decide) (by decide) rfl (run_nil (eval_G (show G fa 14 = .pointer (some ⟨py, 0, none⟩) from h.lit (hw2 ⟨3, .data⟩ (by simp) rfl) rfl rfl))) rfl
      · rintro L fa wx h hcl hL hw2
        exact rp_val h (by decide) rfl rfl rfl (by decide) (by decide) rfl (run_fldA (eval_G (show G fa 15 = .pointer (some ⟨py, 0, none⟩) from h.lit (hw2 ⟨4, .data⟩ (by simp) rfl) rfl rfl))) rfl
      · rintro L fa wx h hcl hL hw2
        exact rp_read h (by decide) rfl rfl rfl (by decide) (by decide) (h.nogi (by decide)) rfl (run_call2 (eval_G (show G fa 13 = .pointer (some ⟨px, 0, none⟩) from h.lit (hw2 ⟨2, .data⟩ (by simp) rfl) rfl rfl)) (eval_G (show G fa 16 = .pointer (some ⟨py, 0, none⟩) from h.lit (hw2 ⟨5, .data⟩ (by simp) rfl) rfl rfl)) callICmp) (icmp_any _ _ _ _ n1 n2 wx ((unhide HX3).num.below (h.old (h.nogi (by decide)))) ((unhide HY3).num.below (h.old (h.nogi (by decide))))) rfl
      · rintro L fa wx h hcl hL hw2
        exact rp_val h (by decide) rfl rfl rfl (by decide) (by decide) rfl (run_asg (eval_G (show G fa 17 = .int .i64 (icmp n1 n2) from h.lit (hw2 ⟨6, .data⟩ (by simp) rfl) rfl rfl))) rfl
    case done =>
      rintro L f1 w4 h hall
      have q4 : G f1 4 = .int .i64 (icmp n1 n2) := h.lit (i := 7) (hall 7 (by simp)) rfl rfl
      have HO := hide (h.old (h.nogi (by decide)))
      rw [fr33 h.size h.defs, q4]
      clear h hall q4
      go_wp2
      go_ret
      exact ⟨congrArg (fun z => Ending.returned (Value.int .i64 z)) ((unhide k2).trans (unhide key)), below_step (unhide HB3) (unhide HO)⟩
  · have g : (icmp m1 m2 == 0) = false := by rw [beq_eq_false_iff_ne]; exact fun h => hm (icmp_zero.1 h)
    clear hm
    go_upto_region 3 with fail
    refine frame_intro (fun a => G a 0 = .pointer (some ⟨px, 0, none⟩) ∧ G a 1 = .pointer (some ⟨py, 0, none⟩) ∧ a.tmps.size = 33 ∧ a.defers = []) ⟨rfl, rfl, rfl, rfl⟩ ?_
    rintro f0 ⟨s0, s1, hsz, hdf⟩
    refine region_any (I := RP w3 f0 33 [18, 19, 20, 21, 22, 23, 24, 25, 26, 27, 28, 29, 30, 31, 32, 4] 99 (fun _ => True) [.new 0 0, .lit (.pointer (some ⟨px, 0, none⟩)), .lit (.pointer (some ⟨px, 0, none⟩)), .lit (.pointer (some ⟨px, 0, none⟩)), .lit (.pointer (some ⟨py, 0, none⟩)), .ptr 5 (pI m2), .ptr 0 (pI (n1 * m2)), .new 7 0, .lit (.pointer (some ⟨py, 0, none⟩)), .lit (.pointer (some ⟨py, 0, none⟩)), .lit (.pointer (some ⟨py, 0, none⟩)), .lit (.pointer (some ⟨px, 0, none⟩)), .ptr 12 (pI m1), .ptr 7 (pI (n2 * m1)), .lit (.int .i64 (icmp (n1 * m2) (n2 * m1))), .lit (.int .i64 (icmp (n1 * m2) (n2 * m1)))]) (by kernel_rfl) ?wait ?step ?done ?start
    case wait => exact ⟨by simp, by simp, by simp, by simp, by simp, by simp, by simp, by simp, by simp, by simp, by simp, by simp, by simp, by simp, by simp, by simp, trivial⟩
    case start => exact RP.start hsz hdf ((Below.refl _ _).drew)
    case step =>
      refine ⟨?_, ?_, ?_, ?_, ?_, ?_, ?_, ?_, ?_, ?_, ?_, ?_, ?_, ?_, ?_, ?_, trivial⟩
      · rintro L fa wx h hcl hL hw2
        exact rp_new h (by decide) rfl rfl rfl (by decide) (by decide) (h.nogi (by decide)) rfl run_newI ZA.new rfl
      · rintro L fa wx h hcl hL hw2
        exact rp_val h (by decide) rfl rfl rfl (by decide) (by decide) rfl (run_mv (eval_G ((h.keep (s := 0) (by decide)).trans s0))) rfl
      · rintro L fa wx h hcl hL hw2
        exact rp_val h (by decide) rfl rfl rfl (by decide) (by decide) rfl (run_nil (eval_G (show G fa 19 = .pointer (some ⟨px, 0, none⟩) from h.lit (hw2 ⟨1, .data⟩ (by simp) rfl) rfl rfl))) rfl
      · rintro L fa wx h hcl hL hw2
        exact rp_val h (by decide) rfl rfl rfl (by decide) (by decide) rfl (run_fldA (eval_G (show G fa 20 = .pointer (some ⟨px, 0, none⟩) from h.lit (hw2 ⟨2, .data⟩ (by simp) rfl) rfl rfl))) rfl
      · rintro L fa wx h hcl hL hw2
        exact rp_val h (by decide) rfl rfl rfl (by decide) (by decide) rfl (run_mv (eval_G ((h.keep (s := 1) (by decide)).trans s1))) rfl
      · rintro L fa wx h hcl hL hw2
        exact rp_make h (by decide) rfl rfl rfl (by decide) (by decide) (h.nogi (by decide)) rfl (run_call1 (eval_G (show G fa 22 = .pointer (some ⟨py, 0, none⟩) from h.lit (hw2 ⟨4, .data⟩ (by simp) rfl) rfl rfl)) callDen) (unhide DY3 wx (h.old (h.nogi (by decide)))) rfl
      · rintro L fa wx h hcl hL hw2
        obtain ⟨b0, e0, z0, l0⟩ := h.new (h.nogi (by decide)) (hw2 ⟨0, .data⟩ (by simp) rfl) rfl rfl
        obtain ⟨b2, o2, e2, mm2⟩ := h.ptr (h.nogi (by decide)) (hw2 ⟨5, .data⟩ (by simp) rfl) rfl rfl
        exact rp_put h (by decide) rfl rfl rfl (by decide) (by decide) (h.nogi (by decide)) rfl (run_call3 (eval_G e0) (eval_G (show G fa 21 = .pointer (some ⟨px, 0, none⟩) from h.lit (hw2 ⟨3, .data⟩ (by simp) rfl) rfl rfl)) (eval_G e2) callIMul) (hw2 ⟨0, .data⟩ (by simp) rfl) rfl rfl e0 (mul_put z0 ((unhide HX3).num.below (h.old (h.nogi (by decide)))) mm2 (by omega) (by omega)) rfl (al_of (bad := [6]) rfl (by
        intro k hk
        simp only [List.mem_cons, List.not_mem_nil, or_false] at hk
        rcases hk with rfl
        · exact hL))
      · rintro L fa wx h hcl hL hw2
        exact rp_new h (by decide) rfl rfl rfl (by decide) (by decide) (h.nogi (by decide)) rfl run_newI ZA.new rfl
      · rintro L fa wx h hcl hL hw2
        exact rp_val h (by decide) rfl rfl rfl (by decide) (by decide) rfl (run_mv (eval_G ((h.keep (s := 1) (by decide)).trans s1))) rfl
      · rintro L fa wx h hcl hL hw2
        exact rp_val h (by decide) rfl rfl rfl (by decide) (by decide) rfl (run_nil (eval_G (show G fa 26 = .pointer (some ⟨py, 0, none⟩) from h.lit (hw2 ⟨8, .data⟩ (by simp) rfl) rfl rfl))) rfl
      · rintro L fa wx h hcl hL hw2
        exact rp_val h (by decide) rfl rfl rfl (by decide) (by decide) rfl (run_fldA (eval_G (show G fa 27 = .pointer (some ⟨py, 0, none⟩) from h.lit (hw2 ⟨9, .data⟩ (by simp) rfl) rfl rfl))) rfl
      · rintro L fa wx h hcl hL hw2
        exact rp_val h (by decide) rfl rfl rfl (by decide) (by decide) rfl (run_mv (eval_G ((h.keep (s := 0) (by decide)).trans s0))) rfl
      · rintro L fa wx h hcl hL hw2
        exact rp_make h (by decide) rfl rfl rfl (by decide) (by decide) (h.nogi (by decide)) rfl (run_call1 (eval_G (show G fa 29 = .pointer (some ⟨px, 0, none⟩) from h.lit (hw2 ⟨11, .data⟩ (by simp) rfl) rfl rfl)) callDen) (unhide DX3 wx (h.old (h.nogi (by decide)))) rfl
      · rintro L fa wx h hcl hL hw2
        obtain ⟨b0, e0, z0, l0⟩ := h.new (h.nogi (by decide)) (hw2 ⟨7, .data⟩ (by simp) rfl) rfl rfl
        obtain ⟨b2, o2, e2, mm2⟩ := h.ptr (h.nogi (by decide)) (hw2 ⟨12, .data⟩ (by simp) rfl) rfl rfl
        exact rp_put h (by decide) rfl rfl rfl (by decide) (by decide) (h.nogi (by decide)) rfl (run_call3 (eval_G e0) (eval_G (show G fa 28 = .pointer (some ⟨py, 0, none⟩) from h.lit (hw2 ⟨10, .data⟩ (by simp) rfl) rfl rfl)) (eval_G e2) callIMul) (hw2 ⟨7, .data⟩ (by simp) rfl) rfl rfl e0 (mul_put z0 ((unhide HY3).num.below (h.old (h.nogi (by decide)))) mm2 (by omega) (by omega)) rfl (al_of (bad := [13]) rfl (by
        intro k hk
        simp only [List.mem_cons, List.not_mem_nil, or_false] at hk
        rcases hk with rfl
        · exact hL))
      · rintro L fa wx h hcl hL hw2
        obtain ⟨b0, o0, e0, mm0⟩ := h.ptr (h.nogi (by decide)) (hw2 ⟨6, .data⟩ (by simp) rfl) rfl rfl
        obtain ⟨b1, o1, e1, mm1⟩ := h.ptr (h.nogi (by decide)) (hw2 ⟨13, .data⟩ (by simp) rfl) rfl rfl
        exact rp_read h (by decide) rfl rfl rfl (by decide) (by decide) (h.nogi (by decide)) rfl (run_call2 (eval_G e0) (eval_G e1) callICmp) (icmp_any _ _ _ _ (n1 * m2) (n2 * m1) wx mm0 mm1) rfl
      · rintro L fa wx h hcl hL hw2
        exact rp_val h (by decide) rfl rfl rfl (by decide) (by decide) rfl (run_asg (eval_G (show G fa 32 = .int .i64 (icmp (n1 * m2) (n2 * m1)) from h.lit (hw2 ⟨14, .data⟩ (by simp) rfl) rfl rfl))) rfl
    case done =>
      rintro L f1 w4 h hall
      have q4 : G f1 4 = .int .i64 (icmp (n1 * m2) (n2 * m1)) := h.lit (i := 15) (hall 15 (by simp)) rfl rfl
      have HO := hide (h.old (h.nogi (by decide)))
      rw [fr33 h.size h.defs, q4]
      clear h hall q4
      go_wp2
      go_ret
      exact ⟨congrArg (fun z => Ending.returned (Value.int .i64 z)) (unhide key), below_step (unhide HB3) (unhide HO)⟩

end Go.Proofs.YtdkgapapdjefdaaGreatDoor

/- Walks: the document's answer: Ten, Rat2, Down. -/
namespace Go.Proofs.YtdkgapapdjefdaaGreatDoor
open Go.RowKit

theorem Bl2.low {b m B : Nat} {w w' : World} (h : Bl2 b m w w') (hb : B ≤ b) (hm : B ≤ m) (hw : B ≤ w.heap.size) : Below B w w' := ⟨h.os, h.tape, h.output, h.size, fun k hk => h.block k (by omega) (by omega) (by omega)⟩
theorem Ln_ten (k : Nat) : Ln ((10 : Int) ^ k) ≤ k + 1 := by
  apply Ln_le
  rw [Int.natAbs_pow]
  have h1 : (10 : Int).natAbs ^ k ≤ 4294967296 ^ k := Nat.pow_le_pow_left (by decide) k
  have h2 : 4294967296 ^ k < 4294967296 ^ (k + 1) := Nat.pow_lt_pow_right (by omega) (by omega)
  omega

set_option maxHeartbeats 2000000 in
theorem ten_any (n : Int) (w : World) (h1 : -200 ≤ n) (h2 : n ≤ 200) :
    Calls Tryz.prog 97 #[.int .i64 n] w fun e w' => e = .returned (.pointer (some ⟨w.heap.size, 0, none⟩)) ∧ IA w' w.heap.size 0 ((10 : Int) ^ n.toNat) ∧ Below w.heap.size w w' := by
  have NI := hide (newInt_any 1 w (by omega) (by omega))
  go_enter Tryz.func97, Tryz.ntmps97
  go_wp2_with fail
  refine (unhide NI).mono ?_
  rintro e w1 ⟨rfl, i1, hb1⟩
  have HI := hide i1
  have HB := hide hb1
  clear i1 hb1 NI
  go_wp2_with fail
  go_loopw [0] (fun i wr => ∃ k : Nat, k ≤ n.toNat ∧ i = .int .i64 (n - k) ∧ Hid (IA wr w.heap.size 0 ((10 : Int) ^ k)) ∧ Hid (Below w.heap.size w wr)) (fun i _ => (intOf i).toNat)
  case atStart => exact ⟨0, Nat.zero_le _, by simp, HI, HB⟩
  case round =>
    obtain ⟨k, hk, rfl, HI2, HB2⟩ := hrel
    clear HI HB
    by_cases g : 0 < n - (k : Int)
    · have hs := (unhide HB2).size
      have N2 := hide (newInt_any 10 wr (by omega) (by omega))
      go_wp2_with fail
      refine (unhide N2).mono ?_
      rintro e w2 ⟨rfl, i2, hb2⟩
      have lk := Ln_ten k
      have MU := hide (imul_any w.heap.size 0 w.heap.size 0 wr.heap.size 0 ((10 : Int) ^ k) 10 w2 ((unhide HI2).place.below hb2) ((unhide HI2).below hb2) i2 (by unfold Ln at lk; omega) (len_small (by decide)))
      have HB3 := hide (below_step (unhide HB2) hb2)
      clear i2 hb2 N2 lk
      go_wp2_with fail
      refine (unhide MU).mono ?_
      rintro e w3 ⟨rfl, i3, ho3⟩
      have HI3 := hide i3
      have HB4 := hide ((unhide HB3).trans (ho3.below (Nat.le_refl _) (unhide HB3).size))
      clear i3 ho3 MU
      go_wp2
      refine ⟨⟨k + 1, by omega, by congr 1; omega, hide ?_, HB4⟩, ?_⟩
      · rw [Int.pow_succ]; exact unhide HI3
      · simp [intOf]; omega
    · have HE : Hid (n.toNat = k) := hide (by omega)
      go_wp2
      go_ret
      rw [unhide HE]
      exact ⟨rfl, unhide HI2, unhide HB2⟩
end Go.Proofs.YtdkgapapdjefdaaGreatDoor

/- Walks: the document's answer: Rat2, Down, Nearest. -/
namespace Go.Proofs.YtdkgapapdjefdaaGreatDoor
open Go.RowKit

theorem ten_at (n : Int) (w : World) (k : Nat) (hk : w.heap.size = k) (h1 : -200 ≤ n) (h2 : n ≤ 200) :
    Calls Tryz.prog 97 #[.int .i64 n] w fun e w' => e = .returned (.pointer (some ⟨k, 0, none⟩)) ∧ IA w' k 0 ((10 : Int) ^ n.toNat) ∧ Below w.heap.size w w' := by
  subst hk
  exact ten_any n w h1 h2

theorem pow_ne (k : Nat) : (10 : Int) ^ k ≠ 0 := Int.pow_ne_zero (by decide)

theorem div_ratio {n d N D : Int} (hd : 0 < d) (hD : 0 < D) (e : n * D = N * d) : n / d = N / D := by
  have a : n / d = (n * D) / (d * D) := (Int.mul_ediv_mul_of_pos_left n d hD).symm
  have b : N / D = (N * d) / (D * d) := (Int.mul_ediv_mul_of_pos_left N D hd).symm
  rw [a, b, e, Int.mul_comm d D]
end Go.Proofs.YtdkgapapdjefdaaGreatDoor

/- Walks: the document's answer: Nearest. -/
namespace Go.Proofs.YtdkgapapdjefdaaGreatDoor
open Go.RowKit

theorem nr_cases (N D : Int) : (D < 2 * (N % D) ∧ icmp ((N * 1 + -(N / D * D)) * 2) (1 * (D * 1)) = 1 ∧ Dm.nr N D = N / D + 1) ∨
    (2 * (N % D) = D ∧ icmp ((N * 1 + -(N / D * D)) * 2) (1 * (D * 1)) = 0 ∧ Dm.nr N D = (if N / D % 2 ≠ 0 then N / D + 1 else N / D)) ∨
    (2 * (N % D) < D ∧ icmp ((N * 1 + -(N / D * D)) * 2) (1 * (D * 1)) = -1 ∧ Dm.nr N D = N / D) := by
  have e : (N * 1 + -(N / D * D)) * 2 = 2 * (N % D) := by
    have := Int.mul_ediv_add_emod N D
    rw [Int.mul_comm D] at this
    omega
  rw [e, Int.mul_one, Int.one_mul]
  unfold Dm.nr icmp
  rcases Int.lt_trichotomy (2 * (N % D)) D with h | h | h
  · right; right
    refine ⟨h, if_pos h, if_neg (by omega)⟩
  · right; left
    refine ⟨h, by rw [if_neg (by omega), if_pos h], ?_⟩
    by_cases g : N / D % 2 ≠ 0
    · rw [if_pos (.inr ⟨h, g⟩), if_pos g]
    · rw [if_neg (by omega), if_neg g]
  · left
    exact ⟨h, by rw [if_neg (by omega), if_neg (by omega)], if_pos (.inl h)⟩
theorem Ln_div {N D : Int} (hD : 0 < D) : Ln (N / D) ≤ Ln N + 1 := by
  apply Ln_le
  have h1 := Ln_lt N
  have h2 : (N / D).natAbs ≤ N.natAbs + 1 := by
    rcases Int.lt_or_le N 0 with h | h
    · have a : N ≤ N / D := by
        have := Int.ediv_le_ediv hD (Int.le_refl N)
        exact Int.le_ediv_of_mul_le hD (by
          have : N * D ≤ N * 1 := Int.mul_le_mul_of_nonpos_left (by omega) (by omega)
          omega)
      have b : N / D < 0 := Int.ediv_neg_of_neg_of_pos h hD
      omega
    · have a : 0 ≤ N / D := Int.ediv_nonneg h (by omega)
      have b : N / D ≤ N := Int.ediv_le_self _ h
      omega
  have h3 : 4294967296 ^ Ln N * 1 < 4294967296 ^ Ln N * 4294967296 := Nat.mul_lt_mul_of_pos_left (by omega) (Nat.pow_pos (by omega))
  rw [Nat.pow_succ]
  omega
end Go.Proofs.YtdkgapapdjefdaaGreatDoor

/- Walks: the document's answer: Fit. -/
namespace Go.Proofs.YtdkgapapdjefdaaGreatDoor
open Go.RowKit

/-- what is nearest to N over D in units of 10^e -/
def gq (N D : Int) (e : Int) : Int := Dm.nr (N * (10 : Int) ^ (-e).toNat) (D * (10 : Int) ^ e.toNat)
def fitT (N D : Int) : Int × Int × Int := Dm.fitF (gq N D) 121 (-40)
def toldT (t : Int × Int × Int) : Ending := .returned (.tuple #[.agg #[.int .i64 t.1, .int .i64 t.2.1], .int .i64 t.2.2])
theorem fit_hit {N D e0 q : Int} (hF : fitT N D = Dm.fitF (gq N D) (81 - e0).toNat e0) (hq : gq N D e0 = q) (h1 : e0 ≤ 80) (hl : q.natAbs ≤ 999999999999999999) : fitT N D = (Dm.fC q e0, Dm.fE q e0, Dm.fR q e0) := by
  rw [hF, show (81 - e0).toNat = (80 - e0).toNat + 1 by omega, Dm.fitF_hit _ _ _ (by rw [hq]; exact hl), hq]
theorem fit_next {N D e0 q : Int} (hF : fitT N D = Dm.fitF (gq N D) (81 - e0).toNat e0) (hq : gq N D e0 = q) (h1 : e0 ≤ 80) (hl : ¬ q.natAbs ≤ 999999999999999999) : fitT N D = Dm.fitF (gq N D) (81 - (e0 + 1)).toNat (e0 + 1) := by
  rw [hF, show (81 - e0).toNat = (81 - (e0 + 1)).toNat + 1 by omega, Dm.fitF, if_neg (by rw [hq]; exact hl)]
theorem fit_end {N D e0 : Int} (hF : fitT N D = Dm.fitF (gq N D) (81 - e0).toNat e0) (h1 : ¬ e0 ≤ 80) : fitT N D = (0, 0, 4) := by
  rw [hF, show (81 - e0).toNat = 0 by omega, Dm.fitF]
theorem sgnZ_ne {x : Int} (h : x ≠ 0) : (sgnZ x == 0) = false := by
  rcases Int.lt_trichotomy x 0 with g | g | g
  · unfold sgnZ; rw [if_pos g]; rfl
  · exact absurd g h
  · unfold sgnZ; rw [if_neg (by omega), if_neg h]; rfl
theorem tens_bd {q q1 : Int} {k : Nat} (h : q = Dm.tens q1 k) (h1 : q1 ≠ 0) (hl : q.natAbs ≤ 999999999999999999) : k ≤ 17 ∧ q1.natAbs ≤ 999999999999999999 := by
  have e : q.natAbs = q1.natAbs * 10 ^ k := by rw [h, Dm.tens_eq, Int.natAbs_mul, Int.natAbs_pow]; rfl
  have p := Dm.p10_pos k
  have a : 1 * 10 ^ k ≤ q1.natAbs * 10 ^ k := Nat.mul_le_mul_right _ (by omega)
  have b : q1.natAbs * 1 ≤ q1.natAbs * 10 ^ k := Nat.mul_le_mul_left _ (by omega)
  refine ⟨?_, by omega⟩
  rcases Nat.lt_or_ge k 18 with g | g
  · omega
  · have : 10 ^ 18 ≤ 10 ^ k := Dm.p10_le g
    omega
theorem tens_next {q q1 : Int} {k : Nat} (h : q = Dm.tens q1 k) (hz : q1 % 10 = 0) : q = Dm.tens (q1.tdiv 10) (k + 1) ∧ (q1 ≠ 0 → q1.tdiv 10 ≠ 0) := by
  have e : q1.tdiv 10 * 10 = q1 := Int.tdiv_mul_cancel (Int.dvd_of_emod_eq_zero hz)
  refine ⟨?_, fun h1 h2 => h1 (by rw [← e, h2]; rfl)⟩
  rw [h, Dm.tens_eq, Dm.tens_eq, Int.pow_succ, ← Int.mul_assoc, Int.mul_right_comm, e]
theorem tens_last {q q1 : Int} {k : Nat} (h : q = Dm.tens q1 k) (hz : ¬ q1 % 10 = 0) (hl : q.natAbs ≤ 999999999999999999) : Dm.tz q = k ∧ Dm.tc q = q1 := by
  refine Dm.tz_at h (fun g => hz ?_) (by omega)
  have := Int.dvd_of_tmod_eq_zero g
  exact Int.emod_eq_zero_of_dvd this
end Go.Proofs.YtdkgapapdjefdaaGreatDoor

/- Walks: the document's answer: Wrong, Rat (written by gen_br5.py). -/
namespace Go.Proofs.YtdkgapapdjefdaaGreatDoor
open Go.RowKit

set_option maxHeartbeats 400000 in
theorem rwrong_any (c x : Int) (w : World) :
    Calls Tryz.prog 64 #[.agg #[.int .i64 c, .int .i64 x]] w fun e w' => e = .returned (.int .i64 (Dm.wrongN c x)) ∧ Below w.heap.size w w' := by
  go_enter Tryz.func64, Tryz.ntmps64
  go_wp2
  all_goals
    go_ret
    refine ⟨ret_int ?_, (Below.refl _ _).alloc (Nat.le_refl _) _⟩
    unfold Dm.wrongN
    (repeat' split) <;> first | rfl | (exfalso; omega) | (simp_all; done)

theorem callNewInt (zs : Array Value) (w : World) : Sem.run Tryz.prog (callFunc 99 zs) w = .ok (.enter 99 zs) w := by simp [go_sem]

theorem callTen (zs : Array Value) (w : World) : Sem.run Tryz.prog (callFunc 97 zs) w = .ok (.enter 97 zs) w := by simp [go_sem]

theorem newInt_make {B : Nat} (x : Int) (h1 : -9223372036854775808 ≤ x) (h2 : x ≤ 9223372036854775807) (wx : World) : Calls Tryz.prog 99 #[.int .i64 x] wx fun e w' => ∃ b o, e = .returned (.pointer (some ⟨b, o, none⟩)) ∧ (pI x).is w' b o ∧ (b < B ∨ wx.heap.size ≤ b) ∧ Below wx.heap.size wx w' :=
  (newInt_any x wx h1 h2).mono fun _ _ q => ⟨_, 0, q.1, q.2.1, .inr (Nat.le_refl _), q.2.2⟩

theorem ten_make {B : Nat} (x : Int) (h1 : -200 ≤ x) (h2 : x ≤ 200) (wx : World) : Calls Tryz.prog 97 #[.int .i64 x] wx fun e w' => ∃ b o, e = .returned (.pointer (some ⟨b, o, none⟩)) ∧ (pI ((10 : Int) ^ x.toNat)).is w' b o ∧ (b < B ∨ wx.heap.size ≤ b) ∧ Below wx.heap.size wx w' :=
  (ten_any x wx h1 h2).mono fun _ _ q => ⟨_, 0, q.1, q.2.1, .inr (Nat.le_refl _), q.2.2⟩

theorem frac_put {b b1 o1 b2 o2 : Nat} {A B N D : Int} {w : World} (hz : ZA w b 2) (h1 : IA w b1 o1 A) (h2 : IA w b2 o2 B) (b0 : B ≠ 0) (la : Ln A ≤ 90000) (lb : Ln B ≤ 90000) (e : A * D = N * B) (l : B.natAbs ≤ D.natAbs := by exact Nat.le_refl _) :
    Calls Tryz.prog 98 #[.pointer (some ⟨b, 0, none⟩), .pointer (some ⟨b1, o1, none⟩), .pointer (some ⟨b2, o2, none⟩)] w fun e w' => e = .returned (.pointer (some ⟨b, 0, none⟩)) ∧ (pR N D).is w' b 0 ∧ Blk b w w' :=
  (setFrac_any b b1 o1 b2 o2 A B w hz h1 h2 b0 la lb).mono fun _ _ q => ⟨q.1, ⟨rfl, q.2.1.via b0 e l⟩, q.2.2⟩
section
variable {a : Act} {w : World} {d : Option Nat} {t : TypeId} {p : String} {af : Array Edge} {g : Option (Nat × Bool)}
theorem run_fldD1 {x : Operand} {b : Nat} (h : a.eval x = .pointer (some ⟨b, 0, none⟩)) : (execOp a.eval ⟨d, .fieldAddr 24 x 1, t, p, af, g⟩).run Tryz.prog w = .ok (.value (.pointer (some ⟨b, 1, none⟩))) w := by
  generalize a.eval = E at h ⊢
  simp [go_sem, h]
theorem run_ldI {x : Operand} {ad : Addr} {v : Int} (h : a.eval x = .pointer (some ad)) (hc : w.cell? ad = some (.int .i64 v)) : (execOp a.eval ⟨d, .load 3 x, t, p, af, g⟩).run Tryz.prog w = .ok (.value (.int .i64 v)) w := by
  generalize a.eval = E at h ⊢
  simp [go_sem, h, hc]
theorem run_ldD {x : Operand} {b : Nat} {u v : Int} (h : a.eval x = .pointer (some ⟨b, 0, none⟩)) (h0 : w.cell? ⟨b, 0, none⟩ = some (.int .i64 u)) (h1 : w.cell? ⟨b, 1, none⟩ = some (.int .i64 v)) : (execOp a.eval ⟨d, .load 24 x, t, p, af, g⟩).run Tryz.prog w = .ok (.value (.agg #[.int .i64 u, .int .i64 v])) w := by
  generalize a.eval = E at h ⊢
  simp [go_sem, h, h0, h1]
theorem run_negI {x : Operand} {v : Int} (wr : IntKind.i64.wrap (-v) = -v) (h : a.eval x = .int .i64 v) : (execOp a.eval ⟨d, .unOp .neg 3 x, t, p, af, g⟩).run Tryz.prog w = .ok (.value (.int .i64 (-v))) w := by
  generalize a.eval = E at h ⊢
  simp [go_sem, h, wr]
end

theorem fr28 {a : Act} (hs : a.tmps.size = 28) (hd : a.defers = []) : a = { tmps := #[G a 0, G a 1, G a 2, G a 3, G a 4, G a 5, G a 6, G a 7, G a 8, G a 9, G a 10, G a 11, G a 12, G a 13, G a 14, G a 15, G a 16, G a 17, G a 18, G a 19, G a 20, G a 21, G a 22, G a 23, G a 24, G a 25, G a 26, G a 27], defers := [] } := frame_is hs hd

set_option maxRecDepth 100000 in
set_option maxHeartbeats 4000000 in
theorem ratd_any (c x : Int) (w : World) (c1 : -9223372036854775808 ≤ c) (c2 : c ≤ 9223372036854775807) (h1 : -200 ≤ x) (h2 : x ≤ 200) :
    Calls Tryz.prog 65 #[.agg #[.int .i64 c, .int .i64 x]] w fun e w' => e = .returned (.pointer (some ⟨w.heap.size + 1, 0, none⟩)) ∧ RV w' (w.heap.size + 1) (c * (10 : Int) ^ x.toNat) ((10 : Int) ^ (-x).toNat) ∧ Below w.heap.size w w' := by
  have lc : Ln c ≤ 2 := Ln_small (by omega)
  have m1 := Ln_ten x.toNat
  have m2 := Ln_ten (-x).toNat
  have wr1 : IntKind.i64.wrap (-x) = -x := by rw [IntKind.wrap_i64]; omega
  have NB := below_new w (.cells #[.int .i64 c, .int .i64 x] 24)
  have NR := below_new (w.alloc (.cells #[.int .i64 c, .int .i64 x] 24)) (.cells #[.bool false, .slice none 0 0, .bool false, .slice none 0 0] 136)
  have z1 : ZA ((w.alloc (.cells #[.int .i64 c, .int .i64 x] 24)).alloc (.cells #[.bool false, .slice none 0 0, .bool false, .slice none 0 0] 136)) (w.heap.size + 1) 2 := by
    have := ZA.newR (w.alloc (.cells #[.int .i64 c, .int .i64 x] 24))
    rwa [show (w.alloc (.cells #[.int .i64 c, .int .i64 x] 24)).heap.size = w.heap.size + 1 by simp] at this
  have cb0 : ((w.alloc (.cells #[.int .i64 c, .int .i64 x] 24)).alloc (.cells #[.bool false, .slice none 0 0, .bool false, .slice none 0 0] 136)).cell? ⟨w.heap.size, 1, none⟩ = some (.int .i64 x) := by simp [go_sem]
  have S1 := hide (rsetInt64_any (w.heap.size + 1) c _ z1 c1 c2)
  have HB := hide (below_step NB NR)
  have HZ := hide z1
  clear NB NR z1
  go_enter Tryz.func65, Tryz.ntmps65
  go_wp2_with fail
  refine (unhide S1).mono ?_
  rintro e w1 ⟨rfl, r1, k1⟩
  have ss : w.heap.size + 2 ≤ w1.heap.size := by have := k1.size; simp at this; omega
  have cb1 : w1.cell? ⟨w.heap.size, 1, none⟩ = some (.int .i64 x) := (World.cell?_of_block (w := (w.alloc (.cells #[.int .i64 c, .int .i64 x] 24)).alloc (.cells #[.bool false, .slice none 0 0, .bool false, .slice none 0 0] 136)) (a := ⟨w.heap.size, 1, none⟩) (k1.block w.heap.size (by simp; omega) (by omega))).trans cb0
  have HB1 := hide ((unhide HB).trans (k1.below (by omega) (unhide HB).size))
  have HR1 := hide r1
  have N1 := below_new w1 (.cells #[.bool false, .slice none 0 0, .bool false, .slice none 0 0] 136)
  have T1 := hide (ten_at x (w1.alloc (.cells #[.bool false, .slice none 0 0, .bool false, .slice none 0 0] 136)) (w1.heap.size + 1) (by simp) h1 h2)
  have HR2 := hide (r1.below N1)
  have HB2 := hide (below_step (unhide HB1) N1)
  have HZ2 := hide (ZA.newR w1)
  have cb2 := (N1.cell (p := ⟨w.heap.size, 1, none⟩) (by show w.heap.size < w1.heap.size; omega)).trans cb1
  clear r1 k1 N1 S1 HB HZ cb0
  go_wp2_with fail
  refine (unhide T1).mono ?_
  rintro e w2 ⟨rfl, i2, hb2⟩
  have SI := hide (rsetInt_any w1.heap.size (w1.heap.size + 1) 0 ((10 : Int) ^ x.toNat) w2 ((unhide HZ2).below hb2) i2 (by omega))
  have s2 := hb2.size
  have lw2 : w1.heap.size < w2.heap.size := by simp at s2; omega
  have HR3 := hide ((unhide HR2).below hb2)
  have HB3 := hide (below_step (unhide HB2) hb2)
  have cb2' := (hb2.cell (p := ⟨w.heap.size, 1, none⟩) (by simp; omega)).trans cb2
  have HZ3 := hide ((unhide HZ2).below hb2)
  clear i2 hb2 T1 HR2 HB2 HZ2 cb1 cb2 s2
  go_wp2_with fail
  refine (unhide SI).mono ?_
  rintro e w3 ⟨rfl, r3, k3⟩
  have cb3 : w3.cell? ⟨w.heap.size, 1, none⟩ = some (.int .i64 x) := (World.cell?_of_block (w := w2) (a := ⟨w.heap.size, 1, none⟩) (k3.block w.heap.size (by omega) (by omega))).trans cb2'
  have HR4 := hide ((unhide HR3).kept (Kept.blk' k3 (unhide HZ3) (by omega) (by omega)))
  have HB4 := hide ((unhide HB3).trans (k3.below (by omega) (unhide HB3).size))
  have lb3 : w.heap.size < w3.heap.size := by have := k3.size; omega
  have lb4 : w.heap.size + 1 < w3.heap.size := by have := k3.size; omega
  have HP := hide r3
  clear r3 k3 SI HR3 HB3 HZ3 cb2'
  by_cases hx : x < 0
  · have HEQ : Hid ((1 : Int) * (10 : Int) ^ (-x).toNat = (10 : Int) ^ x.toNat * (10 : Int) ^ (-x).toNat) := hide (by rw [show x.toNat = 0 by omega, Int.pow_zero])
    have L1 : Ln 1 ≤ 2 := Ln_small (by decide)
    clear HP
    go_upto_region 4 with fail
    refine frame_intro (fun a => G a 1 = .pointer (some ⟨w.heap.size, 0, none⟩) ∧ G a 3 = .pointer (some ⟨w.heap.size + 1, 0, none⟩) ∧ a.tmps.size = 28 ∧ a.defers = []) ⟨rfl, rfl, rfl, rfl⟩ ?_
    rintro f0 ⟨s1, s3, hsz, hdf⟩
    refine region_any (I := RP w3 f0 28 [17, 18, 19, 20, 21, 22, 23, 4] 99 (fun _ => True) [.new 0 2, .ptr 1 (pI 1), .lit (.pointer (some ⟨w.heap.size, 1, none⟩)), .lit (.int .i64 x), .lit (.int .i64 (-x)), .ptr 5 (pI ((10 : Int) ^ (-x).toNat)), .ptr 0 (pR ((10 : Int) ^ x.toNat) ((10 : Int) ^ (-x).toNat)), .ptr 0 (pR ((10 : Int) ^ x.toNat) ((10 : Int) ^ (-x).toNat))]) (by kernel_rfl) ?wait ?step ?done ?start
    case wait => exact ⟨(by simp <;> rfl), (by simp <;> rfl), (by simp <;> rfl), (by simp <;> rfl), (by simp <;> rfl), (by simp <;> rfl), (by simp <;> rfl), (by simp <;> rfl), trivial⟩
    case start => exact RP.start hsz hdf ((Below.refl _ _).drew)
    case step =>
      refine ⟨?_, ?_, ?_, ?_, ?_, ?_, ?_, ?_, trivial⟩
      · rintro L fa wx h hcl hL hw2
        exact rp_new h (by decide) rfl rfl rfl (by decide) (by decide) (h.nogi (by decide)) rfl run_newR ZA.newR rfl
      · rintro L fa wx h hcl hL hw2
        exact rp_make h (by decide) rfl rfl rfl (by decide) (by decide) (h.nogi (by decide)) rfl (run_call1 rfl callNewInt) (newInt_make 1 (by omega) (by omega) wx) rfl
      · rintro L fa wx h hcl hL hw2
        exact rp_val h (by decide) rfl rfl rfl (by decide) (by decide) rfl (run_fldD1 (eval_G ((h.keep (s := 1) (by decide)).trans s1))) rfl
      · rintro L fa wx h hcl hL hw2
        exact rp_val h (by decide) rfl rfl rfl (by decide) (by decide) rfl (run_ldI (eval_G (show G fa 19 = .pointer (some ⟨w.heap.size, 1, none⟩) from h.lit (hw2 ⟨2, .data⟩ (by simp) rfl) rfl rfl)) (((h.old (h.nogi (by decide))).cell (p := ⟨w.heap.size, 1, none⟩) lb3).trans cb3)) rfl
      · rintro L fa wx h hcl hL hw2
        exact rp_val h (by decide) rfl rfl rfl (by decide) (by decide) rfl (run_negI wr1 (eval_G (show G fa 20 = .int .i64 x from h.lit (hw2 ⟨3, .data⟩ (by simp) rfl) rfl rfl))) rfl
      · rintro L fa wx h hcl hL hw2
        exact rp_make h (by decide) rfl rfl rfl (by decide) (by decide) (h.nogi (by decide)) rfl (run_call1 (eval_G (show G fa 21 = .int .i64 (-x) from h.lit (hw2 ⟨4, .data⟩ (by simp) rfl) rfl rfl)) callTen) (ten_make (-x) (by omega) (by omega) wx) rfl
      · rintro L fa wx h hcl hL hw2
        obtain ⟨b0, e0, z0, l0⟩ := h.new (h.nogi (by decide)) (hw2 ⟨0, .data⟩ (by simp) rfl) rfl rfl
        obtain ⟨b1, o1, e1, mm1⟩ := h.ptr (h.nogi (by decide)) (hw2 ⟨1, .data⟩ (by simp) rfl) rfl rfl
        obtain ⟨b2, o2, e2, mm2⟩ := h.ptr (h.nogi (by decide)) (hw2 ⟨5, .data⟩ (by simp) rfl) rfl rfl
        exact rp_put h (by decide) rfl rfl rfl (by decide) (by decide) (h.nogi (by decide)) rfl (run_call3 (eval_G e0) (eval_G e1) (eval_G e2) callFrac) (hw2 ⟨0, .data⟩ (by simp) rfl) rfl rfl e0 (frac_put z0 mm1 mm2 (pow_ne _) (by omega) (by omega) (unhide HEQ)) rfl (al_of (bad := [6, 7]) rfl (by
        intro k hk
        simp only [List.mem_cons, List.not_mem_nil, or_false] at hk
        rcases hk with rfl | rfl
        · exact hL
        · exact (Bool.eq_false_iff.2 fun hq => by have hz := (hcl 7 _ rfl hq ⟨6, .data⟩ (by simp) rfl); rw [hL] at hz; cases hz)))
      · rintro L fa wx h hcl hL hw2
        exact rp_copy h (by decide) rfl rfl rfl (by decide) (by decide) (h.nogi (by decide)) rfl (hw2 ⟨6, .data⟩ (by simp) rfl) rfl (run_asg rfl) rfl
    case done =>
      rintro L f1 w4 h hall
      have hno : L 99 = false := h.nogi (by decide)
      obtain ⟨b4, o4, q4, i4⟩ := h.ptr (i := 7) hno (hall 7 (by simp)) rfl rfl
      obtain ⟨rfl, i5⟩ : o4 = 0 ∧ RV w4 b4 ((10 : Int) ^ x.toNat) ((10 : Int) ^ (-x).toNat) := i4
      have q3 := (h.keep (s := 3) (by decide)).trans s3
      have HO := hide (h.old hno)
      have HP4 := hide i5
      have HR5 := hide ((unhide HR4).below (unhide HO))
      have HB5 := hide (below_step (unhide HB4) (unhide HO))
      rw [fr28 h.size h.defs, q3, q4]
      clear h hall q3 q4 i5 hno
      have MU := hide (rmul_any (w.heap.size + 1) (w.heap.size + 1) b4 c 1 ((10 : Int) ^ x.toNat) ((10 : Int) ^ (-x).toNat) w4 (unhide HR5).place (unhide HR5) (unhide HP4) (by omega) (pow_ne _) (by omega) (Nat.le_trans (Ln_small (x := 1) (by decide)) (by omega)) (by omega) (by omega))
      go_wp2_with fail
      refine (unhide MU).mono ?_
      rintro e wz ⟨rfl, rz, kz⟩
      have HRZ := hide rz
      have HBZ := hide ((unhide HB5).trans (kz.below (by omega) (unhide HB5).size))
      clear rz kz
      go_wp2
      go_ret
      exact ⟨rfl, by rw [← Int.one_mul ((10 : Int) ^ (-x).toNat)]; exact unhide HRZ, unhide HBZ⟩
  · have HP4 : Hid (RV w3 w1.heap.size ((10 : Int) ^ x.toNat) ((10 : Int) ^ (-x).toNat)) := hide (by rw [show (-x).toNat = 0 by omega, Int.pow_zero]; exact unhide HP)
    have MU := hide (rmul_any (w.heap.size + 1) (w.heap.size + 1) w1.heap.size c 1 ((10 : Int) ^ x.toNat) ((10 : Int) ^ (-x).toNat) w3 (unhide HR4).place (unhide HR4) (unhide HP4) (by omega) (pow_ne _) (by omega) (Nat.le_trans (Ln_small (x := 1) (by decide)) (by omega)) (by omega) (by omega))
    go_wp2_with fail
    refine (unhide MU).mono ?_
    rintro e wz ⟨rfl, rz, kz⟩
    have HRZ := hide rz
    have HBZ := hide ((unhide HB4).trans (kz.below (by omega) (unhide HB4).size))
    clear rz kz
    go_wp2
    go_ret
    exact ⟨rfl, by rw [← Int.one_mul ((10 : Int) ^ (-x).toNat)]; exact unhide HRZ, unhide HBZ⟩

end Go.Proofs.YtdkgapapdjefdaaGreatDoor

/- Walks: the document's answer: Cmp (written by gen_br5.py). -/
namespace Go.Proofs.YtdkgapapdjefdaaGreatDoor
open Go.RowKit

theorem callRatd (zs : Array Value) (w : World) : Sem.run Tryz.prog (callFunc 65 zs) w = .ok (.enter 65 zs) w := by simp [go_sem]

theorem callRCmp (zs : Array Value) (w : World) : Sem.run Tryz.prog (callFunc 66 zs) w = .ok (.enter 66 zs) w := by simp [go_sem]

theorem ratd_make {B : Nat} (c x : Int) (c1 : -9223372036854775808 ≤ c) (c2 : c ≤ 9223372036854775807) (h1 : -200 ≤ x) (h2 : x ≤ 200) (wx : World) : Calls Tryz.prog 65 #[.agg #[.int .i64 c, .int .i64 x]] wx fun e w' => ∃ b o, e = .returned (.pointer (some ⟨b, o, none⟩)) ∧ (pR (c * (10 : Int) ^ x.toNat) ((10 : Int) ^ (-x).toNat)).is w' b o ∧ (b < B ∨ wx.heap.size ≤ b) ∧ Below wx.heap.size wx w' :=
  (ratd_any c x wx c1 c2 h1 h2).mono fun _ _ q => ⟨_, 0, q.1, ⟨rfl, q.2.1⟩, .inr (by omega), q.2.2⟩

theorem rcmp_of {b1 o1 b2 o2 : Nat} {N1 N2 : Int} {k1 k2 : Nat} {w : World} (h1 : (pR N1 ((10 : Int) ^ k1)).is w b1 o1) (h2 : (pR N2 ((10 : Int) ^ k2)).is w b2 o2) (l1 : Ln N1 ≤ 20000) (l2 : Ln ((10 : Int) ^ k1) ≤ 20000) (l3 : Ln N2 ≤ 20000) (l4 : Ln ((10 : Int) ^ k2) ≤ 20000) :
    Calls Tryz.prog 66 #[.pointer (some ⟨b1, o1, none⟩), .pointer (some ⟨b2, o2, none⟩)] w fun e w' => e = .returned (.int .i64 (icmp (N1 * (10 : Int) ^ k2) (N2 * (10 : Int) ^ k1))) ∧ Below w.heap.size w w' := by
  obtain ⟨rfl, r1⟩ := h1
  obtain ⟨rfl, r2⟩ := h2
  exact rcmp_any b1 b2 N1 _ N2 _ w r1 r2 (Int.pow_pos (by decide)) (Int.pow_pos (by decide)) l1 l2 l3 l4

set_option maxHeartbeats 2000000 in
theorem rcmpd_no (c1 x1 c2 x2 : Int) (w : World) (h : (Dm.wrong2 c1 x1 c2 x2 != 0) = true) :
    Calls Tryz.prog 29 #[.agg #[.int .i64 c1, .int .i64 x1], .agg #[.int .i64 c2, .int .i64 x2]] w fun e w' => e = .returned (.tuple #[.int .i64 0, .int .i64 (Dm.wrong2 c1 x1 c2 x2)]) ∧ Below w.heap.size w w' := by
  obtain ⟨wB, hwB⟩ : ∃ wB, wB = ((w.alloc (.cells #[.int .i64 c1, .int .i64 x1] 24)).alloc (.cells #[.int .i64 c2, .int .i64 x2] 24)) := ⟨_, rfl⟩
  have NB : Below w.heap.size w wB := by rw [hwB]; exact below_step (below_new _ _) (below_new _ _)
  have sB : wB.heap.size = w.heap.size + 2 := by rw [hwB]; simp
  have p10 : wB.cell? ⟨w.heap.size, 0, none⟩ = some (.int .i64 c1) := by rw [hwB]; simp [go_sem]
  have p11 : wB.cell? ⟨w.heap.size, 1, none⟩ = some (.int .i64 x1) := by rw [hwB]; simp [go_sem]
  have p20 : wB.cell? ⟨w.heap.size + 1, 0, none⟩ = some (.int .i64 c2) := by rw [hwB]; simp [go_sem]
  have p21 : wB.cell? ⟨w.heap.size + 1, 1, none⟩ = some (.int .i64 x2) := by rw [hwB]; simp [go_sem]
  have W1 := hide (rwrong_any c1 x1 ((w.alloc (.cells #[.int .i64 c1, .int .i64 x1] 24)).alloc (.cells #[.int .i64 c2, .int .i64 x2] 24)))
  by_cases h1 : Dm.wrongN c1 x1 = 0
  · rw [Dm.wrong2_ok h1] at h ⊢
    have g1 : (Dm.wrongN c1 x1 != 0) = false := by rw [h1]; rfl
    clear h1
    go_enter Tryz.func29, Tryz.ntmps29
    go_wp2_with fail
    refine (unhide W1).mono ?_
    rw [← hwB]
    rintro e w1 ⟨rfl, hb1⟩
    have q10 := (hb1.cell (p := ⟨w.heap.size, 0, none⟩) (by show _ < wB.heap.size; simp only; omega)).trans p10
    have q11 := (hb1.cell (p := ⟨w.heap.size, 1, none⟩) (by show _ < wB.heap.size; simp only; omega)).trans p11
    have q20 := (hb1.cell (p := ⟨w.heap.size + 1, 0, none⟩) (by show _ < wB.heap.size; simp only; omega)).trans p20
    have q21 := (hb1.cell (p := ⟨w.heap.size + 1, 1, none⟩) (by show _ < wB.heap.size; simp only; omega)).trans p21
    have W2 := hide (rwrong_any c2 x2 w1)
    have HB := hide (below_step NB hb1)
    clear hb1 p10 p11 p20 p21
    go_wp2_with fail
    refine (unhide W2).mono ?_
    rintro e w2 ⟨rfl, hb2⟩
    have HB2 := hide (below_step (unhide HB) hb2)
    clear hb2
    go_wp2
    refine bodyPost_ret (v := .tuple #[.int .i64 0, .int .i64 (Dm.wrongN c2 x2)]) (by simp [results, Tryz.results29, go_sem]) rfl ?_
    exact ⟨rfl, unhide HB2⟩
  · rw [Dm.wrong2_no h1] at h ⊢
    clear h1
    go_enter Tryz.func29, Tryz.ntmps29
    go_wp2_with fail
    refine (unhide W1).mono ?_
    rw [← hwB]
    rintro e w1 ⟨rfl, hb1⟩
    have HB := hide (below_step NB hb1)
    clear hb1
    go_wp2
    refine bodyPost_ret (v := .tuple #[.int .i64 0, .int .i64 (Dm.wrongN c1 x1)]) (by simp [results, Tryz.results29, go_sem]) rfl ?_
    exact ⟨rfl, unhide HB⟩

set_option maxRecDepth 100000 in
set_option maxHeartbeats 4000000 in
theorem rcmpd_ok (c1 x1 c2 x2 : Int) (w : World) (h1 : Dm.wrongN c1 x1 = 0) (h2 : Dm.wrongN c2 x2 = 0) (a1 : -1000000000000000000 < c1) (a2 : c1 < 1000000000000000000) (a3 : -40 ≤ x1) (a4 : x1 ≤ 40) (b1 : -1000000000000000000 < c2) (b2 : c2 < 1000000000000000000) (b3 : -40 ≤ x2) (b4 : x2 ≤ 40) :
    Calls Tryz.prog 29 #[.agg #[.int .i64 c1, .int .i64 x1], .agg #[.int .i64 c2, .int .i64 x2]] w fun e w' => e = .returned (.tuple #[.int .i64 (icmp (c1 * (10 : Int) ^ x1.toNat * (10 : Int) ^ (-x2).toNat) (c2 * (10 : Int) ^ x2.toNat * (10 : Int) ^ (-x1).toNat)), .int .i64 0]) ∧ Below w.heap.size w w' := by
  obtain ⟨wB, hwB⟩ : ∃ wB, wB = ((w.alloc (.cells #[.int .i64 c1, .int .i64 x1] 24)).alloc (.cells #[.int .i64 c2, .int .i64 x2] 24)) := ⟨_, rfl⟩
  have NB : Below w.heap.size w wB := by rw [hwB]; exact below_step (below_new _ _) (below_new _ _)
  have sB : wB.heap.size = w.heap.size + 2 := by rw [hwB]; simp
  have p10 : wB.cell? ⟨w.heap.size, 0, none⟩ = some (.int .i64 c1) := by rw [hwB]; simp [go_sem]
  have p11 : wB.cell? ⟨w.heap.size, 1, none⟩ = some (.int .i64 x1) := by rw [hwB]; simp [go_sem]
  have p20 : wB.cell? ⟨w.heap.size + 1, 0, none⟩ = some (.int .i64 c2) := by rw [hwB]; simp [go_sem]
  have p21 : wB.cell? ⟨w.heap.size + 1, 1, none⟩ = some (.int .i64 x2) := by rw [hwB]; simp [go_sem]
  have W1 := hide (rwrong_any c1 x1 ((w.alloc (.cells #[.int .i64 c1, .int .i64 x1] 24)).alloc (.cells #[.int .i64 c2, .int .i64 x2] 24)))
  have g1 : (Dm.wrongN c1 x1 != 0) = false := by rw [h1]; rfl
  have g2 : (Dm.wrongN c2 x2 != 0) = false := by rw [h2]; rfl
  have lc1 : Ln c1 ≤ 2 := Ln_small (by omega)
  have lc2 : Ln c2 ≤ 2 := Ln_small (by omega)
  have t1 := Ln_ten x1.toNat
  have t2 := Ln_ten x2.toNat
  have t3 := Ln_ten (-x1).toNat
  have t4 := Ln_ten (-x2).toNat
  have t5 := Ln_mul c1 ((10 : Int) ^ x1.toNat)
  have t6 := Ln_mul c2 ((10 : Int) ^ x2.toNat)
  clear h1 h2
  go_enter Tryz.func29, Tryz.ntmps29
  go_wp2_with fail
  refine (unhide W1).mono ?_
  rw [← hwB]
  rintro e w1 ⟨rfl, hb1⟩
  have q10 := (hb1.cell (p := ⟨w.heap.size, 0, none⟩) (by show _ < wB.heap.size; simp only; omega)).trans p10
  have q11 := (hb1.cell (p := ⟨w.heap.size, 1, none⟩) (by show _ < wB.heap.size; simp only; omega)).trans p11
  have q20 := (hb1.cell (p := ⟨w.heap.size + 1, 0, none⟩) (by show _ < wB.heap.size; simp only; omega)).trans p20
  have q21 := (hb1.cell (p := ⟨w.heap.size + 1, 1, none⟩) (by show _ < wB.heap.size; simp only; omega)).trans p21
  have W2 := hide (rwrong_any c2 x2 w1)
  have HB := hide (below_step NB hb1)
  have s1 := hb1.size
  clear hb1 p10 p11 p20 p21
  go_wp2_with fail
  refine (unhide W2).mono ?_
  rintro e w2 ⟨rfl, hb2⟩
  have k10 := (hb2.cell (p := ⟨w.heap.size, 0, none⟩) (by show w.heap.size < w1.heap.size; omega)).trans q10
  have k11 := (hb2.cell (p := ⟨w.heap.size, 1, none⟩) (by show w.heap.size < w1.heap.size; omega)).trans q11
  have k20 := (hb2.cell (p := ⟨w.heap.size + 1, 0, none⟩) (by show w.heap.size + 1 < w1.heap.size; omega)).trans q20
  have k21 := (hb2.cell (p := ⟨w.heap.size + 1, 1, none⟩) (by show w.heap.size + 1 < w1.heap.size; omega)).trans q21
  have HB2 := hide (below_step (unhide HB) hb2)
  have s2 := hb2.size
  have lb1 : w.heap.size < w2.heap.size := by omega
  have lb2 : w.heap.size + 1 < w2.heap.size := by omega
  clear hb2 q10 q11 q20 q21 hwB
  go_upto_region 7 with fail
  refine frame_intro (fun a => G a 2 = .pointer (some ⟨w.heap.size, 0, none⟩) ∧ G a 3 = .pointer (some ⟨w.heap.size + 1, 0, none⟩) ∧ a.tmps.size = 23 ∧ a.defers = []) ⟨rfl, rfl, rfl, rfl⟩ ?_
  rintro f0 ⟨s2', s3, hsz, hdf⟩
  refine region_any (I := RP w2 f0 23 [18, 19, 20, 21, 22, 4, 5] 99 (fun _ => True) [.lit (.agg #[.int .i64 c1, .int .i64 x1]), .ptr 1 (pR (c1 * (10 : Int) ^ x1.toNat) ((10 : Int) ^ (-x1).toNat)), .lit (.agg #[.int .i64 c2, .int .i64 x2]), .ptr 3 (pR (c2 * (10 : Int) ^ x2.toNat) ((10 : Int) ^ (-x2).toNat)), .lit (.int .i64 (icmp (c1 * (10 : Int) ^ x1.toNat * (10 : Int) ^ (-x2).toNat) (c2 * (10 : Int) ^ x2.toNat * (10 : Int) ^ (-x1).toNat))), .lit (.int .i64 (icmp (c1 * (10 : Int) ^ x1.toNat * (10 : Int) ^ (-x2).toNat) (c2 * (10 : Int) ^ x2.toNat * (10 : Int) ^ (-x1).toNat))), .lit (.int .i64 0)]) (by kernel_rfl) ?wait ?step ?done ?start
  case wait => exact ⟨(by simp <;> rfl), (by simp <;> rfl), (by simp <;> rfl), (by simp <;> rfl), (by simp <;> rfl), (by simp <;> rfl), (by simp <;> rfl), trivial⟩
  case start => exact RP.start hsz hdf ((Below.refl _ _).drew)
  case step =>
    refine ⟨?_, ?_, ?_, ?_, ?_, ?_, ?_, trivial⟩
    · rintro L fa wx h hcl hL hw2
      exact rp_val h (by decide) rfl rfl rfl (by decide) (by decide) rfl (run_ldD (eval_G ((h.keep (s := 2) (by decide)).trans s2')) (((h.old (h.nogi (by decide))).cell (p := ⟨w.heap.size, 0, none⟩) lb1).trans k10) (((h.old (h.nogi (by decide))).cell (p := ⟨w.heap.size, 1, none⟩) lb1).trans k11)) rfl
    · rintro L fa wx h hcl hL hw2
      exact rp_make h (by decide) rfl rfl rfl (by decide) (by decide) (h.nogi (by decide)) rfl (run_call1 (eval_G (show G fa 18 = .agg #[.int .i64 c1, .int .i64 x1] from h.lit (hw2 ⟨0, .data⟩ (by simp) rfl) rfl rfl)) callRatd) (ratd_make c1 x1 (by omega) (by omega) (by omega) (by omega) wx) rfl
    · rintro L fa wx h hcl hL hw2
      exact rp_val h (by decide) rfl rfl rfl (by decide) (by decide) rfl (run_ldD (eval_G ((h.keep (s := 3) (by decide)).trans s3)) (((h.old (h.nogi (by decide))).cell (p := ⟨w.heap.size + 1, 0, none⟩) lb2).trans k20) (((h.old (h.nogi (by decide))).cell (p := ⟨w.heap.size + 1, 1, none⟩) lb2).trans k21)) rfl
    · rintro L fa wx h hcl hL hw2
      exact rp_make h (by decide) rfl rfl rfl (by decide) (by decide) (h.nogi (by decide)) rfl (run_call1 (eval_G (show G fa 20 = .agg #[.int .i64 c2, .int .i64 x2] from h.lit (hw2 ⟨2, .data⟩ (by simp) rfl) rfl rfl)) callRatd) (ratd_make c2 x2 (by omega) (by omega) (by omega) (by omega) wx) rfl
    · rintro L fa wx h hcl hL hw2
      obtain ⟨b0, o0, e0, mm0⟩ := h.ptr (h.nogi (by decide)) (hw2 ⟨1, .data⟩ (by simp) rfl) rfl rfl
      obtain ⟨b1, o1, e1, mm1⟩ := h.ptr (h.nogi (by decide)) (hw2 ⟨3, .data⟩ (by simp) rfl) rfl rfl
      exact rp_read h (by decide) rfl rfl rfl (by decide) (by decide) (h.nogi (by decide)) rfl (run_call2 (eval_G e0) (eval_G e1) callRCmp) (rcmp_of mm0 mm1 (by omega) (by omega) (by omega) (by omega)) rfl
    · rintro L fa wx h hcl hL hw2
      exact rp_val h (by decide) rfl rfl rfl (by decide) (by decide) rfl (run_asg (eval_G (show G fa 22 = .int .i64 (icmp (c1 * (10 : Int) ^ x1.toNat * (10 : Int) ^ (-x2).toNat) (c2 * (10 : Int) ^ x2.toNat * (10 : Int) ^ (-x1).toNat)) from h.lit (hw2 ⟨4, .data⟩ (by simp) rfl) rfl rfl))) rfl
    · rintro L fa wx h hcl hL hw2
      exact rp_val h (by decide) rfl rfl rfl (by decide) (by decide) rfl (run_asg rfl) rfl
  case done =>
    rintro L f1 w3 h hall
    have q4 : G f1 4 = .int .i64 (icmp (c1 * (10 : Int) ^ x1.toNat * (10 : Int) ^ (-x2).toNat) (c2 * (10 : Int) ^ x2.toNat * (10 : Int) ^ (-x1).toNat)) := h.lit (i := 5) (hall 5 (by simp)) rfl rfl
    have q5 : G f1 5 = .int .i64 0 := h.lit (i := 6) (hall 6 (by simp)) rfl rfl
    have HO := hide (h.old (h.nogi (by decide)))
    rw [fr23 h.size h.defs, q4, q5]
    clear h hall q4 q5
    go_wp2
    refine bodyPost_ret (v := .tuple #[.int .i64 (icmp (c1 * (10 : Int) ^ x1.toNat * (10 : Int) ^ (-x2).toNat) (c2 * (10 : Int) ^ x2.toNat * (10 : Int) ^ (-x1).toNat)), .int .i64 0]) (by simp [results, Tryz.results29, go_sem]) rfl ?_
    exact ⟨rfl, below_step (unhide HB2) (unhide HO)⟩

end Go.Proofs.YtdkgapapdjefdaaGreatDoor

/- Plain: what Fit tells of an exact number, and of a quotient, is what dec tells. -/
namespace Go.Proofs.YtdkgapapdjefdaaGreatDoor

theorem gq_sg (b : Bool) (A B : Nat) (hB : 0 < B) (e : Int) : gq (Dm.sg b A) (B : Int) e = Dm.sg b (Dm.rnd (A * 10 ^ (-e).toNat) (B * 10 ^ e.toNat) false) := by
  unfold gq
  have e1 : Dm.sg b A * (10 : Int) ^ (-e).toNat = Dm.sg b (A * 10 ^ (-e).toNat) := by
    unfold Dm.sg
    cases b
    · simp
    · simp [Int.neg_mul]
  have e2 : (B : Int) * (10 : Int) ^ e.toNat = ((B * 10 ^ e.toNat : Nat) : Int) := by simp
  rw [e1, e2, Dm.nr_sg b _ _ (Nat.mul_pos hB (Dm.p10_pos _))]
theorem fitT_sg (b : Bool) (A B : Nat) (hB : 0 < B) : fitT (Dm.sg b A) (B : Int) = Dm.fitF (fun e => Dm.sg b (Dm.rnd (A * 10 ^ (-e).toNat) (B * 10 ^ e.toNat) false)) 121 (-40) := by
  unfold fitT
  congr 1
  exact funext fun e => gq_sg b A B hB e
theorem p10_add (a b : Nat) : (10 : Nat) ^ a * 10 ^ b = 10 ^ (a + b) := (Nat.pow_add 10 a b).symm
/-- an exact value, in units of 10^e -/
theorem rnd_sc {A B S : Nat} {x e : Int} (hB : 0 < B) (h : A * 10 ^ (-x).toNat = S * 10 ^ x.toNat * B) : Dm.rnd (A * 10 ^ (-e).toNat) (B * 10 ^ e.toNat) false = Dm.sc S (x - e) false := by
  have pB : 0 < B * 10 ^ e.toNat := Nat.mul_pos hB (Dm.p10_pos _)
  have one : ∀ M : Nat, Dm.rnd M 1 false = M := fun M => by
    have := Dm.rnd_exact M 0 false rfl
    simpa using this
  unfold Dm.sc
  split
  · rename_i hs
    rw [← one (S * 10 ^ (x - e).toNat)]
    refine Dm.rnd_ratio pB (by omega) ?_
    apply Nat.eq_of_mul_eq_mul_right (Dm.p10_pos (-x).toNat)
    calc A * 10 ^ (-e).toNat * 1 * 10 ^ (-x).toNat = (A * 10 ^ (-x).toNat) * 10 ^ (-e).toNat := by grind
      _ = S * B * 10 ^ (x.toNat + (-e).toNat) := by rw [h, Nat.pow_add]; grind
      _ = S * B * 10 ^ ((x - e).toNat + e.toNat + (-x).toNat) := by congr 2; omega
      _ = S * 10 ^ (x - e).toNat * (B * 10 ^ e.toNat) * 10 ^ (-x).toNat := by rw [Nat.pow_add, Nat.pow_add]; grind
  · rename_i hs
    refine Dm.rnd_ratio pB (Dm.p10_pos _) ?_
    apply Nat.eq_of_mul_eq_mul_right (Dm.p10_pos (-x).toNat)
    calc A * 10 ^ (-e).toNat * 10 ^ (-(x - e)).toNat * 10 ^ (-x).toNat = (A * 10 ^ (-x).toNat) * 10 ^ (-e).toNat * 10 ^ (-(x - e)).toNat := by grind
      _ = S * B * 10 ^ (x.toNat + (-e).toNat + (-(x - e)).toNat) := by rw [h, Nat.pow_add, Nat.pow_add]; grind
      _ = S * B * 10 ^ (e.toNat + (-x).toNat) := by congr 2; omega
      _ = S * (B * 10 ^ e.toNat) * 10 ^ (-x).toNat := by rw [Nat.pow_add]; grind
theorem rnd_ge {A B M : Nat} (hB : 0 < B) (h : M * B ≤ A) : M ≤ Dm.rnd A B false := by
  have : M ≤ A / B := (Nat.le_div_iff_mul_le hB).2 h
  unfold Dm.rnd
  split <;> omega
theorem e18 : (1000000000000000000 : Nat) = 10 ^ 18 := by decide
theorem sc_low {S : Nat} {x e : Int} (h1 : 1 ≤ S) (hS : S < 10 ^ 200) (he : -40 ≤ e) (hl : e < Dm.nE S x) : 1000000000000000000 ≤ Dm.sc S (x - e) false := by
  obtain ⟨a, _, c, _⟩ := Dm.nd_spec h1 hS
  have hx : Dm.nE S x = x + Dm.nd S - 18 := by unfold Dm.nE at *; omega
  rw [e18]
  unfold Dm.sc
  split
  · have : 10 ^ (Dm.nd S - 1) * 10 ^ (x - e).toNat ≤ S * 10 ^ (x - e).toNat := Nat.mul_le_mul_right _ c
    rw [p10_add] at this
    exact Nat.le_trans (Dm.p10_le (by omega)) this
  · refine rnd_ge (Dm.p10_pos _) ?_
    rw [p10_add]
    exact Nat.le_trans (Dm.p10_le (by omega)) c
theorem sg_self (N : Int) : Dm.sg (decide (N < 0)) N.natAbs = N := by
  unfold Dm.sg
  by_cases h : N < 0
  · simp [h]; omega
  · simp [h]; omega
/-- what is exact -/
theorem fit_exact {N D S x : Int} (hD : 0 < D) (hS : S.natAbs < 10 ^ 200) (h : N * (10 : Int) ^ (-x).toNat = S * (10 : Int) ^ x.toNat * D) :
    fitT N D = (Dm.fC (Dm.nearZ S x false) (Dm.nE S.natAbs x), Dm.fE (Dm.nearZ S x false) (Dm.nE S.natAbs x), Dm.fR (Dm.nearZ S x false) (Dm.nE S.natAbs x)) := by
  have hn : N.natAbs * 10 ^ (-x).toNat = S.natAbs * 10 ^ x.toNat * D.natAbs := by
    have := congrArg Int.natAbs h
    rw [Int.natAbs_mul, Int.natAbs_mul, Int.natAbs_mul, Int.natAbs_pow, Int.natAbs_pow] at this
    exact this
  have hB : 0 < D.natAbs := by omega
  have hsign : decide (N < 0) = decide (S < 0) := by
    have p1 : (0 : Int) < 10 ^ (-x).toNat := Int.pow_pos (by decide)
    have p2 : (0 : Int) < 10 ^ x.toNat := Int.pow_pos (by decide)
    have k1 : (N * (10 : Int) ^ (-x).toNat < 0) ↔ N < 0 := by
      constructor
      · intro g
        rcases Int.lt_or_le N 0 with k | k
        · exact k
        · have := Int.mul_nonneg k (Int.le_of_lt p1); omega
      · intro g; exact Int.mul_neg_of_neg_of_pos g p1
    have k2 : (S * (10 : Int) ^ x.toNat * D < 0) ↔ S < 0 := by
      constructor
      · intro g
        rcases Int.lt_or_le S 0 with k | k
        · exact k
        · have := Int.mul_nonneg (Int.mul_nonneg k (Int.le_of_lt p2)) (Int.le_of_lt hD); omega
      · intro g; exact Int.mul_neg_of_neg_of_pos (Int.mul_neg_of_neg_of_pos g p2) hD
    rw [h] at k1
    exact decide_eq_decide.2 (k1.symm.trans k2)
  have e1 : N = Dm.sg (decide (S < 0)) N.natAbs := by rw [← hsign]; exact (sg_self N).symm
  have e2 : D = ((D.natAbs : Nat) : Int) := by omega
  have e3 := fitT_sg (decide (S < 0)) N.natAbs D.natAbs hB
  rw [← e1, ← e2] at e3
  rw [e3]
  have hf : ∀ e : Int, Dm.rnd (N.natAbs * 10 ^ (-e).toNat) (D.natAbs * 10 ^ e.toNat) false = Dm.sc S.natAbs (x - e) false := fun e => rnd_sc hB hn
  simp only [hf]
  unfold Dm.nearZ
  by_cases h0 : S.natAbs = 0
  · rw [h0, Dm.nQ_zero]
    refine Dm.fit_zero _ (fun e => Dm.sc 0 (x - e) false) ?_ _
    unfold Dm.sc
    split
    · simp
    · unfold Dm.rnd Dm.up
      rw [Nat.zero_mod, Nat.zero_div, if_neg (by simp)]
  · exact Dm.fit_told _ S.natAbs x false (fun e => Dm.sc S.natAbs (x - e) false) (by omega) hS (fun _ _ => rfl) (fun e g1 g2 => sc_low (by omega) hS g1 g2)
/-- what is a quotient -/
theorem fit_quot {A B C1 C2 : Nat} {y : Int} (b : Bool) (hB : 0 < B) (hC : 0 < C2) (l2 : C2 < 1000000000000000000) (l1 : C1 < 1000000000000000000) (h : A * C2 * 10 ^ (-y).toNat = C1 * 10 ^ y.toNat * B) :
    fitT (Dm.sg b A) (B : Int) = (Dm.fC (Dm.sg b (Dm.nQ (C1 * 10 ^ 40 / C2) (y - 40) (decide (C1 * 10 ^ 40 % C2 ≠ 0)))) (Dm.nE (C1 * 10 ^ 40 / C2) (y - 40)), Dm.fE (Dm.sg b (Dm.nQ (C1 * 10 ^ 40 / C2) (y - 40) (decide (C1 * 10 ^ 40 % C2 ≠ 0)))) (Dm.nE (C1 * 10 ^ 40 / C2) (y - 40)), Dm.fR (Dm.sg b (Dm.nQ (C1 * 10 ^ 40 / C2) (y - 40) (decide (C1 * 10 ^ 40 % C2 ≠ 0)))) (Dm.nE (C1 * 10 ^ 40 / C2) (y - 40))) := by
  rw [fitT_sg b A B hB]
  by_cases h0 : C1 = 0
  · subst h0
    have hA : A = 0 := by
      rw [Nat.zero_mul, Nat.zero_mul] at h
      rcases Nat.mul_eq_zero.1 h with g | g
      · rcases Nat.mul_eq_zero.1 g with k | k
        · exact k
        · omega
      · have := Dm.p10_pos (-y).toNat; omega
    subst hA
    rw [Nat.zero_mul, Nat.zero_div, Nat.zero_mod, show decide ((0 : Nat) ≠ 0) = false from rfl, Dm.nQ_zero]
    refine Dm.fit_zero b (fun e => Dm.rnd (0 * 10 ^ (-e).toNat) (B * 10 ^ e.toNat) false) ?_ _
    unfold Dm.rnd Dm.up
    rw [Nat.zero_mul, Nat.zero_mod, Nat.zero_div, if_neg (by
      have := Nat.mul_pos hB (Dm.p10_pos (-40 : Int).toNat)
      simp only [Nat.mul_zero, decide_eq_true_eq]
      omega)]
  · have hS1 : 10 ^ 22 ≤ C1 * 10 ^ 40 / C2 := by
      rw [Nat.le_div_iff_mul_le hC]
      have : 10 ^ 22 * C2 ≤ 10 ^ 22 * 10 ^ 18 := Nat.mul_le_mul_left _ (by rw [← e18]; omega)
      rw [p10_add] at this
      have k : 1 * 10 ^ 40 ≤ C1 * 10 ^ 40 := Nat.mul_le_mul_right _ (by omega)
      omega
    have hS2 : C1 * 10 ^ 40 / C2 < 10 ^ 200 := by
      refine Nat.lt_of_le_of_lt (Nat.div_le_self _ _) ?_
      have : C1 * 10 ^ 40 < 10 ^ 18 * 10 ^ 40 := Nat.mul_lt_mul_of_pos_right (by rw [← e18]; omega) (Dm.p10_pos 40)
      rw [p10_add] at this
      exact Nat.lt_of_lt_of_le this (Dm.p10_le (by omega))
    have hdiv : C1 * 10 ^ 40 / C2 * C2 ≤ C1 * 10 ^ 40 := Nat.div_mul_le_self _ _
    obtain ⟨S, hS⟩ : ∃ S, C1 * 10 ^ 40 / C2 = S := ⟨_, rfl⟩
    have hS1' : 1 ≤ S := by rw [← hS]; exact Nat.le_trans (Dm.p10_pos 22) hS1
    rw [hS] at hS1 hS2 hdiv ⊢
    obtain ⟨n1, _, n3, n4⟩ := Dm.nd_spec hS1' hS2
    have nd23 : 23 ≤ Dm.nd S := by
      have : 10 ^ 22 < 10 ^ Dm.nd S := Nat.lt_of_le_of_lt hS1 n4
      have := Dm.p10_lt this
      omega
    have hE : y - 40 + Dm.nd S - 18 ≤ Dm.nE S (y - 40) := by unfold Dm.nE; omega
    refine Dm.fit_told b S (y - 40) _ (fun e => Dm.rnd (A * 10 ^ (-e).toNat) (B * 10 ^ e.toNat) false) hS1' hS2 (fun e he => ?_) (fun e g1 g2 => ?_)
    · have hneg : ¬ 0 ≤ y - 40 - e := by omega
      obtain ⟨k, hk⟩ : ∃ k : Nat, (-(y - 40 - e)).toNat = k + 1 := ⟨(-(y - 40 - e)).toNat - 1, by omega⟩
      unfold Dm.sc
      rw [if_neg hneg, hk, ← hS, ← Dm.rnd_rest (C1 * 10 ^ 40) C2 (10 ^ (k + 1)) hC (by rw [Nat.pow_succ]; omega) (Dm.p10_pos _)]
      refine Dm.rnd_ratio (Nat.mul_pos hB (Dm.p10_pos _)) (Nat.mul_pos hC (Dm.p10_pos _)) ?_
      apply Nat.eq_of_mul_eq_mul_right (Dm.p10_pos (-y).toNat)
      calc A * 10 ^ (-e).toNat * (C2 * 10 ^ (k + 1)) * 10 ^ (-y).toNat = (A * C2 * 10 ^ (-y).toNat) * 10 ^ (-e).toNat * 10 ^ (k + 1) := by grind
        _ = C1 * B * 10 ^ (y.toNat + (-e).toNat + (k + 1)) := by rw [h, Nat.pow_add 10 (y.toNat + (-e).toNat), Nat.pow_add]; grind
        _ = C1 * B * 10 ^ (40 + e.toNat + (-y).toNat) := by congr 2; omega
        _ = C1 * 10 ^ 40 * (B * 10 ^ e.toNat) * 10 ^ (-y).toNat := by rw [Nat.pow_add, Nat.pow_add]; grind
    · have hx : Dm.nE S (y - 40) = y - 40 + Dm.nd S - 18 := by unfold Dm.nE at *; omega
      rw [e18]
      refine rnd_ge (Nat.mul_pos hB (Dm.p10_pos _)) ?_
      have pos : 0 < C2 * 10 ^ (-y).toNat * 10 ^ 40 := Nat.mul_pos (Nat.mul_pos hC (Dm.p10_pos _)) (Dm.p10_pos _)
      apply Nat.le_of_mul_le_mul_right _ pos
      have r : A * 10 ^ (-e).toNat * (C2 * 10 ^ (-y).toNat * 10 ^ 40) = (C1 * 10 ^ 40) * B * 10 ^ (y.toNat + (-e).toNat) := by
        calc A * 10 ^ (-e).toNat * (C2 * 10 ^ (-y).toNat * 10 ^ 40) = (A * C2 * 10 ^ (-y).toNat) * 10 ^ (-e).toNat * 10 ^ 40 := by grind
          _ = (C1 * 10 ^ 40) * B * 10 ^ (y.toNat + (-e).toNat) := by rw [h, Nat.pow_add 10 y.toNat]; grind
      have l : 10 ^ 18 * (B * 10 ^ e.toNat) * (C2 * 10 ^ (-y).toNat * 10 ^ 40) = (10 ^ (18 + e.toNat + (-y).toNat + 40) * C2) * B := by
        rw [Nat.pow_add, Nat.pow_add, Nat.pow_add]; grind
      rw [r, l]
      have m1 : 10 ^ (Dm.nd S - 1) * C2 ≤ C1 * 10 ^ 40 := Nat.le_trans (Nat.mul_le_mul_right _ n3) hdiv
      have m2 : 10 ^ (18 + e.toNat + (-y).toNat + 40) ≤ 10 ^ (Dm.nd S - 1 + (y.toNat + (-e).toNat)) := Dm.p10_le (by omega)
      calc 10 ^ (18 + e.toNat + (-y).toNat + 40) * C2 * B ≤ 10 ^ (Dm.nd S - 1 + (y.toNat + (-e).toNat)) * C2 * B := Nat.mul_le_mul_right _ (Nat.mul_le_mul_right _ m2)
        _ = (10 ^ (Dm.nd S - 1) * C2) * B * 10 ^ (y.toNat + (-e).toNat) := by rw [Nat.pow_add]; grind
        _ ≤ (C1 * 10 ^ 40) * B * 10 ^ (y.toNat + (-e).toNat) := Nat.mul_le_mul_right _ (Nat.mul_le_mul_right _ m1)
theorem icmp_sgn (x y : Int) : icmp x y = Dm.sgn (x - y) := by
  unfold icmp Dm.sgn
  rcases Int.lt_trichotomy x y with h | h | h
  · rw [if_pos h, if_pos (by omega)]
  · rw [if_neg (by omega), if_pos h, if_neg (by omega), if_pos (by omega)]
  · rw [if_neg (by omega), if_neg (by omega), if_neg (by omega), if_neg (by omega)]
/-- two numbers compare as their fractions -/
theorem cmp_same {c1 x1 c2 x2 : Int} (a3 : -40 ≤ x1) (b3 : -40 ≤ x2) : icmp (c1 * (10 : Int) ^ x1.toNat * (10 : Int) ^ (-x2).toNat) (c2 * (10 : Int) ^ x2.toNat * (10 : Int) ^ (-x1).toNat) = Dm.sgn (Dm.V c1 x1 - Dm.V c2 x2) := by
  rw [← icmp_sgn]
  unfold Dm.V
  rw [Dm.tens_eq, Dm.tens_eq]
  refine icmp_cross (K := (10 : Int) ^ 40) (M := (10 : Int) ^ ((-x1).toNat + (-x2).toNat)) (Int.pow_pos (by decide)) (Int.pow_pos (by decide)) ?_ ?_
  · rw [Int.mul_assoc c1, ← Int.pow_add, Int.mul_assoc, ← Int.pow_add, Int.mul_assoc, ← Int.pow_add]
    congr 2
    omega
  · rw [Int.mul_assoc c2, ← Int.pow_add, Int.mul_assoc, ← Int.pow_add, Int.mul_assoc, ← Int.pow_add]
    congr 2
    omega
end Go.Proofs.YtdkgapapdjefdaaGreatDoor
