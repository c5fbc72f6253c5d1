/- Walks: norm. -/
import Derived.Test.YtbdgngfpofohpaaDoorG11
import Derived.Deep.Cut
namespace Go.Proofs.YtbdgngfpofohpaaDoor
open Go.RowKit

set_option maxRecDepth 100000 in
set_option maxHeartbeats 4000000 in
theorem norm_any (p : Nat) (n d : Int) (w : World) (ha : IA w p 0 n) (hb : IA w p 2 d) (d0 : d ≠ 0) (ln : (Bg.wd n.natAbs).length ≤ 90000) (ld : (Bg.wd d.natAbs).length ≤ 90000) :
    Calls Tryd.prog 71 #[.pointer (some ⟨p, 0, none⟩)] w fun e w' => e = .returned (.pointer (some ⟨p, 0, none⟩)) ∧ (∃ n' d' : Int, RA w' p n' d' ∧ n' * d = n * d' ∧ n'.natAbs ≤ n.natAbs ∧ d'.natAbs ≤ d.natAbs) ∧ Blk p w w' := by
  obtain ⟨v, x1, x2⟩ := hb.abs
  obtain ⟨q, c, rfl, -⟩ := id x2
  have xn := hb.neg
  have hl := wd_pos_len (n := d.natAbs) (by omega)
  have g1 : (((Bg.wd d.natAbs).length : Int) == 0) = false := by rw [beq_eq_false_iff_ne]; omega
  have HA := hide ha
  have HB := hide hb
  clear x2 ha hb
  go_enter Tryd.func71, Tryd.ntmps71
  go_upto_if 23 with fail
  go_cut [] from 8 (fun wc => ∃ n1 d1 : Int, Hid (IA wc p 0 n1) ∧ Hid (IA wc p 2 d1) ∧ 0 < d1 ∧ n1.natAbs = n.natAbs ∧ d1.natAbs = d.natAbs ∧ Hid (n1 * d = n * d1) ∧ Hid (Blk p w wc))
  case first =>
    by_cases hd : d < 0
    · rw [decide_eq_true hd] at xn
      have N1 := hide (fun (wx : World) (hb : Below w.heap.size w wx) => ineg_any p 0 p 0 n wx ((unhide HA).place.below hb) ((unhide HA).below hb) (by omega))
      go_wp2_with fail
      go_region_with (
        go_at_call 82
        (refine (unhide N1 _ ?_).mono ?_; · exact (by repeat (first | exact Below.refl _ _ | apply Below.drew)))
        rintro e w1 ⟨rfl, hi1, ho1⟩
        replace ho1 : Out p 0 w w1 := (Out.of (by repeat (first | exact Below.refl _ _ | apply Below.drew))).trans ho1)
      all_goals
        have j1 := (unhide HB).out ho1 (unhide HA).place (.inr (.inr (by omega)))
        have N2 := hide (fun (wx : World) (hb : Below w1.heap.size w1 wx) => ineg_any p 2 p 2 d wx (j1.place.below hb) (j1.below hb) (by omega))
        have HI1 := hide hi1
        have HO1 := hide ho1
        have HJ1 := hide j1
        clear hi1 ho1 j1
        go_wp2_with fail
      all_goals
        go_region_with (
          go_at_call 82
          (refine (unhide N2 _ ?_).mono ?_; · exact (by repeat (first | exact Below.refl _ _ | apply Below.drew)))
          rintro e w2 ⟨rfl, hi2, ho2⟩
          replace ho2 : Out p 2 w1 w2 := (Out.of (by repeat (first | exact Below.refl _ _ | apply Below.drew))).trans ho2)
        all_goals
          have HI2 := hide hi2
          have HK2 := hide ((unhide HO1).blk.trans ho2.blk)
          have HA2 := hide ((unhide HI1).out ho2 (unhide HJ1).place (.inr (.inl (by omega))))
          clear hi2 ho2
          go_wp2_with fail
          go_meet
          case rel => exact ⟨-n, -d, hide (by repeat (first | exact unhide HA2 | apply IA.drew)), hide (by repeat (first | exact unhide HI2 | apply IA.drew)), by omega, by omega, by omega, hide (by rw [Int.neg_mul, Int.mul_neg]), hide (by repeat (first | exact unhide HK2 | apply Blk.drew))⟩
    · rw [decide_eq_false hd] at xn
      go_wp2_with fail
      go_meet
      case rel => exact ⟨n, d, HA, HB, by omega, rfl, rfl, hide rfl, hide (Blk.refl _ _)⟩
  case rest =>
    obtain ⟨n1, d1, HI, HJ, hpos, hnn, hdd, HXX, HK⟩ := hcut
    obtain ⟨wy, rfl⟩ : ∃ wy, wy = wc := ⟨_, rfl⟩
    have HNN := hide hnn
    have HDD := hide hdd
    clear hnn hdd
    clear x1 xn hl g1 HA HB
    obtain ⟨va, ca1, va2⟩ := (unhide HI).abs
    obtain ⟨vb, cb1, vb2⟩ := (unhide HJ).abs
    obtain ⟨pa, ka, rfl, -⟩ := id va2
    obtain ⟨pb, kb, rfl, -⟩ := id vb2
    have lp := (unhide HI).place.low
    by_cases hn1 : n1 = 0
    · have e0 : (Bg.wd n1.natAbs).length = 0 := by rw [hn1]; simp [Bg.wd_zero]
      rw [e0] at ca1
      have SI := hide (setInt64_any p 2 1 wy (unhide HJ).place (by omega) (by omega))
      clear va2 vb2 cb1
      go_wp2_with fail
      refine (unhide SI).mono ?_
      rintro e w1 ⟨rfl, hi1, ho1⟩
      have HI1 := hide hi1
      have HO1 := hide ho1
      have HA1 := hide ((unhide HI).out ho1 (unhide HJ).place (.inr (.inl (by omega))))
      clear hi1 ho1
      go_wp2
      go_ret
      have hnn := unhide HNN
      have hdd := unhide HDD
      refine ⟨rfl, ⟨n1, 1, ⟨unhide HA1, unhide HI1, by omega⟩, ?_, by omega, by omega⟩, (unhide HK).trans (unhide HO1).blk⟩
      have : n = 0 := by omega
      rw [hn1, this]
      omega
    · have ga : (((Bg.wd n1.natAbs).length : Int) == 0) = false := by
        have := wd_pos_len (n := n1.natAbs) (by omega)
        rw [beq_eq_false_iff_ne]; omega
      have HVA := hide va2
      have HVB := hide vb2
      by_cases hd1 : d1 = 1
      · subst hd1
        obtain ⟨b5, o5, rfl, -, c5⟩ := WS.at vb2 0 1 (by rw [show (1 : Int).natAbs = 1 from rfl, Bg.wd_one (by omega) (by omega)]; rfl)
        have e5 : (Bg.wd (1 : Int).natAbs).length = 1 := by rw [show (1 : Int).natAbs = 1 from rfl, Bg.wd_one (by omega) (by omega)]; rfl
        rw [e5] at cb1
        have c6 : wy.cell? ⟨b5, o5, none⟩ = some (.int .u32 (1 : Int)) := c5
        clear c5 va2 vb2
        go_wp2
        go_ret
        have hnn := unhide HNN
        have hdd := unhide HDD
        exact ⟨rfl, ⟨n1, 1, ⟨unhide HI, unhide HJ, by omega⟩, unhide HXX, by omega, by omega⟩, unhide HK⟩
      · by_cases hds : d1.natAbs < 4294967296
        · obtain ⟨b5, o5, rfl, -, c5⟩ := WS.at vb2 0 d1.natAbs (by rw [Bg.wd_one hds (by omega)]; rfl)
          have e5 : (Bg.wd d1.natAbs).length = 1 := by rw [Bg.wd_one hds (by omega)]; rfl
          rw [e5] at cb1 HVB
          have c6 : wy.cell? ⟨b5, o5, none⟩ = some (.int .u32 (d1.natAbs : Int)) := c5
          have dne : ((d1.natAbs : Int) == 1) = false := by rw [beq_eq_false_iff_ne]; omega
          clear c5 va2 vb2
          have CN := hide (fun (wx : World) (hb : Below wy.heap.size wy wx) => common_any _ _ n1.natAbs d1.natAbs wx ((unhide HVA).below hb) ((unhide HVB).below hb) (by rw [unhide HNN]; omega) (by rw [unhide HDD]; omega))
          go_upto_region 11 with fail
          go_cut [3] from 8 (fun v w2 => ∃ (G : Nat) (pg : Option Addr) (kg : Nat), v = .slice pg (Bg.wd G).length kg ∧ Hid (WS w2 (.slice pg (Bg.wd G).length kg) (Bg.wd G)) ∧ Hid (G = Nat.gcd n1.natAbs d1.natAbs) ∧ Hid (Below wy.heap.size wy w2))
          case first =>
            go_wp2_with fail
            go_region_with (
              go_at_call 83
              (refine (unhide CN _ ?_).mono ?_; · exact (by repeat (first | exact Below.refl _ _ | apply Below.drew)))
              rintro e w1 ⟨v1, rfl, hv1, hb1⟩
              obtain ⟨pg, kg, rfl, -⟩ := id hv1
              replace hb1 : Below wy.heap.size wy w1 := below_via (by repeat (first | exact Below.refl _ _ | apply Below.drew)) hb1)
            all_goals
              have HV1 := hide hv1
              have HB1 := hide hb1
              clear hv1 hb1
              go_wp2_with fail
              go_meet
              case rel => exact ⟨_, pg, kg, rfl, hide ((unhide HV1).below (by repeat (first | exact Below.refl _ _ | apply Below.drew))), hide rfl, hide (by repeat (first | exact unhide HB1 | apply Below.drew))⟩
          case rest =>
            obtain ⟨w2, rfl⟩ : ∃ w2, w2 = wc := ⟨_, rfl⟩
            obtain ⟨G, pg, kg, rfl, HG, HGE, HB2⟩ := hcut
            have g0 : G ≠ 0 := fun e => hn1 (by have := Nat.eq_zero_of_gcd_eq_zero_left ((unhide HGE).symm.trans e); omega)
            by_cases hG1 : G = 1
            · subst hG1
              obtain ⟨b5, o5, rfl, -, c5⟩ := WS.at (unhide HG) 0 1 (by rw [Bg.wd_one (by omega) (by omega)]; rfl)
              have e5 : (Bg.wd 1).length = 1 := by rw [Bg.wd_one (by omega) (by omega)]; rfl
              rw [e5]
              have c6 : w2.cell? ⟨b5, o5, none⟩ = some (.int .u32 (1 : Int)) := c5
              clear c5
              go_wp2
              go_ret
              have hnn := unhide HNN
              have hdd := unhide HDD
              exact ⟨rfl, ⟨n1, d1, ⟨(unhide HI).below (unhide HB2), (unhide HJ).below (unhide HB2), hpos⟩, unhide HXX, by omega, by omega⟩, (unhide HK).trans (Blk.of (unhide HB2))⟩
            · by_cases hGs : G < 4294967296
              · obtain ⟨b5, o5, rfl, -, c5⟩ := WS.at (unhide HG) 0 G (by rw [Bg.wd_one hGs g0]; rfl)
                have e5 : (Bg.wd G).length = 1 := by rw [Bg.wd_one hGs g0]; rfl
                rw [e5] at HG ⊢
                have c6 : w2.cell? ⟨b5, o5, none⟩ = some (.int .u32 (G : Int)) := c5
                have gne : ((G : Int) == 1) = false := by rw [beq_eq_false_iff_ne]; omega
                clear c5
                have hGb : G ≤ d1.natAbs := by rw [unhide HGE]; exact Nat.gcd_le_right _ (by omega)
                have lG : (Bg.wd G).length ≤ 100000 := Nat.le_trans (Bg.wd_mono hGb) (by rw [unhide HDD]; omega)
                have D1 := hide (div_any _ _ n1.natAbs G w2 ((unhide HVA).below (unhide HB2)) (unhide HG) (by rw [unhide HNN]; omega) lG g0)
                have a1 := ((unhide HB2).cell (p := ⟨p, 0 + 1, none⟩) lp).trans ca1
                have a3 := ((unhide HB2).cell (p := ⟨p, 2 + 1, none⟩) lp).trans cb1
                go_wp2_with fail
                try go_wp2_with fail
                refine (unhide D1).mono ?_
                rintro e w3 ⟨v1, v2, rfl, hv1, -, hb3⟩
                obtain ⟨q1, k1, rfl, -⟩ := id hv1
                have D2 := hide (div_any _ _ d1.natAbs G w3 (((unhide HVB).below (unhide HB2)).below hb3) ((unhide HG).below hb3) (by rw [unhide HDD]; omega) lG g0)
                have a4 := (hb3.cell (p := ⟨p, 2 + 1, none⟩) (by have := (unhide HB2).size; simp only; omega)).trans a3
                have HV1 := hide hv1
                have HB3 := hide hb3
                clear hv1 hb3
                go_wp2_with fail
                refine (unhide D2).mono ?_
                rintro e w4 ⟨v3, v4, rfl, hv3, -, hb4⟩
                obtain ⟨q3, k3, rfl, -⟩ := id hv3
                have HB4 := hide (below_via (unhide HB2) (below_via (unhide HB3) hb4))
                have HV1' := hide ((unhide HV1).below hb4)
                have HV3 := hide hv3
                have z0 := (unhide HI).place.below (unhide HB4)
                have z2 := (unhide HJ).place.below (unhide HB4)
                have b1 := ((unhide HB4).cell (p := ⟨p, 0 + 1, none⟩) lp).trans ca1
                have b3 := ((unhide HB4).cell (p := ⟨p, 2 + 1, none⟩) lp).trans cb1
                have f1 := z0.frozen 1
                have f3 := z0.frozen 3
                have HT := hide (put_abs (x := n1) (y := d1) (q := .slice q1 (Bg.wd (n1.natAbs / G)).length k1) (u := .slice q3 (Bg.wd (d1.natAbs / G)).length k3) ((unhide HI).below (unhide HB4)) ((unhide HJ).below (unhide HB4)) (unhide HV1') (unhide HV3) hn1 (by omega) (by rw [unhide HGE]; exact Nat.gcd_dvd_left _ _) (by rw [unhide HGE]; exact Nat.gcd_dvd_right _ _) hpos)
                clear hv3 hb4 z0 z2 a1 a3 a4
                go_wp2
                go_ret
                have hnn := unhide HNN
                have hdd := unhide HDD
                obtain ⟨n', d', hr, e1, l1, l2, hk⟩ := unhide HT
                exact ⟨rfl, ⟨n', d', hr, ratio_via (by omega) e1 (unhide HXX), by omega, by omega⟩, (unhide HK).trans ((Blk.of (unhide HB4)).trans hk)⟩
              · exfalso
                have hGb : G ≤ d1.natAbs := by rw [unhide HGE]; exact Nat.gcd_le_right _ (by omega)
                omega
        · have e5 : 2 ≤ (Bg.wd d1.natAbs).length := Bg.len_ge (k := 1) (by omega)
          have dne : (((Bg.wd d1.natAbs).length : Int) == 1) = false := by rw [beq_eq_false_iff_ne]; omega
          clear va2 vb2
          have CN := hide (fun (wx : World) (hb : Below wy.heap.size wy wx) => common_any _ _ n1.natAbs d1.natAbs wx ((unhide HVA).below hb) ((unhide HVB).below hb) (by rw [unhide HNN]; omega) (by rw [unhide HDD]; omega))
          go_upto_region 11 with fail
          go_cut [3] from 8 (fun v w2 => ∃ (G : Nat) (pg : Option Addr) (kg : Nat), v = .slice pg (Bg.wd G).length kg ∧ Hid (WS w2 (.slice pg (Bg.wd G).length kg) (Bg.wd G)) ∧ Hid (G = Nat.gcd n1.natAbs d1.natAbs) ∧ Hid (Below wy.heap.size wy w2))
          case first =>
            go_wp2_with fail
            go_region_with (
              go_at_call 83
              (refine (unhide CN _ ?_).mono ?_; · exact (by repeat (first | exact Below.refl _ _ | apply Below.drew)))
              rintro e w1 ⟨v1, rfl, hv1, hb1⟩
              obtain ⟨pg, kg, rfl, -⟩ := id hv1
              replace hb1 : Below wy.heap.size wy w1 := below_via (by repeat (first | exact Below.refl _ _ | apply Below.drew)) hb1)
            all_goals
              have HV1 := hide hv1
              have HB1 := hide hb1
              clear hv1 hb1
              go_wp2_with fail
              go_meet
              case rel => exact ⟨_, pg, kg, rfl, hide ((unhide HV1).below (by repeat (first | exact Below.refl _ _ | apply Below.drew))), hide rfl, hide (by repeat (first | exact unhide HB1 | apply Below.drew))⟩
          case rest =>
            obtain ⟨w2, rfl⟩ : ∃ w2, w2 = wc := ⟨_, rfl⟩
            obtain ⟨G, pg, kg, rfl, HG, HGE, HB2⟩ := hcut
            have g0 : G ≠ 0 := fun e => hn1 (by have := Nat.eq_zero_of_gcd_eq_zero_left ((unhide HGE).symm.trans e); omega)
            by_cases hG1 : G = 1
            · subst hG1
              obtain ⟨b5, o5, rfl, -, c5⟩ := WS.at (unhide HG) 0 1 (by rw [Bg.wd_one (by omega) (by omega)]; rfl)
              have e5 : (Bg.wd 1).length = 1 := by rw [Bg.wd_one (by omega) (by omega)]; rfl
              rw [e5]
              have c6 : w2.cell? ⟨b5, o5, none⟩ = some (.int .u32 (1 : Int)) := c5
              clear c5
              go_wp2
              go_ret
              have hnn := unhide HNN
              have hdd := unhide HDD
              exact ⟨rfl, ⟨n1, d1, ⟨(unhide HI).below (unhide HB2), (unhide HJ).below (unhide HB2), hpos⟩, unhide HXX, by omega, by omega⟩, (unhide HK).trans (Blk.of (unhide HB2))⟩
            · by_cases hGs : G < 4294967296
              · obtain ⟨b5, o5, rfl, -, c5⟩ := WS.at (unhide HG) 0 G (by rw [Bg.wd_one hGs g0]; rfl)
                have e5 : (Bg.wd G).length = 1 := by rw [Bg.wd_one hGs g0]; rfl
                rw [e5] at HG ⊢
                have c6 : w2.cell? ⟨b5, o5, none⟩ = some (.int .u32 (G : Int)) := c5
                have gne : ((G : Int) == 1) = false := by rw [beq_eq_false_iff_ne]; omega
                clear c5
                have hGb : G ≤ d1.natAbs := by rw [unhide HGE]; exact Nat.gcd_le_right _ (by omega)
                have lG : (Bg.wd G).length ≤ 100000 := Nat.le_trans (Bg.wd_mono hGb) (by rw [unhide HDD]; omega)
                have D1 := hide (div_any _ _ n1.natAbs G w2 ((unhide HVA).below (unhide HB2)) (unhide HG) (by rw [unhide HNN]; omega) lG g0)
                have a1 := ((unhide HB2).cell (p := ⟨p, 0 + 1, none⟩) lp).trans ca1
                have a3 := ((unhide HB2).cell (p := ⟨p, 2 + 1, none⟩) lp).trans cb1
                go_wp2_with fail
                try go_wp2_with fail
                refine (unhide D1).mono ?_
                rintro e w3 ⟨v1, v2, rfl, hv1, -, hb3⟩
                obtain ⟨q1, k1, rfl, -⟩ := id hv1
                have D2 := hide (div_any _ _ d1.natAbs G w3 (((unhide HVB).below (unhide HB2)).below hb3) ((unhide HG).below hb3) (by rw [unhide HDD]; omega) lG g0)
                have a4 := (hb3.cell (p := ⟨p, 2 + 1, none⟩) (by have := (unhide HB2).size; simp only; omega)).trans a3
                have HV1 := hide hv1
                have HB3 := hide hb3
                clear hv1 hb3
                go_wp2_with fail
                refine (unhide D2).mono ?_
                rintro e w4 ⟨v3, v4, rfl, hv3, -, hb4⟩
                obtain ⟨q3, k3, rfl, -⟩ := id hv3
                have HB4 := hide (below_via (unhide HB2) (below_via (unhide HB3) hb4))
                have HV1' := hide ((unhide HV1).below hb4)
                have HV3 := hide hv3
                have z0 := (unhide HI).place.below (unhide HB4)
                have z2 := (unhide HJ).place.below (unhide HB4)
                have b1 := ((unhide HB4).cell (p := ⟨p, 0 + 1, none⟩) lp).trans ca1
                have b3 := ((unhide HB4).cell (p := ⟨p, 2 + 1, none⟩) lp).trans cb1
                have f1 := z0.frozen 1
                have f3 := z0.frozen 3
                have HT := hide (put_abs (x := n1) (y := d1) (q := .slice q1 (Bg.wd (n1.natAbs / G)).length k1) (u := .slice q3 (Bg.wd (d1.natAbs / G)).length k3) ((unhide HI).below (unhide HB4)) ((unhide HJ).below (unhide HB4)) (unhide HV1') (unhide HV3) hn1 (by omega) (by rw [unhide HGE]; exact Nat.gcd_dvd_left _ _) (by rw [unhide HGE]; exact Nat.gcd_dvd_right _ _) hpos)
                clear hv3 hb4 z0 z2 a1 a3 a4
                go_wp2
                go_ret
                have hnn := unhide HNN
                have hdd := unhide HDD
                obtain ⟨n', d', hr, e1, l1, l2, hk⟩ := unhide HT
                exact ⟨rfl, ⟨n', d', hr, ratio_via (by omega) e1 (unhide HXX), by omega, by omega⟩, (unhide HK).trans ((Blk.of (unhide HB4)).trans hk)⟩
              · have e5 : 2 ≤ (Bg.wd G).length := Bg.len_ge (k := 1) (by omega)
                have gne : (((Bg.wd G).length : Int) == 1) = false := by rw [beq_eq_false_iff_ne]; omega
                have hGb : G ≤ d1.natAbs := by rw [unhide HGE]; exact Nat.gcd_le_right _ (by omega)
                have lG : (Bg.wd G).length ≤ 100000 := Nat.le_trans (Bg.wd_mono hGb) (by rw [unhide HDD]; omega)
                have D1 := hide (div_any _ _ n1.natAbs G w2 ((unhide HVA).below (unhide HB2)) (unhide HG) (by rw [unhide HNN]; omega) lG g0)
                have a1 := ((unhide HB2).cell (p := ⟨p, 0 + 1, none⟩) lp).trans ca1
                have a3 := ((unhide HB2).cell (p := ⟨p, 2 + 1, none⟩) lp).trans cb1
                go_wp2_with fail
                try go_wp2_with fail
                refine (unhide D1).mono ?_
                rintro e w3 ⟨v1, v2, rfl, hv1, -, hb3⟩
                obtain ⟨q1, k1, rfl, -⟩ := id hv1
                have D2 := hide (div_any _ _ d1.natAbs G w3 (((unhide HVB).below (unhide HB2)).below hb3) ((unhide HG).below hb3) (by rw [unhide HDD]; omega) lG g0)
                have a4 := (hb3.cell (p := ⟨p, 2 + 1, none⟩) (by have := (unhide HB2).size; simp only; omega)).trans a3
                have HV1 := hide hv1
                have HB3 := hide hb3
                clear hv1 hb3
                go_wp2_with fail
                refine (unhide D2).mono ?_
                rintro e w4 ⟨v3, v4, rfl, hv3, -, hb4⟩
                obtain ⟨q3, k3, rfl, -⟩ := id hv3
                have HB4 := hide (below_via (unhide HB2) (below_via (unhide HB3) hb4))
                have HV1' := hide ((unhide HV1).below hb4)
                have HV3 := hide hv3
                have z0 := (unhide HI).place.below (unhide HB4)
                have z2 := (unhide HJ).place.below (unhide HB4)
                have b1 := ((unhide HB4).cell (p := ⟨p, 0 + 1, none⟩) lp).trans ca1
                have b3 := ((unhide HB4).cell (p := ⟨p, 2 + 1, none⟩) lp).trans cb1
                have f1 := z0.frozen 1
                have f3 := z0.frozen 3
                have HT := hide (put_abs (x := n1) (y := d1) (q := .slice q1 (Bg.wd (n1.natAbs / G)).length k1) (u := .slice q3 (Bg.wd (d1.natAbs / G)).length k3) ((unhide HI).below (unhide HB4)) ((unhide HJ).below (unhide HB4)) (unhide HV1') (unhide HV3) hn1 (by omega) (by rw [unhide HGE]; exact Nat.gcd_dvd_left _ _) (by rw [unhide HGE]; exact Nat.gcd_dvd_right _ _) hpos)
                clear hv3 hb4 z0 z2 a1 a3 a4
                go_wp2
                go_ret
                have hnn := unhide HNN
                have hdd := unhide HDD
                obtain ⟨n', d', hr, e1, l1, l2, hk⟩ := unhide HT
                exact ⟨rfl, ⟨n', d', hr, ratio_via (by omega) e1 (unhide HXX), by omega, by omega⟩, (unhide HK).trans ((Blk.of (unhide HB4)).trans hk)⟩
end Go.Proofs.YtbdgngfpofohpaaDoor
