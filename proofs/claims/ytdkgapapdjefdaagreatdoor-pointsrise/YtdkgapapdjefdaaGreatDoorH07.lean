/- Walks: norm. -/
import Derived.Test.YtdkgapapdjefdaaGreatDoorH06
import Derived.Deep.Cut
import Derived.Test.YtdkgapapdjefdaaGreatDoorH04
namespace Go.Proofs.YtdkgapapdjefdaaGreatDoor
open Go.RowKit

set_option maxRecDepth 100000 in
set_option maxHeartbeats 4000000 in
theorem norm_any (p : Nat) (n d : Int) (w : World) (ha : IA w p 0 n) (hb : IA w p 2 d) (d0 : d ≠ 0) (ln : (Bg.wd n.natAbs).length ≤ 90000) (ld : (Bg.wd d.natAbs).length ≤ 90000) :
    Calls Tryz.prog 125 #[.pointer (some ⟨p, 0, none⟩)] w fun e w' => e = .returned (.pointer (some ⟨p, 0, none⟩)) ∧ (∃ n' d' : Int, RA w' p n' d' ∧ n' * d = n * d' ∧ n'.natAbs ≤ n.natAbs ∧ d'.natAbs ≤ d.natAbs) ∧ Blk p w w' := by
  obtain ⟨v, x1, x2⟩ := hb.abs
  obtain ⟨q, c, rfl, -⟩ := id x2
  have xn := hb.neg
  have hl := wd_pos_len (n := d.natAbs) (by omega)
  have g1 : (((Bg.wd d.natAbs).length : Int) == 0) = false := by rw [beq_eq_false_iff_ne]; omega
  have HA := hide ha
  have HB := hide hb
  clear x2 ha hb
  go_enter Tryz.func125, Tryz.ntmps125
  go_upto_if 23 with fail
  go_cut [] from 8 (fun wc => ∃ n1 d1 : Int, Hid (IA wc p 0 n1) ∧ Hid (IA wc p 2 d1) ∧ 0 < d1 ∧ n1.natAbs = n.natAbs ∧ d1.natAbs = d.natAbs ∧ Hid (n1 * d = n * d1) ∧ Hid (Blk p w wc))
  case first =>
    by_cases hd : d < 0
    · rw [decide_eq_true hd] at xn
      have N1 := hide (fun (wx : World) (hb : Below w.heap.size w wx) => ineg_any p 0 p 0 n wx ((unhide HA).place.below hb) ((unhide HA).below hb) (by omega))
      go_wp2_with fail
      go_region_with (
        go_at_call 155
        (refine (unhide N1 _ ?_).mono ?_; · exact (by repeat (first | exact Below.refl _ _ | apply Below.drew)))
        rintro e w1 ⟨rfl, hi1, ho1⟩
        replace ho1 : Out p 0 w w1 := (Out.of (by repeat (first | exact Below.refl _ _ | apply Below.drew))).trans ho1)
      all_goals
        have j1 := (unhide HB).out ho1 (unhide HA).place (.inr (.inr (by omega)))
        have N2 := hide (fun (wx : World) (hb : Below w1.heap.size w1 wx) => ineg_any p 2 p 2 d wx (j1.place.below hb) (j1.below hb) (by omega))
        have HI1 := hide hi1
        have HO1 := hide ho1
        have HJ1 := hide j1
        clear hi1 ho1 j1
        go_wp2_with fail
      all_goals
        go_region_with (
          go_at_call 155
          (refine (unhide N2 _ ?_).mono ?_; · exact (by repeat (first | exact Below.refl _ _ | apply Below.drew)))
          rintro e w2 ⟨rfl, hi2, ho2⟩
          replace ho2 : Out p 2 w1 w2 := (Out.of (by repeat (first | exact Below.refl _ _ | apply Below.drew))).trans ho2)
        all_goals
          have HI2 := hide hi2
          have HK2 := hide ((unhide HO1).blk.trans ho2.blk)
          have HA2 := hide ((unhide HI1).out ho2 (unhide HJ1).place (.inr (.inl (by omega))))
          clear hi2 ho2
          go_wp2_with fail
          go_meet
          case rel => exact ⟨-n, -d, hide (by repeat (first | exact unhide HA2 | apply IA.drew)), hide (by repeat (first | exact unhide HI2 | apply IA.drew)), by omega, by omega, by omega, hide (by rw [Int.neg_mul, Int.mul_neg]), hide (by repeat (first | exact unhide HK2 | apply Blk.drew))⟩
    · rw [decide_eq_false hd] at xn
      go_wp2_with fail
      go_meet
      case rel => exact ⟨n, d, HA, HB, by omega, rfl, rfl, hide rfl, hide (Blk.refl _ _)⟩
  case rest =>
    obtain ⟨n1, d1, HI, HJ, hpos, hnn, hdd, HXX, HK⟩ := hcut
    obtain ⟨wy, rfl⟩ : ∃ wy, wy = wc := ⟨_, rfl⟩
    have HNN := hide hnn
    have HDD := hide hdd
    clear hnn hdd
    clear x1 xn hl g1 HA HB
    obtain ⟨va, ca1, va2⟩ := (unhide HI).abs
    obtain ⟨vb, cb1, vb2⟩ := (unhide HJ).abs
    obtain ⟨pa, ka, rfl, -⟩ := id va2
    obtain ⟨pb, kb, rfl, -⟩ := id vb2
    have lp := (unhide HI).place.low
    by_cases hn1 : n1 = 0
    · have e0 : (Bg.wd n1.natAbs).length = 0 := by rw [hn1]; simp [Bg.wd_zero]
      rw [e0] at ca1
      have SI := hide (setInt64_any p 2 1 wy (unhide HJ).place (by omega) (by omega))
      clear va2 vb2 cb1
      go_wp2_with fail
      refine (unhide SI).mono ?_
      rintro e w1 ⟨rfl, hi1, ho1⟩
      have HI1 := hide hi1
      have HO1 := hide ho1
      have HA1 := hide ((unhide HI).out ho1 (unhide HJ).place (.inr (.inl (by omega))))
      clear hi1 ho1
      go_wp2
      go_ret
      have hnn := unhide HNN
      have hdd := unhide HDD
      refine ⟨rfl, ⟨n1, 1, ⟨unhide HA1, unhide HI1, by omega⟩, ?_, by omega, by omega⟩, (unhide HK).trans (unhide HO1).blk⟩
      have : n = 0 := by omega
      rw [hn1, this]
      omega
    · have ga : (((Bg.wd n1.natAbs).length : Int) == 0) = false := by
        have := wd_pos_len (n := n1.natAbs) (by omega)
        rw [beq_eq_false_iff_ne]; omega
      have HVA := hide va2
      have HVB := hide vb2
      by_cases hd1 : d1 = 1
      · subst hd1
        obtain ⟨b5, o5, rfl, -, c5⟩ := WS.at vb2 0 1 (by rw [show (1 : Int).natAbs = 1 from rfl, Bg.wd_one (by omega) (by omega)]; rfl)
        have e5 : (Bg.wd (1 : Int).natAbs).length = 1 := by rw [show (1 : Int).natAbs = 1 from rfl, Bg.wd_one (by omega) (by omega)]; rfl
        rw [e5] at cb1
        have c6 : wy.cell? ⟨b5, o5, none⟩ = some (.int .u32 (1 : Int)) := c5
        clear c5 va2 vb2
        go_wp2
        go_ret
        have hnn := unhide HNN
        have hdd := unhide HDD
        exact ⟨rfl, ⟨n1, 1, ⟨unhide HI, unhide HJ, by omega⟩, unhide HXX, by omega, by omega⟩, unhide HK⟩
      · by_cases hds : d1.natAbs < 4294967296
        · obtain ⟨b5, o5, rfl, -, c5⟩ := WS.at vb2 0 d1.natAbs (by rw [Bg.wd_one hds (by omega)]; rfl)
          have e5 : (Bg.wd d1.natAbs).length = 1 := by rw [Bg.wd_one hds (by omega)]; rfl
          rw [e5] at cb1 HVB
          have c6 : wy.cell? ⟨b5, o5, none⟩ = some (.int .u32 (d1.natAbs : Int)) := c5
          have dne : ((d1.natAbs : Int) == 1) = false := by rw [beq_eq_false_iff_ne]; omega
          clear c5 va2 vb2
          have CN := hide (fun (wx : World) (hb : Below wy.heap.size wy wx) => common_any _ _ n1.natAbs d1.natAbs wx ((unhide HVA).below hb) ((unhide HVB).below hb) (by rw [unhide HNN]; omega) (by rw [unhide HDD]; omega))
          go_upto_region 11 with fail
          go_cut [3] from 8 (fun v w2 => ∃ (G : Nat) (pg : Option Addr) (kg : Nat), v = .slice pg (Bg.wd G).length kg ∧ Hid (WS w2 (.slice pg (Bg.wd G).length kg) (Bg.wd G)) ∧ Hid (G = Nat.gcd n1.natAbs d1.natAbs) ∧ Hid (Below wy.heap.size wy w2))
          case first =>
            go_wp2_with fail
            go_region_with (
              go_at_call 156
              (refine (unhide CN _ ?_).mono ?_; · exact (by repeat (first | exact Below.refl _ _ | apply Below.drew)))
              rintro e w1 ⟨v1, rfl, hv1, hb1⟩
              obtain ⟨pg, kg, rfl, -⟩ := id hv1
              replace hb1 : Below wy.heap.size wy w1 := below_via (by repeat (first | exact Below.refl _ _ | apply Below.drew)) hb1)
            all_goals
              have HV1 := hide hv1
              have HB1 := hide hb1
              clear hv1 hb1
              go_wp2_with fail
              go_meet
              case rel => exact ⟨_, pg, kg, rfl, hide ((unhide HV1).below (by repeat (first | exact Below.refl _ _ | apply Below.drew))), hide rfl, hide (by repeat (first | exact unhide HB1 | apply Below.drew))⟩
          case rest =>
            obtain ⟨w2, rfl⟩ : ∃ w2, w2 = wc := ⟨_, rfl⟩
            obtain ⟨G, pg, kg, rfl, HG, HGE, HB2⟩ := hcut
            have g0 : G ≠ 0 := fun e => hn1 (by have := Nat.eq_zero_of_gcd_eq_zero_left ((unhide HGE).symm.trans e); omega)
            by_cases hG1 : G = 1
            · subst hG1
              obtain ⟨b5, o5, rfl, -, c5⟩ := WS.at (unhide HG) 0 1 (by rw [Bg.wd_one (by omega) (by omega)]; rfl)
              have e5 : (Bg.wd 1).length = 1 := by rw [Bg.wd_one (by omega) (by omega)]; rfl
              rw [e5]
              have c6 : w2.cell? ⟨b5, o5, none⟩ = some (.int .u32 (1 : Int)) := c5
              clear c5
              go_wp2
              go_ret
              have hnn := unhide HNN
              have hdd := unhide HDD
              exact ⟨rfl, ⟨n1, d1, ⟨(unhide HI).below (unhide HB2), (unhide HJ).below (unhide HB2), hpos⟩, unhide HXX, by omega, by omega⟩, (unhide HK).trans (Blk.of (unhide HB2))⟩
            · by_cases hGs : G < 4294967296
              · obtain ⟨b5, o5, rfl, -, c5⟩ := WS.at (unhide HG) 0 G (by rw [Bg.wd_one hGs g0]; rfl)
                have e5 : (Bg.wd G).length = 1 := by rw [Bg.wd_one hGs g0]; rfl
                rw [e5] at HG ⊢
                have c6 : w2.cell? ⟨b5, o5, none⟩ = some (.int .u32 (G : Int)) := c5
                have gne : ((G : Int) == 1) = false := by rw [beq_eq_false_iff_ne]; omega
                clear c5
                have hGb : G ≤ d1.natAbs := by rw [unhide HGE]; exact Nat.gcd_le_right _ (by omega)
                have lG : (Bg.wd G).length ≤ 100000 := Nat.le_trans (Bg.wd_mono hGb) (by rw [unhide HDD]; omega)
                have D1 := hide (div_any _ _ n1.natAbs G w2 ((unhide HVA).below (unhide HB2)) (unhide HG) (by rw [unhide HNN]; omega) lG g0)
                have a1 := ((unhide HB2).cell (p := ⟨p, 0 + 1, none⟩) lp).trans ca1
                have a3 := ((unhide HB2).cell (p := ⟨p, 2 + 1, none⟩) lp).trans cb1
                go_wp2_with fail
                try go_wp2_with fail
                refine (unhide D1).mono ?_
                rintro e w3 ⟨v1, v2, rfl, hv1, -, hb3⟩
                obtain ⟨q1, k1, rfl, -⟩ := id hv1
                have D2 := hide (div_any _ _ d1.natAbs G w3 (((unhide HVB).below (unhide HB2)).below hb3) ((unhide HG).below hb3) (by rw [unhide HDD]; omega) lG g0)
                have a4 := (hb3.cell (p := ⟨p, 2 + 1, none⟩) (by have := (unhide HB2).size; simp only; omega)).trans a3
                have HV1 := hide hv1
                have HB3 := hide hb3
                clear hv1 hb3
                go_wp2_with fail
                refine (unhide D2).mono ?_
                rintro e w4 ⟨v3, v4, rfl, hv3, -, hb4⟩
                obtain ⟨q3, k3, rfl, -⟩ := id hv3
                have HB4 := hide (below_via (unhide HB2) (below_via (unhide HB3) hb4))
                have HV1' := hide ((unhide HV1).below hb4)
                have HV3 := hide hv3
                have z0 := (unhide HI).place.below (unhide HB4)
                have z2 := (unhide HJ).place.below (unhide HB4)
                have b1 := ((unhide HB4).cell (p := ⟨p, 0 + 1, none⟩) lp).trans ca1
                have b3 := ((unhide HB4).cell (p := ⟨p, 2 + 1, none⟩) lp).trans cb1
                have f1 := z0.frozen 1
                have f3 := z0.frozen 3
                have HT := hide (put_abs (x := n1) (y := d1) (q := .slice q1 (Bg.wd (n1.natAbs / G)).length k1) (u := .slice q3 (Bg.wd (d1.natAbs / G)).length k3) ((unhide HI).below (unhide HB4)) ((unhide HJ).below (unhide HB4)) (unhide HV1') (unhide HV3) hn1 (by omega) (by rw [unhide HGE]; exact Nat.gcd_dvd_left _ _) (by rw [unhide HGE]; exact Nat.gcd_dvd_right _ _) hpos)
                clear hv3 hb4 z0 z2 a1 a3 a4
                go_wp2
                go_ret
                have hnn := unhide HNN
                have hdd := unhide HDD
                obtain ⟨n', d', hr, e1, l1, l2, hk⟩ := unhide HT
                exact ⟨rfl, ⟨n', d', hr, ratio_via (by omega) e1 (unhide HXX), by omega, by omega⟩, (unhide HK).trans ((Blk.of (unhide HB4)).trans hk)⟩
              · exfalso
                have hGb : G ≤ d1.natAbs := by rw [unhide HGE]; exact Nat.gcd_le_right _ (by omega)
                omega
        · have e5 : 2 ≤ (Bg.wd d1.natAbs).length := Bg.len_ge (k := 1) (by omega)
          have dne : (((Bg.wd d1.natAbs).length : Int) == 1) = false := by rw [beq_eq_false_iff_ne]; omega
          clear va2 vb2
          have CN := hide (fun (wx : World) (hb : Below wy.heap.size wy wx) => common_any _ _ n1.natAbs d1.natAbs wx ((unhide HVA).below hb) ((unhide HVB).below hb) (by rw [unhide HNN]; omega) (by rw [unhide HDD]; omega))
          go_upto_region 11 with fail
          go_cut [3] from 8 (fun v w2 => ∃ (G : Nat) (pg : Option Addr) (kg : Nat), v = .slice pg (Bg.wd G).length kg ∧ Hid (WS w2 (.slice pg (Bg.wd G).length kg) (Bg.wd G)) ∧ Hid (G = Nat.gcd n1.natAbs d1.natAbs) ∧ Hid (Below wy.heap.size wy w2))
          case first =>
            go_wp2_with fail
            go_region_with (
              go_at_call 156
              (refine (unhide CN _ ?_).mono ?_; · exact (by repeat (first | exact Below.refl _ _ | apply Below.drew)))
              rintro e w1 ⟨v1, rfl, hv1, hb1⟩
              obtain ⟨pg, kg, rfl, -⟩ := id hv1
              replace hb1 : Below wy.heap.size wy w1 := below_via (by repeat (first | exact Below.refl _ _ | apply Below.drew)) hb1)
            all_goals
              have HV1 := hide hv1
              have HB1 := hide hb1
              clear hv1 hb1
              go_wp2_with fail
              go_meet
              case rel => exact ⟨_, pg, kg, rfl, hide ((unhide HV1).below (by repeat (first | exact Below.refl _ _ | apply Below.drew))), hide rfl, hide (by repeat (first | exact unhide HB1 | apply Below.drew))⟩
          case rest =>
            obtain ⟨w2, rfl⟩ : ∃ w2, w2 = wc := ⟨_, rfl⟩
            obtain ⟨G, pg, kg, rfl, HG, HGE, HB2⟩ := hcut
            have g0 : G ≠ 0 := fun e => hn1 (by have := Nat.eq_zero_of_gcd_eq_zero_left ((unhide HGE).symm.trans e); omega)
            by_cases hG1 : G = 1
            · subst hG1
              obtain ⟨b5, o5, rfl, -, c5⟩ := WS.at (unhide HG) 0 1 (by rw [Bg.wd_one (by omega) (by omega)]; rfl)
              have e5 : (Bg.wd 1).length = 1 := by rw [Bg.wd_one (by omega) (by omega)]; rfl
              rw [e5]
              have c6 : w2.cell? ⟨b5, o5, none⟩ = some (.int .u32 (1 : Int)) := c5
              clear c5
              go_wp2
              go_ret
              have hnn := unhide HNN
              have hdd := unhide HDD
              exact ⟨rfl, ⟨n1, d1, ⟨(unhide HI).below (unhide HB2), (unhide HJ).below (unhide HB2), hpos⟩, unhide HXX, by omega, by omega⟩, (unhide HK).trans (Blk.of (unhide HB2))⟩
            · by_cases hGs : G < 4294967296
              · obtain ⟨b5, o5, rfl, -, c5⟩ := WS.at (unhide HG) 0 G (by rw [Bg.wd_one hGs g0]; rfl)
                have e5 : (Bg.wd G).length = 1 := by rw [Bg.wd_one hGs g0]; rfl
                rw [e5] at HG ⊢
                have c6 : w2.cell? ⟨b5, o5, none⟩ = some (.int .u32 (G : Int)) := c5
                have gne : ((G : Int) == 1) = false := by rw [beq_eq_false_iff_ne]; omega
                clear c5
                have hGb : G ≤ d1.natAbs := by rw [unhide HGE]; exact Nat.gcd_le_right _ (by omega)
                have lG : (Bg.wd G).length ≤ 100000 := Nat.le_trans (Bg.wd_mono hGb) (by rw [unhide HDD]; omega)
                have D1 := hide (div_any _ _ n1.natAbs G w2 ((unhide HVA).below (unhide HB2)) (unhide HG) (by rw [unhide HNN]; omega) lG g0)
                have a1 := ((unhide HB2).cell (p := ⟨p, 0 + 1, none⟩) lp).trans ca1
                have a3 := ((unhide HB2).cell (p := ⟨p, 2 + 1, none⟩) lp).trans cb1
                go_wp2_with fail
                try go_wp2_with fail
                refine (unhide D1).mono ?_
                rintro e w3 ⟨v1, v2, rfl, hv1, -, hb3⟩
                obtain ⟨q1, k1, rfl, -⟩ := id hv1
                have D2 := hide (div_any _ _ d1.natAbs G w3 (((unhide HVB).below (unhide HB2)).below hb3) ((unhide HG).below hb3) (by rw [unhide HDD]; omega) lG g0)
                have a4 := (hb3.cell (p := ⟨p, 2 + 1, none⟩) (by have := (unhide HB2).size; simp only; omega)).trans a3
                have HV1 := hide hv1
                have HB3 := hide hb3
                clear hv1 hb3
                go_wp2_with fail
                refine (unhide D2).mono ?_
                rintro e w4 ⟨v3, v4, rfl, hv3, -, hb4⟩
                obtain ⟨q3, k3, rfl, -⟩ := id hv3
                have HB4 := hide (below_via (unhide HB2) (below_via (unhide HB3) hb4))
                have HV1' := hide ((unhide HV1).below hb4)
                have HV3 := hide hv3
                have z0 := (unhide HI).place.below (unhide HB4)
                have z2 := (unhide HJ).place.below (unhide HB4)
                have b1 := ((unhide HB4).cell (p := ⟨p, 0 + 1, none⟩) lp).trans ca1
                have b3 := ((unhide HB4).cell (p := ⟨p, 2 + 1, none⟩) lp).trans cb1
                have f1 := z0.frozen 1
                have f3 := z0.frozen 3
                have HT := hide (put_abs (x := n1) (y := d1) (q := .slice q1 (Bg.wd (n1.natAbs / G)).length k1) (u := .slice q3 (Bg.wd (d1.natAbs / G)).length k3) ((unhide HI).below (unhide HB4)) ((unhide HJ).below (unhide HB4)) (unhide HV1') (unhide HV3) hn1 (by omega) (by rw [unhide HGE]; exact Nat.gcd_dvd_left _ _) (by rw [unhide HGE]; exact Nat.gcd_dvd_right _ _) hpos)
                clear hv3 hb4 z0 z2 a1 a3 a4
                go_wp2
                go_ret
                have hnn := unhide HNN
                have hdd := unhide HDD
                obtain ⟨n', d', hr, e1, l1, l2, hk⟩ := unhide HT
                exact ⟨rfl, ⟨n', d', hr, ratio_via (by omega) e1 (unhide HXX), by omega, by omega⟩, (unhide HK).trans ((Blk.of (unhide HB4)).trans hk)⟩
              · have e5 : 2 ≤ (Bg.wd G).length := Bg.len_ge (k := 1) (by omega)
                have gne : (((Bg.wd G).length : Int) == 1) = false := by rw [beq_eq_false_iff_ne]; omega
                have hGb : G ≤ d1.natAbs := by rw [unhide HGE]; exact Nat.gcd_le_right _ (by omega)
                have lG : (Bg.wd G).length ≤ 100000 := Nat.le_trans (Bg.wd_mono hGb) (by rw [unhide HDD]; omega)
                have D1 := hide (div_any _ _ n1.natAbs G w2 ((unhide HVA).below (unhide HB2)) (unhide HG) (by rw [unhide HNN]; omega) lG g0)
                have a1 := ((unhide HB2).cell (p := ⟨p, 0 + 1, none⟩) lp).trans ca1
                have a3 := ((unhide HB2).cell (p := ⟨p, 2 + 1, none⟩) lp).trans cb1
                go_wp2_with fail
                try go_wp2_with fail
                refine (unhide D1).mono ?_
                rintro e w3 ⟨v1, v2, rfl, hv1, -, hb3⟩
                obtain ⟨q1, k1, rfl, -⟩ := id hv1
                have D2 := hide (div_any _ _ d1.natAbs G w3 (((unhide HVB).below (unhide HB2)).below hb3) ((unhide HG).below hb3) (by rw [unhide HDD]; omega) lG g0)
                have a4 := (hb3.cell (p := ⟨p, 2 + 1, none⟩) (by have := (unhide HB2).size; simp only; omega)).trans a3
                have HV1 := hide hv1
                have HB3 := hide hb3
                clear hv1 hb3
                go_wp2_with fail
                refine (unhide D2).mono ?_
                rintro e w4 ⟨v3, v4, rfl, hv3, -, hb4⟩
                obtain ⟨q3, k3, rfl, -⟩ := id hv3
                have HB4 := hide (below_via (unhide HB2) (below_via (unhide HB3) hb4))
                have HV1' := hide ((unhide HV1).below hb4)
                have HV3 := hide hv3
                have z0 := (unhide HI).place.below (unhide HB4)
                have z2 := (unhide HJ).place.below (unhide HB4)
                have b1 := ((unhide HB4).cell (p := ⟨p, 0 + 1, none⟩) lp).trans ca1
                have b3 := ((unhide HB4).cell (p := ⟨p, 2 + 1, none⟩) lp).trans cb1
                have f1 := z0.frozen 1
                have f3 := z0.frozen 3
                have HT := hide (put_abs (x := n1) (y := d1) (q := .slice q1 (Bg.wd (n1.natAbs / G)).length k1) (u := .slice q3 (Bg.wd (d1.natAbs / G)).length k3) ((unhide HI).below (unhide HB4)) ((unhide HJ).below (unhide HB4)) (unhide HV1') (unhide HV3) hn1 (by omega) (by rw [unhide HGE]; exact Nat.gcd_dvd_left _ _) (by rw [unhide HGE]; exact Nat.gcd_dvd_right _ _) hpos)
                clear hv3 hb4 z0 z2 a1 a3 a4
                go_wp2
                go_ret
                have hnn := unhide HNN
                have hdd := unhide HDD
                obtain ⟨n', d', hr, e1, l1, l2, hk⟩ := unhide HT
                exact ⟨rfl, ⟨n', d', hr, ratio_via (by omega) e1 (unhide HXX), by omega, by omega⟩, (unhide HK).trans ((Blk.of (unhide HB4)).trans hk)⟩
end Go.Proofs.YtdkgapapdjefdaaGreatDoor

/- A region that draws its order and in which new places are made and written by calls: by a list that says what each slot holds, a place of its own having a code. -/
namespace Go.Proofs.YtdkgapapdjefdaaGreatDoor
open Go.RowKit

/-- the block of a pointer -/
def vb : Value → Nat
  | .pointer (some ⟨b, _, _⟩) => b
  | _ => 0
theorem vb_ptr (b o : Nat) : vb (.pointer (some ⟨b, o, none⟩)) = b := rfl
/-- one block and all words are as they were -/
structure Kept (b : Nat) (w w' : World) : Prop where
  blk : w'.heap[b]? = w.heap[b]?
  kw : KW w w'
theorem Kept.of {b : Nat} {w w' : World} (h : Below w.heap.size w w') (l : b < w.heap.size) : Kept b w w' := ⟨h.block b l, KW.of h⟩
theorem Kept.blk' {b p q : Nat} {w w' : World} (h : Blk p w w') (hz : ZA w p q) (l : b < w.heap.size) (ne : b ≠ p) : Kept b w w' := ⟨h.block b l ne, h.kw hz⟩
theorem ZA.kept {w w' : World} {b o : Nat} (h : ZA w b o) (k : Kept b w w') : ZA w' b o := by
  obtain ⟨c, t, h1, h2⟩ := h
  exact ⟨c, t, k.blk.trans h1, h2⟩
theorem IA.kept {w w' : World} {b o : Nat} {z : Int} (h : IA w b o z) (k : Kept b w w') : IA w' b o z := by
  obtain ⟨v, h1, hw⟩ := h.abs
  have key : ∀ i, w'.cell? ⟨b, i, none⟩ = w.cell? ⟨b, i, none⟩ := fun i => World.cell?_of_block (w := w) k.blk
  exact ⟨h.place.kept k, (key o).trans h.neg, v, (key (o + 1)).trans h1, hw.keep k.kw⟩

/-- what a place holds: it stays as long as its block and all words do -/
structure Pl where
  is : World → Nat → Nat → Prop
  low : ∀ {w b o}, is w b o → b < w.heap.size
  kept : ∀ {w w' b o}, is w b o → Kept b w w' → is w' b o
/-- a whole number -/
def pI (z : Int) : Pl := ⟨fun w b o => IA w b o z, fun h => h.place.low, fun h k => h.kept k⟩
/-- an empty place of cells up to q + 1 -/
def pZ (q : Nat) : Pl := ⟨fun w b o => o = 0 ∧ ZA w b q, fun h => h.2.low, fun h k => ⟨h.1, h.2.kept k⟩⟩

inductive Dn where
  | lit (v : Value)
  | ptr (m : Nat) (P : Pl)
  | new (m : Nat) (q : Nat)
  | any
def Dn.ok (B : Nat) : Dn → Value → World → Prop
  | .lit u, v, _ => v = u
  | .ptr _ P, v, w => ∃ b o, v = .pointer (some ⟨b, o, none⟩) ∧ P.is w b o
  | .new _ q, v, w => ∃ b, v = .pointer (some ⟨b, 0, none⟩) ∧ ZA w b q ∧ B ≤ b
  | .any, _, _ => True
def Dn.isLit : Dn → Value → Prop
  | .lit v, x => x = v
  | _, _ => True
def Dn.code : Dn → Option Nat
  | .lit _ => none
  | .ptr m _ => some m
  | .new m _ => some m
  | .any => none
theorem Dn.low {B : Nat} {x : Dn} {v : Value} {w : World} {m : Nat} (h : x.ok B v w) (hm : x.code = some m) : vb v < w.heap.size := by
  cases x with
  | lit u => cases hm
  | ptr m P => obtain ⟨b, o, rfl, hp⟩ := h; exact P.low hp
  | new m q => obtain ⟨b, rfl, hz, _⟩ := h; exact hz.low
  | any => cases hm
theorem Dn.keep {B : Nat} {x : Dn} {v : Value} {w w' : World} (h : x.ok B v w) (k : x.code ≠ none → Kept (vb v) w w') : x.ok B v w' := by
  cases x with
  | lit u => exact h
  | ptr m P => obtain ⟨b, o, rfl, hp⟩ := h; exact ⟨b, o, rfl, P.kept hp (k (by simp [Dn.code]))⟩
  | new m q => obtain ⟨b, rfl, hz, hb⟩ := h; exact ⟨b, rfl, hz.kept (k (by simp [Dn.code])), hb⟩
  | any => trivial
def dn (l : List Dn) (i : Nat) : Dn := (l[i]?).getD .any
def OkN (B : Nat) (g : Bool) (l : List Dn) (i : Nat) (v : Value) (w : World) : Prop := if g = true then (dn l i).isLit v else (dn l i).ok B v w

structure RP (w0 : World) (a0 : Act) (N : Nat) (D : List Nat) (gi : Nat) (Fin : World → Prop) (l : List Dn) (L : Nat → Bool) (a : Act) (w : World) : Prop where
  size : a.tmps.size = N
  defs : a.defers = []
  rest : ∀ j, (∀ i d, L i = true → D[i]? = some d → d ≠ j) → G a j = G a0 j
  got : ∀ i d, L i = true → D[i]? = some d → OkN w0.heap.size (L gi) l i (G a d) w
  sep : L gi = false → ∀ i j d e m n, L i = true → L j = true → D[i]? = some d → D[j]? = some e → (dn l i).code = some m → (dn l j).code = some n → m ≠ n → vb (G a d) ≠ vb (G a e) ∨ vb (G a d) < w0.heap.size
  old : L gi = false → Below w0.heap.size w0 w
  fin : L gi = true → Fin w
  nogi : D.length ≤ gi → L gi = false
section
variable {w0 w w' : World} {a0 a a' : Act} {N gi : Nat} {D : List Nat} {Fin : World → Prop} {l : List Dn} {L : Nat → Bool} {ops : Array Oper} {Q : Exit → Act → World → Prop} {i d : Nat} {o : Oper}
theorem RP.keep (h : RP w0 a0 N D gi Fin l L a w) {s : Nat} (hs : s ∉ D) : G a s = G a0 s :=
  h.rest s (fun _ _ _ hd e => hs (e ▸ List.mem_of_getElem? hd))
theorem RP.start (h1 : a0.tmps.size = N) (h2 : a0.defers = []) (h3 : Below w0.heap.size w0 w) : RP w0 a0 N D gi Fin l (fun _ => false) a0 w :=
  ⟨h1, h2, fun _ _ => rfl, fun _ _ h => (by cases h), fun _ _ _ _ _ _ _ h => (by cases h), fun _ => h3, fun h => (by cases h), fun _ => rfl⟩
theorem RP.lit (h : RP w0 a0 N D gi Fin l L a w) (hL : L i = true) (hD : D[i]? = some d) {u : Value} (hl : dn l i = .lit u) : G a d = u := by
  have g := h.got i d hL hD
  unfold OkN at g
  split at g
  · rw [hl] at g; exact g
  · rw [hl] at g; exact g
theorem RP.ptr (h : RP w0 a0 N D gi Fin l L a w) (hg : L gi = false) (hL : L i = true) (hD : D[i]? = some d) {m : Nat} {P : Pl} (hl : dn l i = .ptr m P) : ∃ b o, G a d = .pointer (some ⟨b, o, none⟩) ∧ P.is w b o := by
  have g := h.got i d hL hD
  unfold OkN at g
  rw [hg, hl] at g
  exact g
theorem RP.new (h : RP w0 a0 N D gi Fin l L a w) (hg : L gi = false) (hL : L i = true) (hD : D[i]? = some d) {m q : Nat} (hl : dn l i = .new m q) : ∃ b, G a d = .pointer (some ⟨b, 0, none⟩) ∧ ZA w b q ∧ w0.heap.size ≤ b := by
  have g := h.got i d hL hD
  unfold OkN at g
  rw [hg, hl] at g
  exact g
/-- any step but the last one: what the others hold is kept, the new one is apart -/
theorem RP.step (h : RP w0 a0 N D gi Fin l L a w) (nd : D.Nodup) (i : Nat) {d : Nat} {v : Value} (hi : D[i]? = some d) (ne : gi ≠ i) (U : Upd a d v a') (hd : a'.defers = a.defers)
    (hw : w' = w ∨ (L gi = false ∧ Below w0.heap.size w0 w' ∧ ∀ j e, L j = true → j ≠ i → D[j]? = some e → (dn l j).ok w0.heap.size (G a e) w'))
    (ok : OkN w0.heap.size (L gi) l i v w')
    (hs : L gi = false → ∀ j e m n, L j = true → j ≠ i → D[j]? = some e → (dn l i).code = some m → (dn l j).code = some n → m ≠ n → (vb v ≠ vb (G a e) ∨ vb v < w0.heap.size) ∧ (vb (G a e) ≠ vb v ∨ vb (G a e) < w0.heap.size)) :
    RP w0 a0 N D gi Fin l (fun j => j == i || L j) a' w' := by
  have eg : (gi == i || L gi) = L gi := by simp [ne]
  have oth : ∀ j e, (j == i || L j) = true → D[j]? = some e → j ≠ i → L j = true ∧ G a' e = G a e := fun j e hj he e1 => by
    have hL : L j = true := by simpa [e1] using hj
    have hne : e ≠ d := fun q => e1 (nodup_at nd hi (q ▸ he))
    exact ⟨hL, U.rest e hne⟩
  refine ⟨U.size.trans h.size, hd.trans h.defs, fun j hj => ?_, fun j e hj he => ?_, fun hg j k e f m n hj hk he hf hm hn hmn => ?_, fun hg => ?_, fun hg => ?_, fun hg => ?_⟩
  · have hne : j ≠ d := fun e => hj i d (by simp) hi e.symm
    rw [U.rest j hne]
    exact h.rest j (fun i' d' hi' hd' => hj i' d' (by simp [hi']) hd')
  · show OkN w0.heap.size (gi == i || L gi) l j (G a' e) w'
    rw [eg]
    by_cases e1 : j = i
    · subst e1
      rw [hi] at he
      cases he
      rw [U.got]
      exact ok
    · obtain ⟨hL, hG⟩ := oth j e hj he e1
      rw [hG]
      rcases hw with rfl | ⟨hg, _, hk⟩
      · exact h.got j e hL he
      · unfold OkN
        rw [hg]
        exact hk j e hL e1 he
  · have hg' : L gi = false := by rw [← eg]; exact hg
    by_cases e1 : j = i
    · subst e1
      rw [hi] at he
      cases he
      by_cases e2 : k = j
      · subst e2
        rw [hm] at hn
        cases hn
        exact absurd rfl hmn
      · obtain ⟨hL, hG⟩ := oth k f hk hf e2
        rw [U.got, hG]
        exact (hs hg' k f m n hL e2 hf hm hn hmn).1
    · obtain ⟨hL1, hG1⟩ := oth j e hj he e1
      by_cases e2 : k = i
      · subst e2
        rw [hi] at hf
        cases hf
        rw [U.got, hG1]
        exact (hs hg' j e n m hL1 e1 he hn hm (Ne.symm hmn)).2
      · obtain ⟨hL2, hG2⟩ := oth k f hk hf e2
        rw [hG1, hG2]
        exact h.sep hg' j k e f m n hL1 hL2 he hf hm hn hmn
  · have hg' : L gi = false := by rw [← eg]; exact hg
    rcases hw with rfl | ⟨_, hb, _⟩
    · exact h.old hg'
    · exact hb
  · have hg' : L gi = true := by rw [← eg]; exact hg
    rcases hw with rfl | ⟨hq, _⟩
    · exact h.fin hg'
    · rw [hg'] at hq; cases hq
  · show (gi == i || L gi) = false
    rw [eg]
    exact h.nogi hg
theorem RP.last (h : RP w0 a0 N D gi Fin l L a w) (nd : D.Nodup) {d : Nat} {v : Value} (hi : D[gi]? = some d) (hg : L gi = false) (U : Upd a d v a') (hd : a'.defers = a.defers) (ok : (dn l gi).isLit v) (fin : Fin w') :
    RP w0 a0 N D gi Fin l (fun j => j == gi || L j) a' w' := by
  have eg : (gi == gi || L gi) = true := by simp
  refine ⟨U.size.trans h.size, hd.trans h.defs, fun j hj => ?_, fun j e hj he => ?_, fun hq => (by simp at hq), fun hq => (by simp at hq), fun _ => fin, fun hq => ?_⟩
  · have hne : j ≠ d := fun e => hj gi d (by simp) hi e.symm
    rw [U.rest j hne]
    exact h.rest j (fun i' d' hi' hd' => hj i' d' (by simp [hi']) hd')
  · show OkN w0.heap.size (gi == gi || L gi) l j (G a' e) w'
    rw [eg]
    unfold OkN
    rw [if_pos rfl]
    by_cases e1 : j = gi
    · subst e1
      rw [hi] at he
      cases he
      rw [U.got]
      exact ok
    · have hL : L j = true := by simpa [e1] using hj
      have hne : e ≠ d := fun q => e1 (nodup_at nd hi (q ▸ he))
      rw [U.rest e hne]
      have g := h.got j e hL he
      unfold OkN at g
      rw [hg] at g
      generalize dn l j = x at g ⊢
      cases x with
      | lit u => exact g
      | ptr m P => trivial
      | new m q => trivial
      | any => trivial
  · exact absurd hq (by have := (List.getElem?_eq_some_iff.1 hi).1; omega)

theorem below_step (h : Below w0.heap.size w0 w) (hb : Below w.heap.size w w') : Below w0.heap.size w0 w' := h.trans (hb.mono h.size)
/-- a known value, nothing written but new memory -/
theorem rp_val (h : RP w0 a0 N D gi Fin l L a w) (nd : D.Nodup) (hi : ops[i]? = some o) (hd : o.dst = some d) (hDi : D[i]? = some d) (hN : d < N) (ne : gi ≠ i) (hw : Region.wanted o (yielded ops a.tmps) = true) {v : Value} (r : (execOp a.eval o).run Tryz.prog w = .ok (.value v) w) (hl : dn l i = .lit v) :
    wpOp Tryz.prog ops Q i (fun a' w' => RP w0 a0 N D gi Fin l (fun j => j == i || L j) a' w') a w :=
  o_val hi hd hw (by rw [h.size]; exact hN) r fun _ U hf => h.step nd i hDi ne U hf (.inl rfl) (by unfold OkN; rw [hl]; split <;> exact rfl) (fun _ _ _ m n _ _ _ hm => by rw [hl] at hm; cases hm)
/-- a pointer is ntold again -/
theorem rp_copy (h : RP w0 a0 N D gi Fin l L a w) (nd : D.Nodup) (hi : ops[i]? = some o) (hd : o.dst = some d) (hDi : D[i]? = some d) (hN : d < N) (ne : gi ≠ i) (hg : L gi = false) (hw : Region.wanted o (yielded ops a.tmps) = true) {j e : Nat} (hLj : L j = true) (hDj : D[j]? = some e) (r : (execOp a.eval o).run Tryz.prog w = .ok (.value (G a e)) w) (hl : dn l i = dn l j) :
    wpOp Tryz.prog ops Q i (fun a' w' => RP w0 a0 N D gi Fin l (fun j => j == i || L j) a' w') a w :=
  o_val hi hd hw (by rw [h.size]; exact hN) r fun _ U hf => h.step nd i hDi ne U hf (.inl rfl) (by
    have := h.got j e hLj hDj
    unfold OkN at this ⊢
    rw [hl]; exact this) (fun _ k f m n hk _ hf hm hn hmn => by
    rw [hl] at hm
    exact ⟨h.sep hg j k e f m n hLj hk hDj hf hm hn hmn, h.sep hg k j f e n m hk hLj hf hDj hn hm (Ne.symm hmn)⟩)
theorem RP.apart (h : RP w0 a0 N D gi Fin l L a w) (hg : L gi = false) {v : Value} (hv : vb v < w0.heap.size ∨ w.heap.size ≤ vb v) {j e n : Nat} (hj : L j = true) (he : D[j]? = some e) (hn : (dn l j).code = some n) :
    (vb v ≠ vb (G a e) ∨ vb v < w0.heap.size) ∧ (vb (G a e) ≠ vb v ∨ vb (G a e) < w0.heap.size) := by
  have g := h.got j e hj he
  unfold OkN at g
  rw [hg] at g
  have := Dn.low g hn
  omega
/-- a call that writes nothing old: what comes of it is a known value -/
theorem rp_read (h : RP w0 a0 N D gi Fin l L a w) (nd : D.Nodup) (hi : ops[i]? = some o) (hd : o.dst = some d) (hDi : D[i]? = some d) (hN : d < N) (ne : gi ≠ i) (hg : L gi = false) (hw : Region.wanted o (yielded ops a.tmps) = true) {n : Nat} {args : Array Value} (r : (execOp a.eval o).run Tryz.prog w = .ok (.enter n args) w)
    {u : Value} (hc : Calls Tryz.prog n args w fun e w' => e = .returned u ∧ Below w.heap.size w w') (hl : dn l i = .lit u) :
    wpOp Tryz.prog ops Q i (fun a' w' => RP w0 a0 N D gi Fin l (fun j => j == i || L j) a' w') a w :=
  o_enter (R := fun v w' => v = u ∧ Below w.heap.size w w') hi hd hw (by rw [h.size]; exact hN) r (hc.mono fun _ _ q => ⟨_, q.1, rfl, q.2⟩) fun v _ w' hR U hf => h.step nd i hDi ne U hf (.inr ⟨hg, below_step (h.old hg) hR.2, fun j e hj _ he => by
    have g := h.got j e hj he
    unfold OkN at g
    rw [hg] at g
    refine Dn.keep g fun hc => ?_
    obtain ⟨m, hm⟩ := Option.ne_none_iff_exists'.1 hc
    exact Kept.of hR.2 (Dn.low g hm)⟩) (by unfold OkN; rw [hl, hR.1]; split <;> exact rfl) (fun _ _ _ m n _ _ _ hm => by rw [hl] at hm; cases hm)
/-- a call that writes nothing old: what comes of it is a place, old or new -/
theorem rp_make (h : RP w0 a0 N D gi Fin l L a w) (nd : D.Nodup) (hi : ops[i]? = some o) (hd : o.dst = some d) (hDi : D[i]? = some d) (hN : d < N) (ne : gi ≠ i) (hg : L gi = false) (hw : Region.wanted o (yielded ops a.tmps) = true) {n : Nat} {args : Array Value} (r : (execOp a.eval o).run Tryz.prog w = .ok (.enter n args) w)
    {m : Nat} {P : Pl} (hc : Calls Tryz.prog n args w fun e w' => ∃ b o, e = .returned (.pointer (some ⟨b, o, none⟩)) ∧ P.is w' b o ∧ (b < w0.heap.size ∨ w.heap.size ≤ b) ∧ Below w.heap.size w w') (hl : dn l i = .ptr m P) :
    wpOp Tryz.prog ops Q i (fun a' w' => RP w0 a0 N D gi Fin l (fun j => j == i || L j) a' w') a w :=
  o_enter (R := fun v w' => ∃ b o, v = .pointer (some ⟨b, o, none⟩) ∧ P.is w' b o ∧ (b < w0.heap.size ∨ w.heap.size ≤ b) ∧ Below w.heap.size w w') hi hd hw (by rw [h.size]; exact hN) r (hc.mono fun _ _ q => by
    obtain ⟨b, o, rfl, q⟩ := q
    exact ⟨_, rfl, b, o, rfl, q⟩) fun v _ w' hR U hf => by
    obtain ⟨b, o', rfl, hP, hb, hB⟩ := hR
    exact h.step nd i hDi ne U hf (.inr ⟨hg, below_step (h.old hg) hB, fun j e hj _ he => by
      have g := h.got j e hj he
      unfold OkN at g
      rw [hg] at g
      refine Dn.keep g fun hc => ?_
      obtain ⟨m, hm⟩ := Option.ne_none_iff_exists'.1 hc
      exact Kept.of hB (Dn.low g hm)⟩) (by unfold OkN; rw [hl, hg]; exact ⟨b, o', rfl, hP⟩) (fun _ j e m n hj _ he _ hn _ => h.apart hg (v := .pointer (some ⟨b, o', none⟩)) hb hj he hn)
/-- a new place -/
theorem rp_new (h : RP w0 a0 N D gi Fin l L a w) (nd : D.Nodup) (hi : ops[i]? = some o) (hd : o.dst = some d) (hDi : D[i]? = some d) (hN : d < N) (ne : gi ≠ i) (hg : L gi = false) (hw : Region.wanted o (yielded ops a.tmps) = true) {blk : Obj} (r : (execOp a.eval o).run Tryz.prog w = .ok (.value (.pointer (some ⟨w.heap.size, 0, none⟩))) (w.alloc blk))
    {m q : Nat} (hz : ∀ w : World, ZA (w.alloc blk) w.heap.size q) (hl : dn l i = .new m q) :
    wpOp Tryz.prog ops Q i (fun a' w' => RP w0 a0 N D gi Fin l (fun j => j == i || L j) a' w') a w :=
  o_val hi hd hw (by rw [h.size]; exact hN) r fun _ U hf => by
    have hB := below_new w blk
    exact h.step nd i hDi ne U hf (.inr ⟨hg, below_step (h.old hg) hB, fun j e hj _ he => by
      have g := h.got j e hj he
      unfold OkN at g
      rw [hg] at g
      refine Dn.keep g fun hc => ?_
      obtain ⟨m, hm⟩ := Option.ne_none_iff_exists'.1 hc
      exact Kept.of hB (Dn.low g hm)⟩) (by unfold OkN; rw [hl, hg]; exact ⟨w.heap.size, rfl, hz w, (h.old hg).size⟩) (fun _ j e m n hj _ he _ hn _ => h.apart hg (v := .pointer (some ⟨w.heap.size, 0, none⟩)) (.inr (Nat.le_refl _)) hj he hn)
/-- a call that writes a new place, and tells it -/
theorem rp_put (h : RP w0 a0 N D gi Fin l L a w) (nd : D.Nodup) (hi : ops[i]? = some o) (hd : o.dst = some d) (hDi : D[i]? = some d) (hN : d < N) (ne : gi ≠ i) (hg : L gi = false) (hw : Region.wanted o (yielded ops a.tmps) = true) {n : Nat} {args : Array Value} (r : (execOp a.eval o).run Tryz.prog w = .ok (.enter n args) w)
    {j e b m q : Nat} {P : Pl} (hLj : L j = true) (hDj : D[j]? = some e) (hj : dn l j = .new m q) (hb : G a e = .pointer (some ⟨b, 0, none⟩))
    (hc : Calls Tryz.prog n args w fun e w' => e = .returned (.pointer (some ⟨b, 0, none⟩)) ∧ P.is w' b 0 ∧ Blk b w w') (hl : dn l i = .ptr m P)
    (al : ∀ k, L k = true → (dn l k).code = some m → dn l k = .new m q) :
    wpOp Tryz.prog ops Q i (fun a' w' => RP w0 a0 N D gi Fin l (fun j => j == i || L j) a' w') a w :=
  o_enter (R := fun v w' => v = .pointer (some ⟨b, 0, none⟩) ∧ P.is w' b 0 ∧ Blk b w w') hi hd hw (by rw [h.size]; exact hN) r (hc.mono fun _ _ q => ⟨_, q.1, rfl, q.2⟩) fun v _ w' hR U hf => by
    obtain ⟨rfl, hP, hB⟩ := hR
    obtain ⟨b', hb', hz, hlow⟩ := h.new hg hLj hDj hj
    rw [hb] at hb'
    cases hb'
    have hcj : (dn l j).code = some m := by rw [hj]; rfl
    refine h.step nd i hDi ne U hf (.inr ⟨hg, (h.old hg).trans (hB.below hlow (h.old hg).size), fun k f hk _ hf => ?_⟩) (by unfold OkN; rw [hl, hg]; exact ⟨b, 0, rfl, hP⟩) (fun _ k f m' n hk _ hf hm hn hmn => ?_)
    · have g := h.got k f hk hf
      unfold OkN at g
      rw [hg] at g
      by_cases hkm : (dn l k).code = some m
      · have hk2 := al k hk hkm
        obtain ⟨b2, e2, hz2, hlow2⟩ := h.new hg hk hf hk2
        rw [hk2]
        exact ⟨b2, e2, hz2.blk hB, hlow2⟩
      · refine Dn.keep g fun hc => ?_
        obtain ⟨m2, hm2⟩ := Option.ne_none_iff_exists'.1 hc
        have hne : m2 ≠ m := fun q => hkm (q ▸ hm2)
        have hs := h.sep hg k j f e m2 m hk hLj hf hDj hm2 hcj hne
        rw [hb, vb_ptr] at hs
        exact Kept.blk' hB hz (Dn.low g hm2) (by omega)
    · rw [hl] at hm
      cases hm
      have s1 := h.sep hg j k e f m n hLj hk hDj hf hcj hn hmn
      have s2 := h.sep hg k j f e n m hk hLj hf hDj hn hcj (Ne.symm hmn)
      rw [hb] at s1 s2
      exact ⟨s1, s2⟩
def Dn.isNew (m q : Nat) : Dn → Bool
  | .new m' q' => m' == m && q' == q
  | _ => false
/-- which slots have a code, ntold by a list -/
theorem al_of {m q : Nat} {bad : List Nat} (chk : (List.range l.length).all (fun k => (dn l k).code != some m || (dn l k).isNew m q || bad.contains k) = true) (hb : ∀ k ∈ bad, L k = false) : ∀ k, L k = true → (dn l k).code = some m → dn l k = .new m q := fun k hk hm => by
  by_cases hlt : k < l.length
  · have := List.all_eq_true.1 chk k (List.mem_range.2 hlt)
    simp only [Bool.or_eq_true, bne_iff_ne, ne_eq, hm, not_true_eq_false, false_or] at this
    rcases this with h | h
    · generalize dn l k = x at h ⊢
      cases x with
      | new m' q' => simp [Dn.isNew] at h; rw [h.1, h.2]
      | lit u => cases h
      | ptr m P => cases h
      | any => cases h
    · rw [hb k (by simpa using h)] at hk
      cases hk
  · unfold dn at hm
    rw [List.getElem?_eq_none (by omega)] at hm
    cases hm
theorem rp_last (h : RP w0 a0 N D gi Fin l L a w) (nd : D.Nodup) (hi : ops[gi]? = some o) (hd : o.dst = some d) (hDi : D[gi]? = some d) (hN : d < N) (hg : L gi = false) (hw : Region.wanted o (yielded ops a.tmps) = true) {n : Nat} {args : Array Value} (r : (execOp a.eval o).run Tryz.prog w = .ok (.enter n args) w)
    {u : Value} (hc : Calls Tryz.prog n args w fun e w' => e = .returned u ∧ Fin w') (hl : dn l gi = .lit u) :
    wpOp Tryz.prog ops Q gi (fun a' w' => RP w0 a0 N D gi Fin l (fun j => j == gi || L j) a' w') a w :=
  o_enter (R := fun v w' => v = u ∧ Fin w') hi hd hw (by rw [h.size]; exact hN) r (hc.mono fun _ _ q => ⟨_, q.1, rfl, q.2⟩) fun v _ w' hR U hf => h.last nd hDi hg U hf (by rw [hl]; exact hR.1) hR.2
end

section
variable {a : Act} {w : World} {d : Option Nat} {t : TypeId} {p : String} {af : Array Edge} {g : Option (Nat × Bool)}
theorem run_fldA {x : Operand} {b : Nat} (h : a.eval x = .pointer (some ⟨b, 0, none⟩)) : (execOp a.eval ⟨d, .fieldAddr 136 x 0, t, p, af, g⟩).run Tryz.prog w = .ok (.value (.pointer (some ⟨b, 0, none⟩))) w := by
  generalize a.eval = E at h ⊢
  simp [go_sem, h]
theorem run_newI : (execOp a.eval ⟨d, .alloc 134, t, p, af, g⟩).run Tryz.prog w = .ok (.value (.pointer (some ⟨w.heap.size, 0, none⟩))) (w.alloc (.cells #[.bool false, .slice none 0 0] 134)) := by
  generalize a.eval = E
  simp [go_sem]
theorem run_newR : (execOp a.eval ⟨d, .alloc 136, t, p, af, g⟩).run Tryz.prog w = .ok (.value (.pointer (some ⟨w.heap.size, 0, none⟩))) (w.alloc (.cells #[.bool false, .slice none 0 0, .bool false, .slice none 0 0] 136)) := by
  generalize a.eval = E
  simp [go_sem]
theorem run_fldB {x : Operand} {b : Nat} (h : a.eval x = .pointer (some ⟨b, 0, none⟩)) : (execOp a.eval ⟨d, .fieldAddr 136 x 1, t, p, af, g⟩).run Tryz.prog w = .ok (.value (.pointer (some ⟨b, 2, none⟩))) w := by
  generalize a.eval = E at h ⊢
  simp [go_sem, h]
end
end Go.Proofs.YtdkgapapdjefdaaGreatDoor

/- Ratios as such: what is N over D; den of any. -/
namespace Go.Proofs.YtdkgapapdjefdaaGreatDoor
open Go.RowKit

/-- how many words a whole number has -/
def Ln (x : Int) : Nat := (Bg.wd x.natAbs).length
theorem Ln_mono {x y : Int} (h : x.natAbs ≤ y.natAbs) : Ln x ≤ Ln y := Bg.wd_mono h
theorem Ln_lt (x : Int) : x.natAbs < 4294967296 ^ Ln x := Bg.wd_lt _
theorem Ln_le {x : Int} {k : Nat} (h : x.natAbs < 4294967296 ^ k) : Ln x ≤ k := Bg.wd_len_le _ _ h
theorem Ln_mul (x y : Int) : Ln (x * y) ≤ Ln x + Ln y := by
  apply Ln_le
  rw [Int.natAbs_mul, Nat.pow_add]
  exact Nat.mul_lt_mul'' (Ln_lt x) (Ln_lt y)
theorem Ln_add (x y : Int) : Ln (x + y) ≤ Ln x + Ln y + 1 := by
  apply Ln_le
  have h1 := Ln_lt x
  have h2 := Ln_lt y
  have h3 := Int.natAbs_add_le x y
  have h4 : 4294967296 ^ Ln x ≤ 4294967296 ^ (Ln x + Ln y) := Nat.pow_le_pow_right (by omega) (by omega)
  have h5 : 4294967296 ^ Ln y ≤ 4294967296 ^ (Ln x + Ln y) := Nat.pow_le_pow_right (by omega) (by omega)
  rw [Nat.pow_succ]
  omega
theorem Ln_neg (x : Int) : Ln (-x) = Ln x := by unfold Ln; rw [Int.natAbs_neg]
theorem Ln_small {x : Int} (h : x.natAbs < 18446744073709551616) : Ln x ≤ 2 := Ln_le (by omega)

/-- n over d: the lower part may lack where it is 1 -/
structure RQ (w : World) (p : Nat) (n d : Int) : Prop where
  num : IA w p 0 n
  den : IA w p 2 d ∨ (IA w p 2 0 ∧ d = 1)
  pos : 0 < d
theorem RA.q {w : World} {p : Nat} {n d : Int} (h : RA w p n d) : RQ w p n d := ⟨h.num, .inl h.den, h.pos⟩
theorem RQ.place {w : World} {p : Nat} {n d : Int} (h : RQ w p n d) : ZA w p 2 := by
  rcases h.den with h | ⟨h, _⟩
  · exact h.place
  · exact h.place
theorem RQ.kept {w w' : World} {p : Nat} {n d : Int} (h : RQ w p n d) (k : Kept p w w') : RQ w' p n d :=
  ⟨h.num.kept k, h.den.elim (fun h => .inl (h.kept k)) (fun h => .inr ⟨h.1.kept k, h.2⟩), h.pos⟩
theorem RQ.below {w w' : World} {p : Nat} {n d : Int} (h : RQ w p n d) (hb : Below w.heap.size w w') : RQ w' p n d := h.kept (Kept.of hb h.place.low)

set_option maxHeartbeats 1000000 in
theorem den_q (p : Nat) (n d : Int) (w : World) (h : RQ w p n d) :
    Calls Tryz.prog 101 #[.pointer (some ⟨p, 0, none⟩)] w fun e w' => ∃ b o, e = .returned (.pointer (some ⟨b, o, none⟩)) ∧ IA w' b o d ∧ ((b = p ∧ o = 2) ∨ w.heap.size ≤ b) ∧ Below w.heap.size w w' := by
  rcases h.den with hd | ⟨hd, rfl⟩
  · refine (den_any p n d w ⟨h.num, hd, h.pos⟩).mono ?_
    rintro e w' ⟨rfl, rfl⟩
    exact ⟨p, 2, rfl, hd, .inl ⟨rfl, rfl⟩, Below.refl _ _⟩
  · obtain ⟨v, x1, x2⟩ := hd.abs
    obtain ⟨q, c, rfl, -⟩ := id x2
    have e0 : (Bg.wd (0 : Int).natAbs).length = 0 := by simp [Bg.wd_zero]
    rw [e0] at x1
    have NI := hide (newInt_any 1 w (by omega) (by omega))
    clear x2 h hd
    go_enter Tryz.func101, Tryz.ntmps101
    go_wp2_with fail
    refine (unhide NI).mono ?_
    rintro e w1 ⟨rfl, h1, hb⟩
    have H1 := hide h1
    have HB := hide hb
    clear h1 hb
    go_wp2
    go_ret
    exact ⟨_, 0, rfl, unhide H1, .inr (Nat.le_refl _), unhide HB⟩

/-- the ratio N over D, D not 0 -/
def RV (w : World) (p : Nat) (N D : Int) : Prop := ∃ n d, RQ w p n d ∧ n * D = N * d ∧ d.natAbs ≤ D.natAbs
theorem RV.place {w : World} {p : Nat} {N D : Int} (h : RV w p N D) : ZA w p 2 := by
  obtain ⟨n, d, h, _⟩ := h
  exact h.place
theorem RV.kept {w w' : World} {p : Nat} {N D : Int} (h : RV w p N D) (k : Kept p w w') : RV w' p N D := by
  obtain ⟨n, d, h, h2⟩ := h
  exact ⟨n, d, h.kept k, h2⟩
theorem RV.below {w w' : World} {p : Nat} {N D : Int} (h : RV w p N D) (hb : Below w.heap.size w w') : RV w' p N D := h.kept (Kept.of hb h.place.low)
theorem ratio_le {n d N D : Int} (hD : D ≠ 0) (e : n * D = N * d) (hd : d.natAbs ≤ D.natAbs) : n.natAbs ≤ N.natAbs := by
  have h : n.natAbs * D.natAbs = N.natAbs * d.natAbs := by rw [← Int.natAbs_mul, ← Int.natAbs_mul, e]
  have h2 : n.natAbs * D.natAbs ≤ N.natAbs * D.natAbs := by rw [h]; exact Nat.mul_le_mul_left _ hd
  exact Nat.le_of_mul_le_mul_right h2 (by omega)
/-- from what stands there to what it is -/
theorem RV.via {w : World} {p : Nat} {n d N D : Int} (h : RV w p n d) (hd : d ≠ 0) (e : n * D = N * d) (l : d.natAbs ≤ D.natAbs) : RV w p N D := by
  obtain ⟨n', d', h', e', l'⟩ := h
  exact ⟨n', d', h', ratio_via hd e' e, by omega⟩
/-- a ratio in its place -/
def pR (N D : Int) : Pl := ⟨fun w b o => o = 0 ∧ RV w b N D, fun h => h.2.place.low, fun h k => ⟨h.1, h.2.kept k⟩⟩
theorem ZA.up {w : World} {b o o2 : Nat} (h : ZA w b o) (l : o2 ≤ o) : ZA w b o2 := by
  obtain ⟨c, t, h1, h2, h3⟩ := h
  exact ⟨c, t, h1, h2, by omega⟩
end Go.Proofs.YtdkgapapdjefdaaGreatDoor

/- Walks: SetFrac. -/
namespace Go.Proofs.YtdkgapapdjefdaaGreatDoor
open Go.RowKit

theorem two_laid {w : World} {p : Nat} {A B : Int} {x y : Value} (hz : ZA w p 2) (hx : WS w x (Bg.wd A.natAbs)) (hy : WS w y (Bg.wd B.natAbs)) :
    IA ((((w.setCell ⟨p, 0, none⟩ (.bool (decide (A < 0)))).setCell ⟨p, 1, none⟩ x).setCell ⟨p, 2, none⟩ (.bool (decide (B < 0)))).setCell ⟨p, 3, none⟩ y) p 0 A ∧
    IA ((((w.setCell ⟨p, 0, none⟩ (.bool (decide (A < 0)))).setCell ⟨p, 1, none⟩ x).setCell ⟨p, 2, none⟩ (.bool (decide (B < 0)))).setCell ⟨p, 3, none⟩ y) p 2 B ∧
    Blk p w ((((w.setCell ⟨p, 0, none⟩ (.bool (decide (A < 0)))).setCell ⟨p, 1, none⟩ x).setCell ⟨p, 2, none⟩ (.bool (decide (B < 0)))).setCell ⟨p, 3, none⟩ y) := by
  have O1 : Out p 0 w (w.setCell ⟨p, 0, none⟩ (.bool (decide (A < 0)))) := Out.set (.inl rfl)
  have O2 : Out p 0 (w.setCell ⟨p, 0, none⟩ (.bool (decide (A < 0)))) ((w.setCell ⟨p, 0, none⟩ (.bool (decide (A < 0)))).setCell ⟨p, 1, none⟩ x) := Out.set (.inr rfl)
  have O3 : Out p 2 ((w.setCell ⟨p, 0, none⟩ (.bool (decide (A < 0)))).setCell ⟨p, 1, none⟩ x) (((w.setCell ⟨p, 0, none⟩ (.bool (decide (A < 0)))).setCell ⟨p, 1, none⟩ x).setCell ⟨p, 2, none⟩ (.bool (decide (B < 0)))) := Out.set (.inl rfl)
  have O4 : Out p 2 (((w.setCell ⟨p, 0, none⟩ (.bool (decide (A < 0)))).setCell ⟨p, 1, none⟩ x).setCell ⟨p, 2, none⟩ (.bool (decide (B < 0)))) ((((w.setCell ⟨p, 0, none⟩ (.bool (decide (A < 0)))).setCell ⟨p, 1, none⟩ x).setCell ⟨p, 2, none⟩ (.bool (decide (B < 0)))).setCell ⟨p, 3, none⟩ y) := Out.set (.inr rfl)
  obtain ⟨⟨v2, c2⟩, v3, c3⟩ := hz.cell
  obtain ⟨⟨v0, c0⟩, v1, c1⟩ := (hz.up (show 0 ≤ 2 by omega)).cell
  have K := ((O1.blk.trans O2.blk).trans O3.blk).trans O4.blk
  have kw := K.kw hz
  refine ⟨⟨(hz.up (show 0 ≤ 2 by omega)).blk K, ?_, x, ?_, hx.keep kw⟩, ⟨hz.blk K, ?_, y, ?_, hy.keep kw⟩, K⟩
  · simp [go_sem, c0]
  · simp [go_sem, c1]
  · simp [go_sem, c2]
  · simp [go_sem, c3]

set_option maxRecDepth 100000 in
set_option maxHeartbeats 4000000 in
theorem setFrac_any (p ba oa bb ob : Nat) (A B : Int) (w : World) (hz : ZA w p 2) (ha : IA w ba oa A) (hb : IA w bb ob B) (b0 : B ≠ 0) (la : Ln A ≤ 90000) (lb : Ln B ≤ 90000) :
    Calls Tryz.prog 98 #[.pointer (some ⟨p, 0, none⟩), .pointer (some ⟨ba, oa, none⟩), .pointer (some ⟨bb, ob, none⟩)] w fun e w' => e = .returned (.pointer (some ⟨p, 0, none⟩)) ∧ RV w' p A B ∧ Blk p w w' := by
  obtain ⟨v, x1, x2⟩ := hb.abs
  obtain ⟨q, c, rfl, -⟩ := id x2
  have hl := wd_pos_len (n := B.natAbs) (by omega)
  have g1 : (((Bg.wd B.natAbs).length : Int) == 0) = false := by rw [beq_eq_false_iff_ne]; omega
  have N := below_new w (.cells #[.bool false, .slice none 0 0] 134)
  have lz := hz.low
  have lba := ha.place.low
  have lbb := hb.place.low
  have S1 := hide (iset_any w.heap.size 0 ba oa A _ (ZA.new w) (ha.below N) (by unfold Ln at la; omega))
  have HN := hide N
  have HZ := hide hz
  have HB := hide hb
  clear x2 N hz ha hb
  go_enter Tryz.func98, Tryz.ntmps98
  go_wp2_with fail
  refine (unhide S1).mono ?_
  rintro e w1 ⟨rfl, hi1, ho1⟩
  have B1 : Below w.heap.size w w1 := (unhide HN).trans (ho1.below (Nat.le_refl _) (by simp))
  have N1 := below_new w1 (.cells #[.bool false, .slice none 0 0] 134)
  have s1 := B1.size
  have S2 := hide (iset_any w1.heap.size 0 bb ob B _ (ZA.new w1) (((unhide HB).below B1).below N1) (by unfold Ln at lb; omega))
  have HI1 := hide (hi1.below N1)
  have li1 := hi1.place.low
  have HB1 := hide (B1.trans (N1.mono s1))
  clear hi1 ho1 B1 N1 S1 HN
  go_wp2_with fail
  refine (unhide S2).mono ?_
  rintro e w2 ⟨rfl, hi2, ho2⟩
  have B2 : Below w.heap.size w w2 := (unhide HB1).trans (ho2.below (by omega) (by simp; omega))
  have j1 := (unhide HI1).out ho2 (ZA.new w1) (.inl (by omega))
  obtain ⟨va, ca1, va2⟩ := j1.abs
  obtain ⟨vb, cb1, vb2⟩ := hi2.abs
  obtain ⟨pa, ka, rfl, -⟩ := id va2
  obtain ⟨pb, kb, rfl, -⟩ := id vb2
  have ca0 := j1.neg
  have cb0 := hi2.neg
  have z2 := (unhide HZ).below B2
  have f0 := z2.frozen 0
  have f1 := z2.frozen 1
  have f2 := z2.frozen 2
  have f3 := z2.frozen 3
  obtain ⟨⟨v2, c2⟩, v3, c3⟩ := z2.cell
  obtain ⟨⟨v0, c0⟩, v1, c1⟩ := (z2.up (show 0 ≤ 2 by omega)).cell
  have ne1 : w1.heap.size ≠ p := by omega
  have ne2 : p ≠ w1.heap.size := by omega
  have HT := hide (two_laid z2 va2 vb2)
  have HB2 := hide B2
  have la' : (Bg.wd A.natAbs).length ≤ 90000 := la
  have lb' : (Bg.wd B.natAbs).length ≤ 90000 := lb
  clear S2 HI1 ho2 va2 vb2 j1 hi2 B2 z2
  go_wp2_with fail
  obtain ⟨tA, tB, tK⟩ := unhide HT
  refine (norm_any p A B _ tA tB b0 la' lb').mono ?_
  rintro e w3 ⟨rfl, ⟨n', d', hr, e1, -, l2⟩, hk⟩
  have HR := hide hr
  have HK := hide (((Blk.of (unhide HB2)).trans tK).trans hk)
  clear hr hk tA tB tK
  go_wp2
  go_ret
  exact ⟨rfl, ⟨n', d', (unhide HR).q, e1, l2⟩, unhide HK⟩
end Go.Proofs.YtdkgapapdjefdaaGreatDoor

/- Walks: ratios: Set, Mul, Quo, Add, Sub (written by gen_bz5.py). -/
namespace Go.Proofs.YtdkgapapdjefdaaGreatDoor
open Go.RowKit

theorem callIMul (zs : Array Value) (w : World) : Sem.run Tryz.prog (callFunc 103 zs) w = .ok (.enter 103 zs) w := by simp [go_sem]

theorem callDen (zs : Array Value) (w : World) : Sem.run Tryz.prog (callFunc 101 zs) w = .ok (.enter 101 zs) w := by simp [go_sem]

theorem callFrac (zs : Array Value) (w : World) : Sem.run Tryz.prog (callFunc 98 zs) w = .ok (.enter 98 zs) w := by simp [go_sem]

theorem mul_put {b bx ox b2 oy : Nat} {x y : Int} {w : World} (hz : ZA w b 0) (hx : IA w bx ox x) (hy : IA w b2 oy y) (lx : Ln x ≤ 90000) (ly : Ln y ≤ 90000) :
    Calls Tryz.prog 103 #[.pointer (some ⟨b, 0, none⟩), .pointer (some ⟨bx, ox, none⟩), .pointer (some ⟨b2, oy, none⟩)] w fun e w' => e = .returned (.pointer (some ⟨b, 0, none⟩)) ∧ (pI (x * y)).is w' b 0 ∧ Blk b w w' :=
  (imul_any b 0 bx ox b2 oy x y w hz hx hy (by unfold Ln at lx; omega) (by unfold Ln at ly; omega)).mono fun _ _ q => ⟨q.1, q.2.1, q.2.2.blk⟩

/-- den, wherever the region has come -/
theorem den_make {p : Nat} {n d : Int} {w : World} (h : RQ w p n d) : ∀ wx, Below w.heap.size w wx → Calls Tryz.prog 101 #[.pointer (some ⟨p, 0, none⟩)] wx fun e w' => ∃ b o, e = .returned (.pointer (some ⟨b, o, none⟩)) ∧ (pI d).is w' b o ∧ (b < w.heap.size ∨ wx.heap.size ≤ b) ∧ Below wx.heap.size wx w' := fun wx hb => by
  refine (den_q p n d wx (h.below hb)).mono ?_
  rintro e w' ⟨b, o, rfl, hi, hc, hB⟩
  refine ⟨b, o, rfl, hi, ?_, hB⟩
  rcases hc with ⟨rfl, _⟩ | hc
  · exact .inl h.place.low
  · exact .inr hc
/-- a ratio is laid, wherever the region has come -/
theorem frac_last {p : Nat} {A B N D : Int} {w : World} (hz : ZA w p 2) (b0 : B ≠ 0) (la : Ln A ≤ 90000) (lb : Ln B ≤ 90000) (e : A * D = N * B) (l : B.natAbs ≤ D.natAbs) : ∀ wx b1 o1 b2 o2, Below w.heap.size w wx → IA wx b1 o1 A → IA wx b2 o2 B → Calls Tryz.prog 98 #[.pointer (some ⟨p, 0, none⟩), .pointer (some ⟨b1, o1, none⟩), .pointer (some ⟨b2, o2, none⟩)] wx fun e w' => e = .returned (.pointer (some ⟨p, 0, none⟩)) ∧ RV w' p N D ∧ Blk p w w' := fun wx b1 o1 b2 o2 hb h1 h2 => by
  refine (setFrac_any p b1 o1 b2 o2 A B wx (hz.below hb) h1 h2 b0 la lb).mono ?_
  rintro e' w' ⟨rfl, hr, hk⟩
  exact ⟨rfl, hr.via b0 e l, (Blk.of hb).trans hk⟩
theorem abs_mul_le {a b c d : Int} (h1 : a.natAbs ≤ c.natAbs) (h2 : b.natAbs ≤ d.natAbs) : (a * b).natAbs ≤ (c * d).natAbs := by
  rw [Int.natAbs_mul, Int.natAbs_mul]
  exact Nat.mul_le_mul h1 h2

theorem fr12 {a : Act} (hs : a.tmps.size = 12) (hd : a.defers = []) : a = { tmps := #[G a 0, G a 1, G a 2, G a 3, G a 4, G a 5, G a 6, G a 7, G a 8, G a 9, G a 10, G a 11], defers := [] } := frame_is hs hd

theorem fr23 {a : Act} (hs : a.tmps.size = 23) (hd : a.defers = []) : a = { tmps := #[G a 0, G a 1, G a 2, G a 3, G a 4, G a 5, G a 6, G a 7, G a 8, G a 9, G a 10, G a 11, G a 12, G a 13, G a 14, G a 15, G a 16, G a 17, G a 18, G a 19, G a 20, G a 21, G a 22], defers := [] } := frame_is hs hd

set_option maxRecDepth 100000 in
set_option maxHeartbeats 4000000 in
theorem rmul_any (p px py : Nat) (N1 D1 N2 D2 : Int) (w : World) (hz : ZA w p 2) (hx : RV w px N1 D1) (hy : RV w py N2 D2) (d1 : D1 ≠ 0) (d2 : D2 ≠ 0) (lx : Ln N1 ≤ 20000) (kx : Ln D1 ≤ 20000) (ly : Ln N2 ≤ 20000) (ky : Ln D2 ≤ 20000) :
    Calls Tryz.prog 100 #[.pointer (some ⟨p, 0, none⟩), .pointer (some ⟨px, 0, none⟩), .pointer (some ⟨py, 0, none⟩)] w fun e w' => e = .returned (.pointer (some ⟨p, 0, none⟩)) ∧ RV w' p (N1 * N2) (D1 * D2) ∧ Blk p w w' := by
  obtain ⟨n1, m1, qx, e1, g1⟩ := hx
  obtain ⟨n2, m2, qy, e2, g2⟩ := hy
  have r1 := Ln_mono (ratio_le d1 e1 g1)
  have r2 := Ln_mono (ratio_le d2 e2 g2)
  have r3 := Ln_mono g1
  have r4 := Ln_mono g2
  have p1 := qx.pos
  have p2 := qy.pos
  have DX := hide (den_make qx)
  have DY := hide (den_make qy)
  have t1 := Ln_mul n1 n2
  have t2 := Ln_mul m1 m2
  have SF := hide (frac_last (A := n1 * n2) (B := m1 * m2) (N := N1 * N2) (D := D1 * D2) hz (Int.mul_ne_zero (by omega) (by omega)) (by omega) (by omega) (by rw [show n1 * n2 * (D1 * D2) = (n1 * D1) * (n2 * D2) by grind, e1, e2]; grind) (abs_mul_le g1 g2))
  have HX := hide qx
  have HY := hide qy
  clear qx qy hz e1 e2 t1 t2
  go_enter Tryz.func100, Tryz.ntmps100
  go_upto_region 1 with fail
  refine frame_intro (fun a => G a 0 = .pointer (some ⟨p, 0, none⟩) ∧ G a 1 = .pointer (some ⟨px, 0, none⟩) ∧ G a 2 = .pointer (some ⟨py, 0, none⟩) ∧ a.tmps.size = 23 ∧ a.defers = []) ⟨rfl, rfl, rfl, rfl, rfl⟩ ?_
  rintro f0 ⟨s0, s1, s2, hsz, hdf⟩
  refine region_any (I := RP w f0 23 [7, 8, 9, 10, 11, 12, 13, 14, 15, 16, 17, 18, 19, 20, 21, 22, 6] 15 (fun w' => RV w' p (N1 * N2) (D1 * D2) ∧ Blk p w w') [.lit (.pointer (some ⟨p, 0, none⟩)), .new 1 0, .lit (.pointer (some ⟨px, 0, none⟩)), .lit (.pointer (some ⟨px, 0, none⟩)), .lit (.pointer (some ⟨px, 0, none⟩)), .lit (.pointer (some ⟨py, 0, none⟩)), .lit (.pointer (some ⟨py, 0, none⟩)), .lit (.pointer (some ⟨py, 0, none⟩)), .ptr 1 (pI (n1 * n2)), .new 9 0, .lit (.pointer (some ⟨px, 0, none⟩)), .ptr 11 (pI m1), .lit (.pointer (some ⟨py, 0, none⟩)), .ptr 13 (pI m2), .ptr 9 (pI (m1 * m2)), .lit (.pointer (some ⟨p, 0, none⟩)), .lit (.pointer (some ⟨p, 0, none⟩))]) (by kernel_rfl) ?wait ?step ?done ?start
  case wait => exact ⟨by simp, by simp, by simp, by simp, by simp, by simp, by simp, by simp, by simp, by simp, by simp, by simp, by simp, by simp, by simp, by simp, by simp, trivial⟩
  case start => exact RP.start hsz hdf ((Below.refl _ _).drew)
  case step =>
    refine ⟨?_, ?_, ?_, ?_, ?_, ?_, ?_, ?_, ?_, ?_, ?_, ?_, ?_, ?_, ?_, ?_, ?_, trivial⟩
    · rintro L fa wx h hcl hL hw2
      exact rp_val h (by decide) rfl rfl rfl (by decide) (by decide) rfl (run_mv (eval_G ((h.keep (s := 0) (by decide)).trans s0))) rfl
    · rintro L fa wx h hcl hL hw2
      exact rp_new h (by decide) rfl rfl rfl (by decide) (by decide) (Bool.eq_false_iff.2 fun hq => by have hz := (hcl 8 _ rfl (hcl 15 _ rfl hq ⟨8, .data⟩ (by simp) rfl) ⟨1, .data⟩ (by simp) rfl); rw [hL] at hz; cases hz) rfl run_newI ZA.new rfl
    · rintro L fa wx h hcl hL hw2
      exact rp_val h (by decide) rfl rfl rfl (by decide) (by decide) rfl (run_mv (eval_G ((h.keep (s := 1) (by decide)).trans s1))) rfl
    · rintro L fa wx h hcl hL hw2
      exact rp_val h (by decide) rfl rfl rfl (by decide) (by decide) rfl (run_nil (eval_G (show G fa 9 = .pointer (some ⟨px, 0, none⟩) from h.lit (hw2 ⟨2, .data⟩ (by simp) rfl) rfl rfl))) rfl
    · rintro L fa wx h hcl hL hw2
      exact rp_val h (by decide) rfl rfl rfl (by decide) (by decide) rfl (run_fldA (eval_G (show G fa 10 = .pointer (some ⟨px, 0, none⟩) from h.lit (hw2 ⟨3, .data⟩ (by simp) rfl) rfl rfl))) rfl
    · rintro L fa wx h hcl hL hw2
      exact rp_val h (by decide) rfl rfl rfl (by decide) (by decide) rfl (run_mv (eval_G ((h.keep (s := 2) (by decide)).trans s2))) rfl
    · rintro L fa wx h hcl hL hw2
      exact rp_val h (by decide) rfl rfl rfl (by decide) (by decide) rfl (run_nil (eval_G (show G fa 12 = .pointer (some ⟨py, 0, none⟩) from h.lit (hw2 ⟨5, .data⟩ (by simp) rfl) rfl rfl))) rfl
    · rintro L fa wx h hcl hL hw2
      exact rp_val h (by decide) rfl rfl rfl (by decide) (by decide) rfl (run_fldA (eval_G (show G fa 13 = .pointer (some ⟨py, 0, none⟩) from h.lit (hw2 ⟨6, .data⟩ (by simp) rfl) rfl rfl))) rfl
    · rintro L fa wx h hcl hL hw2
      obtain ⟨b0, e0, z0, l0⟩ := h.new (Bool.eq_false_iff.2 fun hq => by have hz := (hcl 15 _ rfl hq ⟨8, .data⟩ (by simp) rfl); rw [hL] at hz; cases hz) (hw2 ⟨1, .data⟩ (by simp) rfl) rfl rfl
      exact rp_put h (by decide) rfl rfl rfl (by decide) (by decide) (Bool.eq_false_iff.2 fun hq => by have hz := (hcl 15 _ rfl hq ⟨8, .data⟩ (by simp) rfl); rw [hL] at hz; cases hz) rfl (run_call3 (eval_G e0) (eval_G (show G fa 11 = .pointer (some ⟨px, 0, none⟩) from h.lit (hw2 ⟨4, .data⟩ (by simp) rfl) rfl rfl)) (eval_G (show G fa 14 = .pointer (some ⟨py, 0, none⟩) from h.lit (hw2 ⟨7, .data⟩ (by simp) rfl) rfl rfl)) callIMul) (hw2 ⟨1, .data⟩ (by simp) rfl) rfl rfl e0 (mul_put z0 ((unhide HX).num.below (h.old (Bool.eq_false_iff.2 fun hq => by have hz := (hcl 15 _ rfl hq ⟨8, .data⟩ (by simp) rfl); rw [hL] at hz; cases hz))) ((unhide HY).num.below (h.old (Bool.eq_false_iff.2 fun hq => by have hz := (hcl 15 _ rfl hq ⟨8, .data⟩ (by simp) rfl); rw [hL] at hz; cases hz))) (by omega) (by omega)) rfl (al_of (bad := [8]) rfl (by
        intro k hk
        simp only [List.mem_cons, List.not_mem_nil, or_false] at hk
        rcases hk with rfl
        · exact hL))
    · rintro L fa wx h hcl hL hw2
      exact rp_new h (by decide) rfl rfl rfl (by decide) (by decide) (Bool.eq_false_iff.2 fun hq => by have hz := (hcl 14 _ rfl (hcl 15 _ rfl hq ⟨14, .data⟩ (by simp) rfl) ⟨9, .data⟩ (by simp) rfl); rw [hL] at hz; cases hz) rfl run_newI ZA.new rfl
    · rintro L fa wx h hcl hL hw2
      exact rp_val h (by decide) rfl rfl rfl (by decide) (by decide) rfl (run_mv (eval_G ((h.keep (s := 1) (by decide)).trans s1))) rfl
    · rintro L fa wx h hcl hL hw2
      exact rp_make h (by decide) rfl rfl rfl (by decide) (by decide) (Bool.eq_false_iff.2 fun hq => by have hz := (hcl 14 _ rfl (hcl 15 _ rfl hq ⟨14, .data⟩ (by simp) rfl) ⟨11, .data⟩ (by simp) rfl); rw [hL] at hz; cases hz) rfl (run_call1 (eval_G (show G fa 17 = .pointer (some ⟨px, 0, none⟩) from h.lit (hw2 ⟨10, .data⟩ (by simp) rfl) rfl rfl)) callDen) (unhide DX wx (h.old (Bool.eq_false_iff.2 fun hq => by have hz := (hcl 14 _ rfl (hcl 15 _ rfl hq ⟨14, .data⟩ (by simp) rfl) ⟨11, .data⟩ (by simp) rfl); rw [hL] at hz; cases hz))) rfl
    · rintro L fa wx h hcl hL hw2
      exact rp_val h (by decide) rfl rfl rfl (by decide) (by decide) rfl (run_mv (eval_G ((h.keep (s := 2) (by decide)).trans s2))) rfl
    · rintro L fa wx h hcl hL hw2
      exact rp_make h (by decide) rfl rfl rfl (by decide) (by decide) (Bool.eq_false_iff.2 fun hq => by have hz := (hcl 14 _ rfl (hcl 15 _ rfl hq ⟨14, .data⟩ (by simp) rfl) ⟨13, .data⟩ (by simp) rfl); rw [hL] at hz; cases hz) rfl (run_call1 (eval_G (show G fa 19 = .pointer (some ⟨py, 0, none⟩) from h.lit (hw2 ⟨12, .data⟩ (by simp) rfl) rfl rfl)) callDen) (unhide DY wx (h.old (Bool.eq_false_iff.2 fun hq => by have hz := (hcl 14 _ rfl (hcl 15 _ rfl hq ⟨14, .data⟩ (by simp) rfl) ⟨13, .data⟩ (by simp) rfl); rw [hL] at hz; cases hz))) rfl
    · rintro L fa wx h hcl hL hw2
      obtain ⟨b0, e0, z0, l0⟩ := h.new (Bool.eq_false_iff.2 fun hq => by have hz := (hcl 15 _ rfl hq ⟨14, .data⟩ (by simp) rfl); rw [hL] at hz; cases hz) (hw2 ⟨9, .data⟩ (by simp) rfl) rfl rfl
      obtain ⟨b1, o1, e1, mm1⟩ := h.ptr (Bool.eq_false_iff.2 fun hq => by have hz := (hcl 15 _ rfl hq ⟨14, .data⟩ (by simp) rfl); rw [hL] at hz; cases hz) (hw2 ⟨11, .data⟩ (by simp) rfl) rfl rfl
      obtain ⟨b2, o2, e2, mm2⟩ := h.ptr (Bool.eq_false_iff.2 fun hq => by have hz := (hcl 15 _ rfl hq ⟨14, .data⟩ (by simp) rfl); rw [hL] at hz; cases hz) (hw2 ⟨13, .data⟩ (by simp) rfl) rfl rfl
      exact rp_put h (by decide) rfl rfl rfl (by decide) (by decide) (Bool.eq_false_iff.2 fun hq => by have hz := (hcl 15 _ rfl hq ⟨14, .data⟩ (by simp) rfl); rw [hL] at hz; cases hz) rfl (run_call3 (eval_G e0) (eval_G e1) (eval_G e2) callIMul) (hw2 ⟨9, .data⟩ (by simp) rfl) rfl rfl e0 (mul_put z0 mm1 mm2 (by omega) (by omega)) rfl (al_of (bad := [14]) rfl (by
        intro k hk
        simp only [List.mem_cons, List.not_mem_nil, or_false] at hk
        rcases hk with rfl
        · exact hL))
    · rintro L fa wx h hcl hL hw2
      obtain ⟨b1, o1, e1, mm1⟩ := h.ptr hL (hw2 ⟨8, .data⟩ (by simp) rfl) rfl rfl
      obtain ⟨b2, o2, e2, mm2⟩ := h.ptr hL (hw2 ⟨14, .data⟩ (by simp) rfl) rfl rfl
      exact rp_last h (by decide) rfl rfl rfl (by decide) hL rfl (run_call3 (eval_G (show G fa 7 = .pointer (some ⟨p, 0, none⟩) from h.lit (hw2 ⟨0, .data⟩ (by simp) rfl) rfl rfl)) (eval_G e1) (eval_G e2) callFrac) (unhide SF wx _ _ _ _ (h.old hL) mm1 mm2) rfl
    · rintro L fa wx h hcl hL hw2
      exact rp_val h (by decide) rfl rfl rfl (by decide) (by decide) rfl (run_asg (eval_G (show G fa 22 = .pointer (some ⟨p, 0, none⟩) from h.lit (hw2 ⟨15, .data⟩ (by simp) rfl) rfl rfl))) rfl
  case done =>
    rintro L f1 w3 h hall
    have q6 : G f1 6 = .pointer (some ⟨p, 0, none⟩) := h.lit (i := 16) (hall 16 (by simp)) rfl rfl
    have HF := hide (h.fin (hall 15 (by simp)))
    rw [fr23 h.size h.defs, q6]
    clear h hall q6
    go_wp2
    go_ret
    exact ⟨rfl, unhide HF⟩

end Go.Proofs.YtdkgapapdjefdaaGreatDoor

/- Walks: ratios: Add, Sub (written by gen_bz5.py). -/
namespace Go.Proofs.YtdkgapapdjefdaaGreatDoor
open Go.RowKit

theorem fr33 {a : Act} (hs : a.tmps.size = 33) (hd : a.defers = []) : a = { tmps := #[G a 0, G a 1, G a 2, G a 3, G a 4, G a 5, G a 6, G a 7, G a 8, G a 9, G a 10, G a 11, G a 12, G a 13, G a 14, G a 15, G a 16, G a 17, G a 18, G a 19, G a 20, G a 21, G a 22, G a 23, G a 24, G a 25, G a 26, G a 27, G a 28, G a 29, G a 30, G a 31, G a 32], defers := [] } := frame_is hs hd

end Go.Proofs.YtdkgapapdjefdaaGreatDoor

/- Walks: Abs of whole numbers; ratios: SetInt, SetInt64, NewRat, Num, Denom. -/
namespace Go.Proofs.YtdkgapapdjefdaaGreatDoor
open Go.RowKit

theorem ZA.newR (w : World) : ZA (w.alloc (.cells #[.bool false, .slice none 0 0, .bool false, .slice none 0 0] 136)) w.heap.size 2 :=
  ⟨#[.bool false, .slice none 0 0, .bool false, .slice none 0 0], 136, by show (w.heap.push _)[w.heap.size]? = _; simp, by decide, by simp⟩

set_option maxHeartbeats 2000000 in
theorem rsetInt_any (p bx ox : Nat) (x : Int) (w : World) (hz : ZA w p 2) (hx : IA w bx ox x) (lx : Ln x ≤ 20000) :
    Calls Tryz.prog 96 #[.pointer (some ⟨p, 0, none⟩), .pointer (some ⟨bx, ox, none⟩)] w fun e w' => e = .returned (.pointer (some ⟨p, 0, none⟩)) ∧ RV w' p x 1 ∧ Blk p w w' := by
  have NI := hide (newInt_any 1 w (by omega) (by omega))
  have HX := hide hx
  have SF := hide (frac_last (A := x) (B := 1) (N := x) (D := 1) hz (by omega) (by omega) (Nat.le_trans (Ln_small (by decide)) (by omega)) rfl (Nat.le_refl _))
  clear hx hz
  go_enter Tryz.func96, Tryz.ntmps96
  go_wp2_with fail
  refine (unhide NI).mono ?_
  rintro e w1 ⟨rfl, h1, hb⟩
  have CF := hide (unhide SF w1 _ _ _ _ hb ((unhide HX).below hb) h1)
  clear h1 hb
  go_wp2_with fail
  refine (unhide CF).mono ?_
  rintro e w2 ⟨rfl, hr, hk⟩
  have HR := hide hr
  have HK := hide hk
  clear hr hk
  go_wp2
  go_ret
  exact ⟨rfl, unhide HR, unhide HK⟩

set_option maxHeartbeats 2000000 in
theorem rsetInt64_any (p : Nat) (x : Int) (w : World) (hz : ZA w p 2) (h1 : -9223372036854775808 ≤ x) (h2 : x ≤ 9223372036854775807) :
    Calls Tryz.prog 95 #[.pointer (some ⟨p, 0, none⟩), .int .i64 x] w fun e w' => e = .returned (.pointer (some ⟨p, 0, none⟩)) ∧ RV w' p x 1 ∧ Blk p w w' := by
  have NI := hide (newInt_any x w h1 h2)
  have lx : Ln x ≤ 2 := Ln_small (by omega)
  have SF := hide (frac_last (A := x) (B := 1) (N := x) (D := 1) hz (by omega) (by omega) (Nat.le_trans (Ln_small (by decide)) (by omega)) rfl (Nat.le_refl _))
  clear hz
  go_enter Tryz.func95, Tryz.ntmps95
  go_wp2_with fail
  refine (unhide NI).mono ?_
  rintro e w1 ⟨rfl, i1, hb⟩
  have N2 := hide (newInt_any 1 w1 (by omega) (by omega))
  have HI := hide i1
  have HB := hide hb
  clear i1 hb
  go_wp2_with fail
  refine (unhide N2).mono ?_
  rintro e w2 ⟨rfl, i2, hb2⟩
  have CF := hide (unhide SF w2 _ _ _ _ (below_step (unhide HB) hb2) ((unhide HI).below hb2) i2)
  clear i2 hb2
  go_wp2_with fail
  refine (unhide CF).mono ?_
  rintro e w3 ⟨rfl, hr, hk⟩
  have HR := hide hr
  have HK := hide hk
  clear hr hk
  go_wp2
  go_ret
  exact ⟨rfl, unhide HR, unhide HK⟩

theorem newInt_at (x : Int) (w : World) (n : Nat) (hn : w.heap.size = n) (h1 : -9223372036854775808 ≤ x) (h2 : x ≤ 9223372036854775807) :
    Calls Tryz.prog 99 #[.int .i64 x] w fun e w' => e = .returned (.pointer (some ⟨n, 0, none⟩)) ∧ IA w' n 0 x ∧ Below w.heap.size w w' := by
  subst hn
  exact newInt_any x w h1 h2

/-- two that stand in the same ratio compare alike -/
theorem icmp_cross {x y X Y K M : Int} (hK : 0 < K) (hM : 0 < M) (ex : x * K = X * M) (ey : y * K = Y * M) : icmp x y = icmp X Y := by
  unfold icmp
  rcases Int.lt_trichotomy x y with h | h | h
  · have h1 : X * M < Y * M := by rw [← ex, ← ey]; exact Int.mul_lt_mul_of_pos_right h hK
    have h2 : X < Y := Int.lt_of_mul_lt_mul_right h1 (by omega)
    rw [if_pos h, if_pos h2]
  · have h1 : X * M = Y * M := by rw [← ex, ← ey, h]
    have h2 : X = Y := Int.eq_of_mul_eq_mul_right (by omega) h1
    rw [if_neg (by omega), if_pos h, if_neg (by omega), if_pos h2]
  · have h1 : Y * M < X * M := by rw [← ex, ← ey]; exact Int.mul_lt_mul_of_pos_right h hK
    have h2 : Y < X := Int.lt_of_mul_lt_mul_right h1 (by omega)
    rw [if_neg (by omega), if_neg (by omega), if_neg (by omega), if_neg (by omega)]
theorem icmp_zero {x y : Int} : icmp x y = 0 ↔ x = y := by
  unfold icmp
  split
  · constructor
    · intro h; omega
    · intro h; omega
  · split
    · rename_i h; simp [h]
    · rename_i h; constructor
      · intro g; omega
      · intro g; exact absurd g h
end Go.Proofs.YtdkgapapdjefdaaGreatDoor
