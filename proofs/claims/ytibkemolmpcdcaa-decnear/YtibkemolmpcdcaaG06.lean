/- Walks: common. -/
import Derived.Test.YtibkemolmpcdcaaG05
import Derived.Deep.LoopGhost
import Derived.Test.YtibkemolmpcdcaaG04
import Derived.Deep.Cut
namespace Go.Proofs.Ytibkemolmpcdcaa
open Go.RowKit

set_option maxRecDepth 100000 in
set_option maxHeartbeats 4000000 in
theorem common_any (u v : Value) (a b : Nat) (w : World) (hu : WS w u (Bg.wd a)) (hv : WS w v (Bg.wd b)) (ha : (Bg.wd a).length ≤ 100000) (hb : (Bg.wd b).length ≤ 100000) :
    Calls Try.prog 95 #[u, v] w fun e w' => ∃ u, e = .returned u ∧ WS w' u (Bg.wd (Nat.gcd a b)) ∧ Below w.heap.size w w' := by
  have HU := hide hu
  have HV := hide hv
  obtain ⟨p, cap, rfl, -⟩ := hu
  obtain ⟨q, cap2, rfl, -⟩ := hv
  go_enter Try.func95, Try.ntmps95
  go_wp2_with fail
  go_loopg [0, 1] b (fun gk av bv wr => ∃ (A : Nat) (p q : Option Addr) (cap cap2 : Nat), av = .slice p (Bg.wd A).length cap ∧ bv = .slice q (Bg.wd gk).length cap2 ∧ Hid (WS wr (.slice p (Bg.wd A).length cap) (Bg.wd A)) ∧ Hid (WS wr (.slice q (Bg.wd gk).length cap2) (Bg.wd gk)) ∧ (Bg.wd A).length ≤ 100000 ∧ (Bg.wd gk).length ≤ 100000 ∧ Hid (Nat.gcd A gk = Nat.gcd a b) ∧ Hid (Below w.heap.size w wr))
  case atStart => exact ⟨a, _, _, _, _, rfl, rfl, HU, HV, ha, hb, hide rfl, hide (Below.refl _ _)⟩
  case round =>
    clear HU HV ha hb
    obtain ⟨A, p, q, cap, cap2, rfl, rfl, HA, HB, la, lb, HG, HW⟩ := hrel
    obtain ⟨na, hna⟩ : ∃ na, na = (Bg.wd A).length := ⟨_, rfl⟩
    obtain ⟨nb, hnb⟩ : ∃ nb, nb = (Bg.wd gk).length := ⟨_, rfl⟩
    have HNA := hide hna
    have HNB := hide hnb
    by_cases h2 : 2 < nb
    · have h2' : (2 : Int) < (nb : Int) := by omega
      have g0 : gk ≠ 0 := fun e => by rw [e, Bg.wd_zero] at hnb; simp at hnb; omega
      have DV := hide (div_any _ _ A gk wr (unhide HA) (unhide HB) la lb g0)
      rw [← hna, ← hnb] at DV ⊢
      clear hna hnb
      go_wp2_with fail
      refine (unhide DV).mono ?_
      rintro e w2 ⟨v1, v2, rfl, hv1, hv2, hb2⟩
      obtain ⟨p2, cap3, rfl, -⟩ := id hv2
      have HV2 := hide hv2
      have HB2 := hide hb2
      clear hv1 hv2 hb2 DV
      go_wp2
      go_roundg (A % gk)
      case measure => exact Nat.mod_lt _ (by omega)
      case rel => exact ⟨gk, q, p2, cap2, cap3, by rw [unhide HNB], rfl, hide ((unhide HB).below (unhide HB2)), HV2, lb, Nat.le_trans (Bg.wd_mono (Nat.mod_le _ _)) la, hide (by rw [← unhide HG, Nat.gcd_comm A gk, Nat.gcd_rec gk A, Nat.gcd_comm]), hide (below_via (unhide HW) (unhide HB2))⟩
    · have h2' : ¬ (2 : Int) < (nb : Int) := by omega
      by_cases h0 : gk = 0
      · subst h0
        have hnb0 : nb = 0 := by rw [hnb, Bg.wd_zero]; rfl
        subst hnb0
        have HXE : Hid (A = Nat.gcd a b) := hide (by have := unhide HG; rwa [Nat.gcd_zero_right] at this)
        rw [← hna, Bg.wd_zero, List.length_nil]
        clear hna hnb
        go_wp2
        go_ret
        rw [← unhide HXE]
        exact ⟨_, rfl, by rw [unhide HNA]; exact unhide HA, unhide HW⟩
      · have hnb1 := wd_pos_len h0
        rw [← hnb] at hnb1
        have g1 : ((nb : Int) == 0) = false := by rw [beq_eq_false_iff_ne]; omega
        have b64 : gk < 18446744073709551616 := wd_len2 (by omega)
        by_cases h3 : 2 < na
        · have h3' : (2 : Int) < (na : Int) := by omega
          have DV := hide (div_any _ _ A gk wr (unhide HA) (unhide HB) la lb h0)
          rw [← hna, ← hnb] at DV ⊢
          rw [← hnb] at HB
          clear hna hnb
          go_wp2_with fail
          refine (unhide DV).mono ?_
          rintro e w2 ⟨v1, v2, rfl, hv1, hv2, hb2⟩
          obtain ⟨p2, cap3, rfl, -⟩ := id hv2
          obtain ⟨R1, hR1⟩ : ∃ R1, R1 = A % gk := ⟨_, rfl⟩
          have HG1 : Hid (Nat.gcd gk R1 = Nat.gcd a b) := hide (by rw [← unhide HG, hR1, Nat.gcd_comm A gk, Nat.gcd_rec gk A, Nat.gcd_comm])
          have HA1 := hide ((unhide HB).below hb2)
          have HB1 := hide hv2
          have HW1 := hide (below_via (unhide HW) hb2)
          have r64 : R1 < 18446744073709551616 := by rw [hR1]; exact Nat.lt_trans (Nat.mod_lt _ (by omega)) b64
          rw [← hR1] at HB1 ⊢
          clear hv1 hv2 hb2 DV hR1
          go_wp2_with fail
          refine (unhide (hide (plain_any _ gk b64 _ (unhide HA1)))).mono ?_
          rintro e x1 ⟨rfl, hx1⟩
          subst x1
          go_wp2_with fail
          refine (unhide (hide (plain_any _ R1 r64 _ (unhide HB1)))).mono ?_
          rintro e x1 ⟨rfl, hx1⟩
          subst x1
          go_wp2_with fail
          go_loopg [9, 10] R1 (fun gk xv yv wx => ∃ x : Nat, xv = .int .u64 (x : Int) ∧ yv = .int .u64 (gk : Int) ∧ x < 18446744073709551616 ∧ gk < 18446744073709551616 ∧ Hid (Nat.gcd x gk = Nat.gcd a b) ∧ Hid (Below w.heap.size w wx))
          case atStart => exact ⟨gk, rfl, rfl, b64, r64, HG1, HW1⟩
          case round =>
            clear HA1 HB1 HG1 HW1
            obtain ⟨x, rfl, rfl, hx64, hy64, HG, HW⟩ := hrel
            by_cases hy0 : gk = 0
            · subst hy0
              have HXE : Hid (x = Nat.gcd a b) := hide (by have := unhide HG; rwa [Nat.gcd_zero_right] at this)
              have WW := hide (words_any x hx64 wr)
              go_wp2_with fail
              refine (unhide WW).mono ?_
              rintro e y1 ⟨v1, rfl, hv1, hb1⟩
              have HV := hide hv1
              have HB := hide hb1
              clear hv1 hb1
              go_wp2
              go_ret
              rw [← unhide HXE]
              exact ⟨_, rfl, unhide HV, below_via (unhide HW) (unhide HB)⟩
            · have hyp : (0 : Int) < (gk : Int) := by omega
              have hyz : ((gk : Int) == 0) = false := by rw [beq_eq_false_iff_ne]; omega
              obtain ⟨R, hR⟩ : ∃ R, R = x % gk := ⟨_, rfl⟩
              have t2 : ((x : Nat) : Int).tmod (gk : Int) = (R : Int) := by rw [hR]; rfl
              have Rlt : R < gk := by rw [hR]; exact Nat.mod_lt _ (by omega)
              have wR : IntKind.u64.wrap (R : Int) = (R : Int) := by rw [IntKind.wrap_u64]; omega
              have HGR : Hid (Nat.gcd gk R = Nat.gcd a b) := hide (by rw [← unhide HG, hR, Nat.gcd_comm x gk, Nat.gcd_rec gk x, Nat.gcd_comm])
              clear hR
              go_wp2_with fail
              go_region
              all_goals
                go_wp2
                go_roundg R
                case measure => exact Rlt
                case rel => exact ⟨gk, by first | rfl | go_num, by first | rfl | go_num, hy64, by omega, HGR, hide (by repeat (first | exact unhide HW | apply Below.drew))⟩
        · have h3' : ¬ (2 : Int) < (na : Int) := by omega
          have a64 : A < 18446744073709551616 := wd_len2 (by omega)
          have HG1 := HG
          have HA1 := HA
          have HB1 := HB
          have HW1 := HW
          rw [← hna, ← hnb]
          rw [← hna] at HA1
          rw [← hnb] at HB1
          clear hna hnb
          go_wp2_with fail
          refine (unhide (hide (plain_any _ A a64 _ (unhide HA1)))).mono ?_
          rintro e x1 ⟨rfl, hx1⟩
          subst x1
          go_wp2_with fail
          refine (unhide (hide (plain_any _ gk b64 _ (unhide HB1)))).mono ?_
          rintro e x1 ⟨rfl, hx1⟩
          subst x1
          go_wp2_with fail
          go_loopg [9, 10] gk (fun gk xv yv wx => ∃ x : Nat, xv = .int .u64 (x : Int) ∧ yv = .int .u64 (gk : Int) ∧ x < 18446744073709551616 ∧ gk < 18446744073709551616 ∧ Hid (Nat.gcd x gk = Nat.gcd a b) ∧ Hid (Below w.heap.size w wx))
          case atStart => exact ⟨A, rfl, rfl, a64, b64, HG1, HW1⟩
          case round =>
            clear HA1 HB1 HG1 HW1
            obtain ⟨x, rfl, rfl, hx64, hy64, HG, HW⟩ := hrel
            by_cases hy0 : gk = 0
            · subst hy0
              have HXE : Hid (x = Nat.gcd a b) := hide (by have := unhide HG; rwa [Nat.gcd_zero_right] at this)
              have WW := hide (words_any x hx64 wr)
              go_wp2_with fail
              refine (unhide WW).mono ?_
              rintro e y1 ⟨v1, rfl, hv1, hb1⟩
              have HV := hide hv1
              have HB := hide hb1
              clear hv1 hb1
              go_wp2
              go_ret
              rw [← unhide HXE]
              exact ⟨_, rfl, unhide HV, below_via (unhide HW) (unhide HB)⟩
            · have hyp : (0 : Int) < (gk : Int) := by omega
              have hyz : ((gk : Int) == 0) = false := by rw [beq_eq_false_iff_ne]; omega
              obtain ⟨R, hR⟩ : ∃ R, R = x % gk := ⟨_, rfl⟩
              have t2 : ((x : Nat) : Int).tmod (gk : Int) = (R : Int) := by rw [hR]; rfl
              have Rlt : R < gk := by rw [hR]; exact Nat.mod_lt _ (by omega)
              have wR : IntKind.u64.wrap (R : Int) = (R : Int) := by rw [IntKind.wrap_u64]; omega
              have HGR : Hid (Nat.gcd gk R = Nat.gcd a b) := hide (by rw [← unhide HG, hR, Nat.gcd_comm x gk, Nat.gcd_rec gk x, Nat.gcd_comm])
              clear hR
              go_wp2_with fail
              go_region
              all_goals
                go_wp2
                go_roundg R
                case measure => exact Rlt
                case rel => exact ⟨gk, by first | rfl | go_num, by first | rfl | go_num, hy64, by omega, HGR, hide (by repeat (first | exact unhide HW | apply Below.drew))⟩
end Go.Proofs.Ytibkemolmpcdcaa

/- Walks: QuoRem, Quo of whole numbers. -/
namespace Go.Proofs.Ytibkemolmpcdcaa
open Go.RowKit

theorem quo_sign (x y : Int) : (if (decide (x < 0) != decide (y < 0)) = true then -((x.natAbs / y.natAbs : Nat) : Int) else ((x.natAbs / y.natAbs : Nat) : Int)) = x.tdiv y := by
  rcases Int.lt_or_le x 0 with hx | hx <;> rcases Int.lt_or_le y 0 with hy | hy
  · rw [decide_eq_true hx, decide_eq_true hy, if_neg (by decide)]
    obtain ⟨a, rfl⟩ : ∃ a : Nat, x = -(a : Int) := ⟨x.natAbs, by omega⟩
    obtain ⟨b, rfl⟩ : ∃ b : Nat, y = -(b : Int) := ⟨y.natAbs, by omega⟩
    rw [Int.neg_tdiv, Int.tdiv_neg, Int.neg_neg, Int.natAbs_neg, Int.natAbs_neg, Int.natAbs_natCast, Int.natAbs_natCast]
    rfl
  · rw [decide_eq_true hx, decide_eq_false (by omega), if_pos (by decide)]
    obtain ⟨a, rfl⟩ : ∃ a : Nat, x = -(a : Int) := ⟨x.natAbs, by omega⟩
    obtain ⟨b, rfl⟩ : ∃ b : Nat, y = (b : Int) := ⟨y.natAbs, by omega⟩
    rw [Int.neg_tdiv, Int.natAbs_neg, Int.natAbs_natCast, Int.natAbs_natCast]
    rfl
  · rw [decide_eq_false (by omega), decide_eq_true hy, if_pos (by decide)]
    obtain ⟨a, rfl⟩ : ∃ a : Nat, x = (a : Int) := ⟨x.natAbs, by omega⟩
    obtain ⟨b, rfl⟩ : ∃ b : Nat, y = -(b : Int) := ⟨y.natAbs, by omega⟩
    rw [Int.tdiv_neg, Int.natAbs_neg, Int.natAbs_natCast, Int.natAbs_natCast]
    rfl
  · rw [decide_eq_false (by omega), decide_eq_false (by omega), if_neg (by decide)]
    obtain ⟨a, rfl⟩ : ∃ a : Nat, x = (a : Int) := ⟨x.natAbs, by omega⟩
    obtain ⟨b, rfl⟩ : ∃ b : Nat, y = (b : Int) := ⟨y.natAbs, by omega⟩
    rfl
theorem rem_sign (x y : Int) : (if decide (x < 0) = true then -((x.natAbs % y.natAbs : Nat) : Int) else ((x.natAbs % y.natAbs : Nat) : Int)) = x.tmod y := by
  have key : ∀ (a : Nat) (y : Int), (a : Int).tmod y = ((a % y.natAbs : Nat) : Int) := fun a y => by
    rcases Int.lt_or_le y 0 with hy | hy
    · obtain ⟨b, rfl⟩ : ∃ b : Nat, y = -(b : Int) := ⟨y.natAbs, by omega⟩
      rw [Int.tmod_neg, Int.natAbs_neg, Int.natAbs_natCast]
      rfl
    · obtain ⟨b, rfl⟩ : ∃ b : Nat, y = (b : Int) := ⟨y.natAbs, by omega⟩
      rfl
  rcases Int.lt_or_le x 0 with hx | hx
  · rw [decide_eq_true hx, if_pos rfl]
    obtain ⟨a, rfl⟩ : ∃ a : Nat, x = -(a : Int) := ⟨x.natAbs, by omega⟩
    rw [Int.neg_tmod, key, Int.natAbs_neg, Int.natAbs_natCast]
  · rw [decide_eq_false (by omega), if_neg (by decide)]
    obtain ⟨a, rfl⟩ : ∃ a : Nat, x = (a : Int) := ⟨x.natAbs, by omega⟩
    rw [key, Int.natAbs_natCast]

set_option maxRecDepth 100000 in
set_option maxHeartbeats 4000000 in
theorem quoRem_any (b o bx ox b2 oy br oq : Nat) (x y : Int) (w : World) (hz : ZA w b o) (hr : ZA w br oq) (ne : b ≠ br ∨ o + 1 < oq ∨ oq + 1 < o) (hx : IA w bx ox x) (hy : IA w b2 oy y) (y0 : y ≠ 0) (lx : (Bg.wd x.natAbs).length ≤ 100000) (ly : (Bg.wd y.natAbs).length ≤ 100000) :
    Calls Try.prog 91 #[.pointer (some ⟨b, o, none⟩), .pointer (some ⟨bx, ox, none⟩), .pointer (some ⟨b2, oy, none⟩), .pointer (some ⟨br, oq, none⟩)] w fun e w' => e = .returned (.tuple #[.pointer (some ⟨b, o, none⟩), .pointer (some ⟨br, oq, none⟩)]) ∧ IA w' b o (x.tdiv y) ∧ IA w' br oq (x.tmod y) ∧ ∃ w1, Out b o w w1 ∧ Out br oq w1 w' := by
  obtain ⟨vx, x1, x2⟩ := hx.abs
  obtain ⟨vy, y1, y2⟩ := hy.abs
  obtain ⟨px, cx, rfl, -⟩ := id x2
  obtain ⟨py, cy, rfl, -⟩ := id y2
  have xn := hx.neg
  have yn := hy.neg
  have DV := hide (fun (wx : World) (hb : Below w.heap.size w wx) => div_any _ _ x.natAbs y.natAbs wx (x2.below hb) (y2.below hb) lx ly (by omega))
  have GQ := hide (fun (wx : World) (v : Value) (hb : Below w.heap.size w wx) (hv : WS wx v (Bg.wd (x.natAbs / y.natAbs))) => give_any b o (decide (x < 0) != decide (y < 0)) (x.natAbs / y.natAbs) v wx (hz.below hb) hv)
  have GR := hide (fun (wx wy : World) (v : Value) (hb : Below w.heap.size w wx) (ho : Out b o wx wy) (hv : WS wx v (Bg.wd (x.natAbs % y.natAbs))) => give_any br oq (decide (x < 0)) (x.natAbs % y.natAbs) v wy ((hr.below hb).out ho) (hv.keep (ho.kw (hz.below hb))))
  have QS := hide (quo_sign x y)
  have RS := hide (rem_sign x y)
  have HZ := hide hz
  have HR := hide hr
  obtain ⟨sx, hsx⟩ : ∃ sx, sx = decide (x < 0) := ⟨_, rfl⟩
  obtain ⟨sy, hsy⟩ : ∃ sy, sy = decide (y < 0) := ⟨_, rfl⟩
  rw [← hsx] at xn GQ GR QS RS
  rw [← hsy] at yn GQ QS
  generalize (Bg.wd x.natAbs).length = nx at *
  generalize (Bg.wd y.natAbs).length = ny at *
  clear x2 y2 hx hy hz hr hsx hsy
  go_enter Try.func91, Try.ntmps91
  go_wp2_with fail
  go_region
  all_goals
    go_wp2_with fail
  go_region_with (
    go_at_call 96
    (refine (unhide DV _ ?_).mono ?_; · exact (by repeat (first | exact Below.refl _ _ | apply Below.drew)))
    rintro e w1 ⟨v1, v2, rfl, hv1, hv2, hb1⟩
    replace hb1 : Below w.heap.size w w1 := below_via (by repeat (first | exact Below.refl _ _ | apply Below.drew)) hb1)
  all_goals
    have GC := hide (unhide GQ _ _ hb1 hv1)
    have HV2 := hide hv2
    have HB1 := hide hb1
    clear hv1 hv2 hb1
    go_wp2_with fail
    refine (unhide GC).mono ?_
    rintro e w2 ⟨rfl, hi2, ho2⟩
    rw [unhide QS] at hi2
    have GD := hide (unhide GR w1 w2 _ (unhide HB1) ho2 (unhide HV2))
    have HI2 := hide hi2
    have HO2 := hide ho2
    clear hi2 ho2
    go_wp2_with fail
    refine (unhide GD).mono ?_
    rintro e w3 ⟨rfl, hi3, ho3⟩
    rw [unhide RS] at hi3
    have HI3 := hide hi3
    have HO3 := hide ho3
    clear hi3 ho3
    go_wp2
    refine bodyPost_ret (v := .tuple #[.pointer (some ⟨b, o, none⟩), .pointer (some ⟨br, oq, none⟩)]) (by simp [results, Try.results91, go_sem]) rfl ?_
    exact ⟨rfl, (unhide HI2).out (unhide HO3) (((unhide HR).below (unhide HB1)).out (unhide HO2)) ne, unhide HI3, w2, (Out.of (unhide HB1)).trans (unhide HO2), unhide HO3⟩
end Go.Proofs.Ytibkemolmpcdcaa

/- Walks: Quo, Uint64, Int64, Cmp of whole numbers. -/
namespace Go.Proofs.Ytibkemolmpcdcaa
open Go.RowKit

theorem out_new {w wa w1 w' : World} {b o p q : Nat} (h0 : Below w.heap.size w wa) (h1 : Out b o wa w1) (h2 : Out p q w1 w') (hp : w.heap.size ≤ p) (hb : b < w.heap.size) : Out b o w w' := by
  have s1 := h0.size
  have s2 := h1.size
  refine ⟨h2.os.trans (h1.os.trans h0.os), h2.tape.trans (h1.tape.trans h0.tape), h2.output.trans (h1.output.trans h0.output), Nat.le_trans s1 (Nat.le_trans s2 h2.size), fun k hk hkb => ?_, fun c t hc => ?_⟩
  · rw [h2.block k (by omega) (by omega), h1.block k (by omega) hkb, h0.block k hk]
  · obtain ⟨c', g1, g2, g3⟩ := h1.self c t ((h0.block b hb).trans hc)
    exact ⟨c', (h2.block b (by omega) (by omega)).trans g1, g2, g3⟩
theorem ZA.new (w : World) : ZA (w.alloc (.cells #[.bool false, .slice none 0 0] 41)) w.heap.size 0 :=
  ⟨#[.bool false, .slice none 0 0], 41, by show (w.heap.push _)[w.heap.size]? = _; simp, by decide, by simp⟩

set_option maxHeartbeats 2000000 in
theorem iquo_any (b o bx ox b2 oy : Nat) (x y : Int) (w : World) (hz : ZA w b o) (hx : IA w bx ox x) (hy : IA w b2 oy y) (y0 : y ≠ 0) (lx : (Bg.wd x.natAbs).length ≤ 100000) (ly : (Bg.wd y.natAbs).length ≤ 100000) :
    Calls Try.prog 70 #[.pointer (some ⟨b, o, none⟩), .pointer (some ⟨bx, ox, none⟩), .pointer (some ⟨b2, oy, none⟩)] w fun e w' => e = .returned (.pointer (some ⟨b, o, none⟩)) ∧ IA w' b o (x.tdiv y) ∧ Out b o w w' := by
  have N := below_new w (.cells #[.bool false, .slice none 0 0] 41)
  have hbl := hz.low
  have Q := hide (quoRem_any b o bx ox b2 oy w.heap.size 0 x y _ (hz.below N) (ZA.new w) (.inl (by omega)) (hx.below N) (hy.below N) y0 lx ly)
  have HN := hide N
  clear hz hx hy N
  go_enter Try.func70, Try.ntmps70
  go_wp2_with fail
  refine (unhide Q).mono ?_
  rintro e w2 ⟨rfl, hi, -, w1, ho1, ho2⟩
  have HI := hide hi
  have HO1 := hide ho1
  have HO2 := hide ho2
  clear hi ho1 ho2
  go_wp2
  go_ret
  exact ⟨rfl, unhide HI, out_new (unhide HN) (unhide HO1) (unhide HO2) (Nat.le_refl _) hbl⟩

set_option maxHeartbeats 2000000 in
theorem iuint64_any (bx ox : Nat) (x : Int) (w : World) (hx : IA w bx ox x) (h64 : x.natAbs < 18446744073709551616) :
    Calls Try.prog 92 #[.pointer (some ⟨bx, ox, none⟩)] w fun e w' => e = .returned (.int .u64 (x.natAbs : Int)) ∧ w' = w := by
  obtain ⟨vx, x1, x2⟩ := hx.abs
  obtain ⟨px, cx, rfl, -⟩ := id x2
  generalize x.natAbs = n at *
  clear hx
  go_enter Try.func92, Try.ntmps92
  by_cases h0 : n = 0
  · subst h0
    rw [Bg.wd_zero, List.length_nil] at x1
    clear x2
    go_wp2
    go_ret
    exact ⟨rfl, rfl⟩
  by_cases h1 : n < 4294967296
  · rw [Bg.wd_one h1 h0] at x1 x2
    obtain ⟨b1, o1, rfl, -, c1⟩ := WS.at x2 0 n rfl
    have c2 : w.cell? ⟨b1, o1, none⟩ = some (.int .u32 (n : Int)) := c1
    have x1' : w.cell? ⟨bx, ox + 1, none⟩ = some (.slice (some ⟨b1, o1, none⟩) 1 cx) := x1
    clear x2 c1 x1
    go_wp2
    go_ret
    exact ⟨rfl, rfl⟩
  · have e : Bg.wd n = [n % 4294967296, n / 4294967296] := by rw [Bg.wd_pos h0, Bg.wd_one (by omega) (by omega)]
    rw [e] at x1 x2
    obtain ⟨b1, o1, rfl, -, c1⟩ := WS.at x2 0 _ rfl
    obtain ⟨_, _, e2, -, c2⟩ := WS.at x2 1 _ rfl
    cases e2
    obtain ⟨l, hl⟩ : ∃ l, l = n % 4294967296 := ⟨_, rfl⟩
    obtain ⟨g, hg⟩ : ∃ g, g = n / 4294967296 := ⟨_, rfl⟩
    have d1 : w.cell? ⟨b1, o1, none⟩ = some (.int .u32 (l : Int)) := by rw [hl]; exact c1
    have d2 : w.cell? ⟨b1, o1 + 1, none⟩ = some (.int .u32 (g : Int)) := by rw [hg]; exact c2
    have x1' : w.cell? ⟨bx, ox + 1, none⟩ = some (.slice (some ⟨b1, o1, none⟩) 2 cx) := x1
    have hlb : l < 4294967296 := by omega
    have hgb : g < 4294967296 := by omega
    have HOR := hide (or_shift hlb hgb)
    rw [show l + 4294967296 * g = n by omega] at HOR
    clear x2 c1 c2 x1 e hl hg
    go_wp2
    go_ret
    exact ⟨by rw [← unhide HOR]; rfl, rfl⟩

set_option maxHeartbeats 2000000 in
theorem iint64_any (bx ox : Nat) (x : Int) (w : World) (hx : IA w bx ox x) (h64 : x.natAbs < 9223372036854775808) :
    Calls Try.prog 71 #[.pointer (some ⟨bx, ox, none⟩)] w fun e w' => e = .returned (.int .i64 x) ∧ w' = w := by
  have U := hide (iuint64_any bx ox x w hx (by omega))
  have x0 := hx.neg
  obtain ⟨n, hn⟩ : ∃ n, n = x.natAbs := ⟨_, rfl⟩
  rw [← hn] at U h64
  have wn : IntKind.i64.wrap (n : Int) = (n : Int) := by rw [IntKind.wrap_i64]; omega
  have wn2 : IntKind.i64.wrap (-(n : Int)) = -(n : Int) := by rw [IntKind.wrap_i64]; omega
  clear hx
  go_enter Try.func71, Try.ntmps71
  go_wp2_with fail
  refine (unhide U).mono ?_
  rintro e w1 ⟨rfl, hw1⟩
  subst w1
  by_cases hxn : x < 0
  · rw [decide_eq_true hxn] at x0
    have HX : Hid (x = -(n : Int)) := hide (by omega)
    clear hn
    go_wp2
    go_ret
    rw [unhide HX]
    exact ⟨rfl, rfl⟩
  · rw [decide_eq_false hxn] at x0
    have HX : Hid (x = (n : Int)) := hide (by omega)
    clear hn
    go_wp2
    go_ret
    rw [unhide HX]
    exact ⟨rfl, rfl⟩
end Go.Proofs.Ytibkemolmpcdcaa

/- Walks: DivMod of whole numbers. -/
namespace Go.Proofs.Ytibkemolmpcdcaa
open Go.RowKit

theorem div_uniq {x y q r : Int} (hy : y ≠ 0) (h : x = y * q + r) (h0 : 0 ≤ r) (h1 : r < (y.natAbs : Int)) : x / y = q ∧ x % y = r := by
  have e : x % y = r := by
    rw [h, Int.mul_add_emod_self_left]
    rcases Int.lt_or_le y 0 with hn | hn
    · have : r % (-y) = r := Int.emod_eq_of_lt h0 (by omega)
      rwa [Int.emod_neg] at this
    · exact Int.emod_eq_of_lt h0 (by omega)
  refine ⟨?_, e⟩
  have g := Int.mul_ediv_add_emod x y
  rw [e, h] at g
  have g2 : y * ((y * q + r) / y) = y * q := by omega
  rw [h]
  exact Int.eq_of_mul_eq_mul_left hy g2
theorem tmod_facts {x y : Int} (hy : y ≠ 0) : x = y * x.tdiv y + x.tmod y ∧ (x.tmod y).natAbs < y.natAbs := by
  refine ⟨(Int.mul_tdiv_add_tmod x y).symm, ?_⟩
  have h := rem_sign x y
  have l : x.natAbs % y.natAbs < y.natAbs := Nat.mod_lt _ (by omega)
  split at h <;> omega
theorem dm_pos {x y : Int} (hy : y ≠ 0) (h : ¬ x.tmod y < 0) : x / y = x.tdiv y ∧ x % y = x.tmod y := by
  obtain ⟨e, l⟩ := tmod_facts (x := x) hy
  exact div_uniq hy e (by omega) (by omega)
theorem dm_neg {x y : Int} (hy : y < 0) (h : x.tmod y < 0) : x / y = x.tdiv y + 1 ∧ x % y = x.tmod y + -y := by
  obtain ⟨e, l⟩ := tmod_facts (x := x) (y := y) (by omega)
  refine div_uniq (by omega) ?_ (by omega) (by omega)
  rw [Int.mul_add]
  omega
theorem dm_neg2 {x y : Int} (hy : 0 < y) (h : x.tmod y < 0) : x / y = x.tdiv y + -1 ∧ x % y = x.tmod y + y := by
  obtain ⟨e, l⟩ := tmod_facts (x := x) (y := y) (by omega)
  refine div_uniq (by omega) ?_ (by omega) (by omega)
  rw [Int.mul_add]
  omega
/-- all but two blocks is as it was -/
structure Bl2 (b m : Nat) (w w' : World) : Prop where
  os : w'.os = w.os
  tape : w'.tape = w.tape
  output : w'.output = w.output
  size : w.heap.size ≤ w'.heap.size
  block : ∀ k, k < w.heap.size → k ≠ b → k ≠ m → w'.heap[k]? = w.heap[k]?
  self : ∀ (k : Nat) c t, w.heap[k]? = some (.cells c t (0, 0)) → ∃ c', w'.heap[k]? = some (.cells c' t (0, 0)) ∧ c'.size = c.size
theorem Out.selfk {b o : Nat} {w w' : World} (h : Out b o w w') : ∀ (k : Nat) c t, w.heap[k]? = some (.cells c t (0, 0)) → ∃ c', w'.heap[k]? = some (.cells c' t (0, 0)) ∧ c'.size = c.size := fun k c t hk => by
  by_cases e : k = b
  · subst e
    obtain ⟨c', h1, h2, _⟩ := h.self c t hk
    exact ⟨c', h1, h2⟩
  · exact ⟨c, (h.block k (Array.getElem?_eq_some_iff.1 hk).1 e).trans hk, rfl⟩
theorem Bl2.of {b m : Nat} {w w' : World} (h : Below w.heap.size w w') : Bl2 b m w w' := ⟨h.os, h.tape, h.output, h.size, fun k hk _ _ => h.block k hk, fun k c _ hk => ⟨c, (h.block k (Array.getElem?_eq_some_iff.1 hk).1).trans hk, rfl⟩⟩
theorem Bl2.out1 {b m o : Nat} {w w' : World} (h : Out b o w w') : Bl2 b m w w' := ⟨h.os, h.tape, h.output, h.size, fun k hk h1 _ => h.block k hk h1, h.selfk⟩
theorem Bl2.out2 {b m o : Nat} {w w' : World} (h : Out m o w w') : Bl2 b m w w' := ⟨h.os, h.tape, h.output, h.size, fun k hk _ h1 => h.block k hk h1, h.selfk⟩
theorem Bl2.trans {b m : Nat} {w1 w2 w3 : World} (h : Bl2 b m w1 w2) (k : Bl2 b m w2 w3) : Bl2 b m w1 w3 :=
  ⟨k.os.trans h.os, k.tape.trans h.tape, k.output.trans h.output, Nat.le_trans h.size k.size, fun i hi h1 h2 => (k.block i (Nat.lt_of_lt_of_le hi h.size) h1 h2).trans (h.block i hi h1 h2), fun i c t hi => by
    obtain ⟨c2, e2, s2⟩ := h.self i c t hi
    obtain ⟨c3, e3, s3⟩ := k.self i c2 t e2
    exact ⟨c3, e3, s3.trans s2⟩⟩
theorem len_small {n : Nat} (h : n < 18446744073709551616) : (Bg.wd n).length ≤ 100000 := Nat.le_trans (Bg.wd_len_le 2 n (by omega)) (by omega)

set_option maxRecDepth 100000 in
set_option maxHeartbeats 4000000 in
theorem divMod_any (b o bx ox b2 oy bm om : Nat) (x y : Int) (w : World) (hz : ZA w b o) (hm : ZA w bm om) (ne : b ≠ bm ∨ o + 1 < om ∨ om + 1 < o) (hx : IA w bx ox x) (hy : IA w b2 oy y) (y0 : y ≠ 0) (lx : (Bg.wd x.natAbs).length ≤ 90000) (ly : (Bg.wd y.natAbs).length ≤ 90000) :
    Calls Try.prog 79 #[.pointer (some ⟨b, o, none⟩), .pointer (some ⟨bx, ox, none⟩), .pointer (some ⟨b2, oy, none⟩), .pointer (some ⟨bm, om, none⟩)] w fun e w' => e = .returned (.tuple #[.pointer (some ⟨b, o, none⟩), .pointer (some ⟨bm, om, none⟩)]) ∧ IA w' b o (x / y) ∧ IA w' bm om (x % y) ∧ Bl2 b bm w w' := by
  have N := below_new w (.cells #[.bool false, .slice none 0 0] 41)
  have ST := hide (iset_any w.heap.size 0 b2 oy y _ (ZA.new w) (hy.below N) (by omega))
  have lz := hz.low
  have lm := hm.low
  have lbx := hx.place.low
  have lby := hy.place.low
  have tf := tmod_facts (x := x) y0
  have lq : (Bg.wd (x.tdiv y).natAbs).length ≤ 100000 := by
    have : (x.tdiv y).natAbs ≤ x.natAbs := by rw [Int.natAbs_tdiv]; exact Nat.div_le_self _ _
    exact Nat.le_trans (Bg.wd_mono this) (by omega)
  have lr : (Bg.wd (x.tmod y).natAbs).length ≤ 100000 := Nat.le_trans (Bg.wd_mono (Nat.le_of_lt tf.2)) (by omega)
  have HZ := hide hz
  have HM := hide hm
  have HX := hide hx
  have HY := hide hy
  have HN := hide N
  clear hz hm hx hy N tf
  go_enter Try.func79, Try.ntmps79
  go_wp2_with fail
  refine (unhide ST).mono ?_
  rintro e w1 ⟨rfl, hd1, ho1⟩
  have zn := ZA.new w
  have z1 := ((unhide HZ).below (unhide HN)).out ho1
  have m1 := ((unhide HM).below (unhide HN)).out ho1
  have x1 := ((unhide HX).below (unhide HN)).out ho1 zn (.inl (by omega))
  have y1 := ((unhide HY).below (unhide HN)).out ho1 zn (.inl (by omega))
  have HW1 : Hid (Bl2 b bm w w1) := hide (Bl2.of ((unhide HN).trans (ho1.below (Nat.le_refl _) (by simp))))
  have QR := hide (quoRem_any b o bx ox b2 oy bm om x y w1 z1 m1 ne x1 y1 y0 (by omega) (by omega))
  have HZ1 := hide z1
  have HM1 := hide m1
  have HD1 := hide hd1
  clear hd1 ho1 zn z1 m1 x1 y1 ST HX HY HZ HM HN
  go_wp2_with fail
  refine (unhide QR).mono ?_
  rintro e w3 ⟨rfl, hi, hj, w2, ho2, ho3⟩
  have d2 := (unhide HD1).out ho2 (unhide HZ1) (.inl (by omega))
  have m2 := (unhide HM1).out ho2
  have HD := hide (d2.out ho3 m2 (.inl (by omega)))
  have HW3 : Hid (Bl2 b bm w w3) := hide ((unhide HW1).trans ((Bl2.out1 ho2).trans (Bl2.out2 ho3)))
  have HI := hide hi
  have HJ := hide hj
  have cm := hj.neg
  have cd := (unhide HD).neg
  have hs3 := (unhide HW3).size
  clear hi hj ho2 ho3 d2 m2 QR HZ1 HM1 HD1 HW1
  by_cases hneg : x.tmod y < 0
  · rw [decide_eq_true hneg] at cm
    by_cases hyn : y < 0
    · rw [decide_eq_true hyn] at cd
      have HE := hide (dm_neg (x := x) hyn hneg)
      have NI := hide (newInt_any 1 w3 (by omega) (by omega))
      go_wp2_with fail
      refine (unhide NI).mono ?_
      rintro e w4 ⟨rfl, h1, hb4⟩
      have z4 := (unhide HI).below hb4
      have AD := hide (iadd_any b o b o w3.heap.size 0 (x.tdiv y) 1 w4 z4.place z4 h1 lq (len_small (by decide)))
      have HJ4 := hide ((unhide HJ).below hb4)
      have HD4 := hide ((unhide HD).below hb4)
      have HZ4 := hide z4.place
      have HW4 := hide ((unhide HW3).trans (Bl2.of hb4))
      clear h1 hb4 z4
      go_wp2_with fail
      refine (unhide AD).mono ?_
      rintro e w5 ⟨rfl, hi5, ho5⟩
      have j5 := (unhide HJ4).out ho5 (unhide HZ4) (by omega)
      have SB := hide (isub_any bm om bm om w.heap.size 0 (x.tmod y) y w5 j5.place j5 ((unhide HD4).out ho5 (unhide HZ4) (.inl (by omega))) lr (by omega))
      have HW5 := hide ((unhide HW4).trans (Bl2.out1 ho5))
      have HI5 := hide hi5
      have HM5 := hide j5.place
      clear hi5 ho5 j5
      go_wp2_with fail
      refine (unhide SB).mono ?_
      rintro e w6 ⟨rfl, hj6, ho6⟩
      have HJ6 := hide hj6
      have HI6 := hide ((unhide HI5).out ho6 (unhide HM5) ne)
      have HW6 := hide ((unhide HW5).trans (Bl2.out2 ho6))
      clear hj6 ho6
      go_wp2
      refine bodyPost_ret (v := .tuple #[.pointer (some ⟨b, o, none⟩), .pointer (some ⟨bm, om, none⟩)]) (by simp [results, Try.results79, go_sem]) rfl ?_
      rw [(unhide HE).1, (unhide HE).2]
      exact ⟨rfl, unhide HI6, unhide HJ6, unhide HW6⟩
    · rw [decide_eq_false hyn] at cd
      have HE := hide (dm_neg2 (x := x) (y := y) (by omega) hneg)
      have NI := hide (newInt_any 1 w3 (by omega) (by omega))
      go_wp2_with fail
      refine (unhide NI).mono ?_
      rintro e w4 ⟨rfl, h1, hb4⟩
      have z4 := (unhide HI).below hb4
      have AD := hide (isub_any b o b o w3.heap.size 0 (x.tdiv y) 1 w4 z4.place z4 h1 lq (len_small (by decide)))
      have HJ4 := hide ((unhide HJ).below hb4)
      have HD4 := hide ((unhide HD).below hb4)
      have HZ4 := hide z4.place
      have HW4 := hide ((unhide HW3).trans (Bl2.of hb4))
      clear h1 hb4 z4
      go_wp2_with fail
      refine (unhide AD).mono ?_
      rintro e w5 ⟨rfl, hi5, ho5⟩
      have j5 := (unhide HJ4).out ho5 (unhide HZ4) (by omega)
      have SB := hide (iadd_any bm om bm om w.heap.size 0 (x.tmod y) y w5 j5.place j5 ((unhide HD4).out ho5 (unhide HZ4) (.inl (by omega))) lr (by omega))
      have HW5 := hide ((unhide HW4).trans (Bl2.out1 ho5))
      have HI5 := hide hi5
      have HM5 := hide j5.place
      clear hi5 ho5 j5
      go_wp2_with fail
      refine (unhide SB).mono ?_
      rintro e w6 ⟨rfl, hj6, ho6⟩
      have HJ6 := hide hj6
      have HI6 := hide ((unhide HI5).out ho6 (unhide HM5) ne)
      have HW6 := hide ((unhide HW5).trans (Bl2.out2 ho6))
      clear hj6 ho6
      go_wp2
      refine bodyPost_ret (v := .tuple #[.pointer (some ⟨b, o, none⟩), .pointer (some ⟨bm, om, none⟩)]) (by simp [results, Try.results79, go_sem]) rfl ?_
      rw [(unhide HE).1, (unhide HE).2]
      exact ⟨rfl, unhide HI6, unhide HJ6, unhide HW6⟩
  · rw [decide_eq_false hneg] at cm
    have HE := hide (dm_pos y0 hneg)
    go_wp2
    refine bodyPost_ret (v := .tuple #[.pointer (some ⟨b, o, none⟩), .pointer (some ⟨bm, om, none⟩)]) (by simp [results, Try.results79, go_sem]) rfl ?_
    rw [(unhide HE).1, (unhide HE).2]
    exact ⟨rfl, unhide HI, unhide HJ, unhide HW3⟩
end Go.Proofs.Ytibkemolmpcdcaa

/- Walks: Mod, Cmp of whole numbers. -/
namespace Go.Proofs.Ytibkemolmpcdcaa
open Go.RowKit

theorem bl2_new {w wa w' : World} {b m : Nat} (h0 : Below w.heap.size w wa) (h1 : Bl2 b m wa w') (hb : w.heap.size ≤ b) : Bl2 m m w w' := by
  have s1 := h0.size
  refine ⟨h1.os.trans h0.os, h1.tape.trans h0.tape, h1.output.trans h0.output, Nat.le_trans s1 h1.size, fun k hk hk1 _ => ?_, fun k c t hk => ?_⟩
  · rw [h1.block k (by omega) (by omega) hk1, h0.block k hk]
  · exact h1.self k c t ((h0.block k (Array.getElem?_eq_some_iff.1 hk).1).trans hk)

set_option maxHeartbeats 2000000 in
theorem imod_any (b o bx ox b2 oy : Nat) (x y : Int) (w : World) (hz : ZA w b o) (hx : IA w bx ox x) (hy : IA w b2 oy y) (y0 : y ≠ 0) (lx : (Bg.wd x.natAbs).length ≤ 90000) (ly : (Bg.wd y.natAbs).length ≤ 90000) :
    Calls Try.prog 69 #[.pointer (some ⟨b, o, none⟩), .pointer (some ⟨bx, ox, none⟩), .pointer (some ⟨b2, oy, none⟩)] w fun e w' => e = .returned (.pointer (some ⟨b, o, none⟩)) ∧ IA w' b o (x % y) ∧ Bl2 b b w w' := by
  have N := below_new w (.cells #[.bool false, .slice none 0 0] 41)
  have hbl := hz.low
  have Q := hide (divMod_any w.heap.size 0 bx ox b2 oy b o x y _ (ZA.new w) (hz.below N) (.inl (by omega)) (hx.below N) (hy.below N) y0 lx ly)
  have HN := hide N
  clear hz hx hy N
  go_enter Try.func69, Try.ntmps69
  go_wp2_with fail
  refine (unhide Q).mono ?_
  rintro e w2 ⟨rfl, -, hi, hb⟩
  have HI := hide hi
  have HB := hide hb
  clear hi hb
  go_wp2
  go_ret
  exact ⟨rfl, unhide HI, bl2_new (unhide HN) (unhide HB) (Nat.le_refl _)⟩

def icmp (x y : Int) : Int := if x < y then -1 else if x = y then 0 else 1
theorem icmp_pos {x y : Int} (hx : 0 ≤ x) (hy : 0 ≤ y) : icmp x y = Bg.cmpN x.natAbs y.natAbs := by
  unfold icmp
  rcases Int.lt_trichotomy x y with h | h | h
  · rw [if_pos h, Bg.cmpN_lt (by omega)]
  · rw [if_neg (by omega), if_pos h, Bg.cmpN_eq (by omega)]
  · rw [if_neg (by omega), if_neg (by omega), Bg.cmpN_gt (by omega)]
theorem icmp_neg {x y : Int} (hx : x < 0) (hy : y < 0) : icmp x y = -Bg.cmpN x.natAbs y.natAbs := by
  unfold icmp
  rcases Int.lt_trichotomy x y with h | h | h
  · rw [if_pos h, Bg.cmpN_gt (by omega)]
  · rw [if_neg (by omega), if_pos h, Bg.cmpN_eq (by omega)]
    rfl
  · rw [if_neg (by omega), if_neg (by omega), Bg.cmpN_lt (by omega)]
    rfl
theorem cmpN_bd (a b : Nat) : -1 ≤ Bg.cmpN a b ∧ Bg.cmpN a b ≤ 1 := by
  unfold Bg.cmpN
  split
  · omega
  · split <;> omega

set_option maxHeartbeats 4000000 in
theorem icmp_any (bx ox b2 oy : Nat) (x y : Int) (w : World) (hx : IA w bx ox x) (hy : IA w b2 oy y) :
    Calls Try.prog 58 #[.pointer (some ⟨bx, ox, none⟩), .pointer (some ⟨b2, oy, none⟩)] w fun e w' => e = .returned (.int .i64 (icmp x y)) ∧ Below w.heap.size w w' := by
  obtain ⟨vx, x1, x2⟩ := hx.abs
  obtain ⟨vy, y1, y2⟩ := hy.abs
  obtain ⟨px, cx, rfl, -⟩ := id x2
  obtain ⟨py, cy, rfl, -⟩ := id y2
  have xn := hx.neg
  have yn := hy.neg
  have bxl := hx.place.low
  have CM := hide (fun (wx : World) (hb : Below w.heap.size w wx) => cmp_any _ _ x.natAbs y.natAbs wx (x2.below hb) (y2.below hb))
  have IP := hide (fun h1 h2 => icmp_pos (x := x) (y := y) h1 h2)
  have IN := hide (fun h1 h2 => icmp_neg (x := x) (y := y) h1 h2)
  obtain ⟨c1, c2⟩ := cmpN_bd x.natAbs y.natAbs
  generalize Bg.cmpN x.natAbs y.natAbs = cm at *
  clear x2 y2 hx hy
  go_enter Try.func58, Try.ntmps58
  by_cases hxn : x < 0
  · rw [decide_eq_true hxn] at xn
    by_cases hyn : y < 0
    · rw [decide_eq_true hyn] at yn
      have HS := hide (unhide IN hxn hyn)
      go_wp2_with fail
      go_region
      all_goals
        go_wp2_with fail
      go_region_with (
        go_at_call 89
        (refine (unhide CM _ ?_).mono ?_; · exact (by repeat (first | exact Below.refl _ _ | apply Below.drew)))
        rintro e w1 ⟨rfl, hb1⟩
        replace hb1 : Below w.heap.size w w1 := below_via (by repeat (first | exact Below.refl _ _ | apply Below.drew)) hb1
        have xn1 := (hb1.cell (p := ⟨bx, ox, none⟩) bxl).trans xn)
      all_goals
        have HB := hide hb1
        clear hb1
        go_wp2
        go_ret
        rw [unhide HS]
        exact ⟨rfl, by repeat (first | exact unhide HB | apply Below.drew)⟩
    · rw [decide_eq_false hyn] at yn
      have HS : Hid (icmp x y = -1) := hide (by unfold icmp; rw [if_pos (by omega)])
      go_wp2_with fail
      go_region
      all_goals
        go_wp2
        go_ret
        rw [unhide HS]
        exact ⟨rfl, by repeat (first | exact Below.refl _ _ | apply Below.drew)⟩
  · rw [decide_eq_false hxn] at xn
    by_cases hyn : y < 0
    · rw [decide_eq_true hyn] at yn
      have HS : Hid (icmp x y = 1) := hide (by unfold icmp; rw [if_neg (by omega), if_neg (by omega)])
      go_wp2_with fail
      go_region
      all_goals
        go_wp2
        go_ret
        rw [unhide HS]
        exact ⟨rfl, by repeat (first | exact Below.refl _ _ | apply Below.drew)⟩
    · rw [decide_eq_false hyn] at yn
      have HS := hide (unhide IP (by omega) (by omega))
      go_wp2_with fail
      go_region
      all_goals
        go_wp2_with fail
      go_region_with (
        go_at_call 89
        (refine (unhide CM _ ?_).mono ?_; · exact (by repeat (first | exact Below.refl _ _ | apply Below.drew)))
        rintro e w1 ⟨rfl, hb1⟩
        replace hb1 : Below w.heap.size w w1 := below_via (by repeat (first | exact Below.refl _ _ | apply Below.drew)) hb1
        have xn1 := (hb1.cell (p := ⟨bx, ox, none⟩) bxl).trans xn)
      all_goals
        have HB := hide hb1
        clear hb1
        go_wp2
        go_ret
        rw [unhide HS]
        exact ⟨rfl, by repeat (first | exact unhide HB | apply Below.drew)⟩
end Go.Proofs.Ytibkemolmpcdcaa

/- Ratios in memory; den. -/
namespace Go.Proofs.Ytibkemolmpcdcaa
open Go.RowKit

/-- all but one block is as it was; that one has as many cells of its type -/
structure Blk (p : Nat) (w w' : World) : Prop where
  os : w'.os = w.os
  tape : w'.tape = w.tape
  output : w'.output = w.output
  size : w.heap.size ≤ w'.heap.size
  block : ∀ k, k < w.heap.size → k ≠ p → w'.heap[k]? = w.heap[k]?
  self : ∀ c t, w.heap[p]? = some (.cells c t (0, 0)) → ∃ c', w'.heap[p]? = some (.cells c' t (0, 0)) ∧ c'.size = c.size
theorem Blk.refl (p : Nat) (w : World) : Blk p w w := ⟨rfl, rfl, rfl, Nat.le_refl _, fun _ _ _ => rfl, fun c _ h => ⟨c, h, rfl⟩⟩
theorem Blk.trans {p : Nat} {w1 w2 w3 : World} (h : Blk p w1 w2) (k : Blk p w2 w3) : Blk p w1 w3 :=
  ⟨k.os.trans h.os, k.tape.trans h.tape, k.output.trans h.output, Nat.le_trans h.size k.size, fun i hi hb => (k.block i (Nat.lt_of_lt_of_le hi h.size) hb).trans (h.block i hi hb), fun c t hc => by
    obtain ⟨c2, h2, s2⟩ := h.self c t hc
    obtain ⟨c3, h3, s3⟩ := k.self c2 t h2
    exact ⟨c3, h3, s3.trans s2⟩⟩
theorem Blk.of {p : Nat} {w w' : World} (h : Below w.heap.size w w') : Blk p w w' :=
  ⟨h.os, h.tape, h.output, h.size, fun k hk _ => h.block k hk, fun c _ hc => ⟨c, (h.block p (Array.getElem?_eq_some_iff.1 hc).1).trans hc, rfl⟩⟩
theorem Out.blk {p o : Nat} {w w' : World} (h : Out p o w w') : Blk p w w' :=
  ⟨h.os, h.tape, h.output, h.size, h.block, fun c t hc => by
    obtain ⟨c', g1, g2, _⟩ := h.self c t hc
    exact ⟨c', g1, g2⟩⟩
theorem Bl2.blk {p : Nat} {w w' : World} (h : Bl2 p p w w') : Blk p w w' := ⟨h.os, h.tape, h.output, h.size, fun k hk h1 => h.block k hk h1 h1, fun c t hc => h.self p c t hc⟩
theorem Blk.below {p B : Nat} {w w' : World} (h : Blk p w w') (hb : B ≤ p) (hw : B ≤ w.heap.size) : Below B w w' :=
  ⟨h.os, h.tape, h.output, h.size, fun k hk => h.block k (by omega) (by omega)⟩
theorem Blk.kw {p o : Nat} {w w' : World} (h : Blk p w w') (hz : ZA w p o) : KW w w' := fun k cs hk => by
  by_cases e : k = p
  · subst e
    obtain ⟨c, t, h1, h2, _⟩ := hz
    unfold RW at hk
    rw [hk] at h1
    cases h1
    exact absurd rfl h2
  · exact (h.block k hk.low e).trans hk
theorem ZA.blk {w w' : World} {b o p : Nat} (h : ZA w b o) (hb : Blk p w w') : ZA w' b o := by
  have l := h.low
  obtain ⟨c, t, h1, h2, h3⟩ := h
  by_cases e : b = p
  · subst e
    obtain ⟨c', g1, g2⟩ := hb.self c t h1
    exact ⟨c', t, g1, h2, by omega⟩
  · exact ⟨c, t, (hb.block b l e).trans h1, h2, h3⟩
theorem IA.blk {w w' : World} {b o p : Nat} {z : Int} (h : IA w b o z) (hb : Blk p w w') {q : Nat} (hz : ZA w p q) (ne : b ≠ p) : IA w' b o z := by
  have l := h.place.low
  obtain ⟨v, h1, hw⟩ := h.abs
  have key : ∀ i, w'.cell? ⟨b, i, none⟩ = w.cell? ⟨b, i, none⟩ := fun i => World.cell?_of_block (w := w) (hb.block b l ne)
  exact ⟨h.place.blk hb, (key o).trans h.neg, v, (key (o + 1)).trans h1, hw.keep (hb.kw hz)⟩

/-- a ratio in its block: n over d -/
structure RA (w : World) (p : Nat) (n d : Int) : Prop where
  num : IA w p 0 n
  den : IA w p 2 d
  pos : 0 < d
theorem RA.below {w w' : World} {p : Nat} {n d : Int} (h : RA w p n d) (hb : Below w.heap.size w w') : RA w' p n d := ⟨h.num.below hb, h.den.below hb, h.pos⟩
theorem RA.blk {w w' : World} {p b q : Nat} {n d : Int} (h : RA w p n d) (hb : Blk b w w') (hz : ZA w b q) (ne : p ≠ b) : RA w' p n d := ⟨h.num.blk hb hz ne, h.den.blk hb hz ne, h.pos⟩

set_option maxHeartbeats 1000000 in
theorem den_any (p : Nat) (n d : Int) (w : World) (h : RA w p n d) :
    Calls Try.prog 57 #[.pointer (some ⟨p, 0, none⟩)] w fun e w' => e = .returned (.pointer (some ⟨p, 2, none⟩)) ∧ w' = w := by
  obtain ⟨v, x1, x2⟩ := h.den.abs
  obtain ⟨q, c, rfl, -⟩ := id x2
  have hl := wd_pos_len (n := d.natAbs) (by have := h.pos; omega)
  have g1 : (((Bg.wd d.natAbs).length : Int) == 0) = false := by rw [beq_eq_false_iff_ne]; omega
  clear x2 h
  go_enter Try.func57, Try.ntmps57
  go_wp2
  go_ret
  exact ⟨rfl, rfl⟩

theorem ratio_via {n d n1 d1 n' d' : Int} (h1 : d1 ≠ 0) (e1 : n' * d1 = n1 * d') (e2 : n1 * d = n * d1) : n' * d = n * d' := by
  have : d1 * (n' * d) = d1 * (n * d') := by
    have a : d1 * (n' * d) = n' * d1 * d := by grind
    have b : d1 * (n * d') = n * d1 * d' := by grind
    rw [a, b, e1, ← e2]
    grind
  exact Int.eq_of_mul_eq_mul_left h1 this
theorem put_abs {w : World} {p G : Nat} {x y : Int} {q u : Value} (hx : IA w p 0 x) (hy : IA w p 2 y) (hq : WS w q (Bg.wd (x.natAbs / G))) (hu : WS w u (Bg.wd (y.natAbs / G))) (x0 : x ≠ 0) (g0 : 0 < G) (dx : G ∣ x.natAbs) (dy : G ∣ y.natAbs) (hy0 : 0 < y) :
    ∃ n' d' : Int, RA ((w.setCell ⟨p, 1, none⟩ q).setCell ⟨p, 3, none⟩ u) p n' d' ∧ n' * y = x * d' ∧ n'.natAbs ≤ x.natAbs ∧ d'.natAbs ≤ y.natAbs ∧ Blk p w ((w.setCell ⟨p, 1, none⟩ q).setCell ⟨p, 3, none⟩ u) := by
  have O1 : Out p 0 w (w.setCell ⟨p, 1, none⟩ q) := Out.set (.inr rfl)
  have O2 : Out p 2 (w.setCell ⟨p, 1, none⟩ q) ((w.setCell ⟨p, 1, none⟩ q).setCell ⟨p, 3, none⟩ u) := Out.set (.inr rfl)
  obtain ⟨a, ha⟩ := dx
  obtain ⟨b, hb⟩ := dy
  have ea : x.natAbs / G = a := by rw [ha]; exact Nat.mul_div_cancel_left _ g0
  have eb : y.natAbs / G = b := by rw [hb]; exact Nat.mul_div_cancel_left _ g0
  have a0 : a ≠ 0 := fun e => by rw [e, Nat.mul_zero] at ha; omega
  have b0 : b ≠ 0 := fun e => by rw [e, Nat.mul_zero] at hb; omega
  have la : a ≤ x.natAbs := by rw [← ea]; exact Nat.div_le_self _ _
  have lb : b ≤ y.natAbs := by rw [← eb]; exact Nat.div_le_self _ _
  rw [ea] at hq
  rw [eb] at hu
  obtain ⟨v1, c1, _⟩ := hx.abs
  obtain ⟨v3, c3, _⟩ := hy.abs
  have cx := hx.neg
  have cy := hy.neg
  have kw1 := O1.kw hx.place
  have kw2 := O2.kw (hy.place.out O1)
  have hxy : y = (G : Int) * b := by
    have : ((y.natAbs : Nat) : Int) = ((G * b : Nat) : Int) := by rw [hb]
    rw [Int.natCast_mul] at this
    omega
  have key : ∀ n' : Int, (decide (n' < 0) = decide (x < 0)) → n'.natAbs = a → n' * y = x * (b : Int) → ∃ n' d' : Int, RA ((w.setCell ⟨p, 1, none⟩ q).setCell ⟨p, 3, none⟩ u) p n' d' ∧ n' * y = x * d' ∧ n'.natAbs ≤ x.natAbs ∧ d'.natAbs ≤ y.natAbs ∧ Blk p w ((w.setCell ⟨p, 1, none⟩ q).setCell ⟨p, 3, none⟩ u) := fun n' h1 h2 h3 => by
    refine ⟨n', b, ⟨⟨(hx.place.out O1).out O2, ?_, q, ?_, ?_⟩, ⟨(hy.place.out O1).out O2, ?_, u, ?_, ?_⟩, by omega⟩, h3, by omega, by omega, O1.blk.trans O2.blk⟩
    · rw [h1]
      simp [go_sem, cx]
    · simp [go_sem, c1]
    · rw [h2]; exact (hq.keep kw1).keep kw2
    · rw [decide_eq_false (by omega : ¬ y < 0)] at cy
      rw [decide_eq_false (by omega)]
      simp [go_sem, cy]
    · simp [go_sem, c3]
    · rw [Int.natAbs_natCast]; exact (hu.keep kw1).keep kw2
  have hxa : ((x.natAbs : Nat) : Int) = (G : Int) * a := by rw [ha, Int.natCast_mul]
  rcases Int.lt_or_le x 0 with hn | hn
  · refine key (-(a : Int)) (by rw [decide_eq_true hn]; simp; omega) (by omega) ?_
    have hx2 : x = -((G : Int) * a) := by omega
    rw [hx2, hxy]
    grind
  · refine key (a : Int) (by rw [decide_eq_false (by omega), decide_eq_false (by omega)]) (by omega) ?_
    have hx2 : x = (G : Int) * a := by omega
    rw [hx2, hxy]
    grind
theorem Blk.drew {p : Nat} {w w' : World} (h : Blk p w w') : Blk p w w'.drew := h.trans (Blk.of (Below.refl _ _).drew)
end Go.Proofs.Ytibkemolmpcdcaa
