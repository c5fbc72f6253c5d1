/- Walks: common. -/
import Derived.Test.YtbdgngfpofohpaaDoorG10
import Derived.Deep.LoopGhost
import Derived.Test.YtbdgngfpofohpaaDoorG07
import Derived.Deep.Cut
namespace Go.Proofs.YtbdgngfpofohpaaDoor
open Go.RowKit

set_option maxRecDepth 100000 in
set_option maxHeartbeats 4000000 in
theorem common_any (u v : Value) (a b : Nat) (w : World) (hu : WS w u (Bg.wd a)) (hv : WS w v (Bg.wd b)) (ha : (Bg.wd a).length ≤ 100000) (hb : (Bg.wd b).length ≤ 100000) :
    Calls Tryd.prog 83 #[u, v] w fun e w' => ∃ u, e = .returned u ∧ WS w' u (Bg.wd (Nat.gcd a b)) ∧ Below w.heap.size w w' := by
  have HU := hide hu
  have HV := hide hv
  obtain ⟨p, cap, rfl, -⟩ := hu
  obtain ⟨q, cap2, rfl, -⟩ := hv
  go_enter Tryd.func83, Tryd.ntmps83
  go_wp2_with fail
  go_loopg [0, 1] b (fun gk av bv wr => ∃ (A : Nat) (p q : Option Addr) (cap cap2 : Nat), av = .slice p (Bg.wd A).length cap ∧ bv = .slice q (Bg.wd gk).length cap2 ∧ Hid (WS wr (.slice p (Bg.wd A).length cap) (Bg.wd A)) ∧ Hid (WS wr (.slice q (Bg.wd gk).length cap2) (Bg.wd gk)) ∧ (Bg.wd A).length ≤ 100000 ∧ (Bg.wd gk).length ≤ 100000 ∧ Hid (Nat.gcd A gk = Nat.gcd a b) ∧ Hid (Below w.heap.size w wr))
  case atStart => exact ⟨a, _, _, _, _, rfl, rfl, HU, HV, ha, hb, hide rfl, hide (Below.refl _ _)⟩
  case round =>
    clear HU HV ha hb
    obtain ⟨A, p, q, cap, cap2, rfl, rfl, HA, HB, la, lb, HG, HW⟩ := hrel
    obtain ⟨na, hna⟩ : ∃ na, na = (Bg.wd A).length := ⟨_, rfl⟩
    obtain ⟨nb, hnb⟩ : ∃ nb, nb = (Bg.wd gk).length := ⟨_, rfl⟩
    have HNA := hide hna
    have HNB := hide hnb
    by_cases h2 : 2 < nb
    · have h2' : (2 : Int) < (nb : Int) := by omega
      have g0 : gk ≠ 0 := fun e => by rw [e, Bg.wd_zero] at hnb; simp at hnb; omega
      have DV := hide (div_any _ _ A gk wr (unhide HA) (unhide HB) la lb g0)
      rw [← hna, ← hnb] at DV ⊢
      clear hna hnb
      go_wp2_with fail
      refine (unhide DV).mono ?_
      rintro e w2 ⟨v1, v2, rfl, hv1, hv2, hb2⟩
      obtain ⟨p2, cap3, rfl, -⟩ := id hv2
      have HV2 := hide hv2
      have HB2 := hide hb2
      clear hv1 hv2 hb2 DV
      go_wp2
      go_roundg (A % gk)
      case measure => exact Nat.mod_lt _ (by omega)
      case rel => exact ⟨gk, q, p2, cap2, cap3, by rw [unhide HNB], rfl, hide ((unhide HB).below (unhide HB2)), HV2, lb, Nat.le_trans (Bg.wd_mono (Nat.mod_le _ _)) la, hide (by rw [← unhide HG, Nat.gcd_comm A gk, Nat.gcd_rec gk A, Nat.gcd_comm]), hide (below_via (unhide HW) (unhide HB2))⟩
    · have h2' : ¬ (2 : Int) < (nb : Int) := by omega
      by_cases h0 : gk = 0
      · subst h0
        have hnb0 : nb = 0 := by rw [hnb, Bg.wd_zero]; rfl
        subst hnb0
        have HXE : Hid (A = Nat.gcd a b) := hide (by have := unhide HG; rwa [Nat.gcd_zero_right] at this)
        rw [← hna, Bg.wd_zero, List.length_nil]
        clear hna hnb
        go_wp2
        go_ret
        rw [← unhide HXE]
        exact ⟨_, rfl, by rw [unhide HNA]; exact unhide HA, unhide HW⟩
      · have hnb1 := wd_pos_len h0
        rw [← hnb] at hnb1
        have g1 : ((nb : Int) == 0) = false := by rw [beq_eq_false_iff_ne]; omega
        have b64 : gk < 18446744073709551616 := wd_len2 (by omega)
        by_cases h3 : 2 < na
        · have h3' : (2 : Int) < (na : Int) := by omega
          have DV := hide (div_any _ _ A gk wr (unhide HA) (unhide HB) la lb h0)
          rw [← hna, ← hnb] at DV ⊢
          rw [← hnb] at HB
          clear hna hnb
          go_wp2_with fail
          refine (unhide DV).mono ?_
          rintro e w2 ⟨v1, v2, rfl, hv1, hv2, hb2⟩
          obtain ⟨p2, cap3, rfl, -⟩ := id hv2
          obtain ⟨R1, hR1⟩ : ∃ R1, R1 = A % gk := ⟨_, rfl⟩
          have HG1 : Hid (Nat.gcd gk R1 = Nat.gcd a b) := hide (by rw [← unhide HG, hR1, Nat.gcd_comm A gk, Nat.gcd_rec gk A, Nat.gcd_comm])
          have HA1 := hide ((unhide HB).below hb2)
          have HB1 := hide hv2
          have HW1 := hide (below_via (unhide HW) hb2)
          have r64 : R1 < 18446744073709551616 := by rw [hR1]; exact Nat.lt_trans (Nat.mod_lt _ (by omega)) b64
          rw [← hR1] at HB1 ⊢
          clear hv1 hv2 hb2 DV hR1
          go_wp2_with fail
          refine (unhide (hide (plain_any _ gk b64 _ (unhide HA1)))).mono ?_
          rintro e x1 ⟨rfl, hx1⟩
          subst x1
          go_wp2_with fail
          refine (unhide (hide (plain_any _ R1 r64 _ (unhide HB1)))).mono ?_
          rintro e x1 ⟨rfl, hx1⟩
          subst x1
          go_wp2_with fail
          go_loopg [9, 10] R1 (fun gk xv yv wx => ∃ x : Nat, xv = .int .u64 (x : Int) ∧ yv = .int .u64 (gk : Int) ∧ x < 18446744073709551616 ∧ gk < 18446744073709551616 ∧ Hid (Nat.gcd x gk = Nat.gcd a b) ∧ Hid (Below w.heap.size w wx))
          case atStart => exact ⟨gk, rfl, rfl, b64, r64, HG1, HW1⟩
          case round =>
            clear HA1 HB1 HG1 HW1
            obtain ⟨x, rfl, rfl, hx64, hy64, HG, HW⟩ := hrel
            by_cases hy0 : gk = 0
            · subst hy0
              have HXE : Hid (x = Nat.gcd a b) := hide (by have := unhide HG; rwa [Nat.gcd_zero_right] at this)
              have WW := hide (words_any x hx64 wr)
              go_wp2_with fail
              refine (unhide WW).mono ?_
              rintro e y1 ⟨v1, rfl, hv1, hb1⟩
              have HV := hide hv1
              have HB := hide hb1
              clear hv1 hb1
              go_wp2
              go_ret
              rw [← unhide HXE]
              exact ⟨_, rfl, unhide HV, below_via (unhide HW) (unhide HB)⟩
            · have hyp : (0 : Int) < (gk : Int) := by omega
              have hyz : ((gk : Int) == 0) = false := by rw [beq_eq_false_iff_ne]; omega
              obtain ⟨R, hR⟩ : ∃ R, R = x % gk := ⟨_, rfl⟩
              have t2 : ((x : Nat) : Int).tmod (gk : Int) = (R : Int) := by rw [hR]; rfl
              have Rlt : R < gk := by rw [hR]; exact Nat.mod_lt _ (by omega)
              have wR : IntKind.u64.wrap (R : Int) = (R : Int) := by rw [IntKind.wrap_u64]; omega
              have HGR : Hid (Nat.gcd gk R = Nat.gcd a b) := hide (by rw [← unhide HG, hR, Nat.gcd_comm x gk, Nat.gcd_rec gk x, Nat.gcd_comm])
              clear hR
              go_wp2_with fail
              go_region
              all_goals
                go_wp2
                go_roundg R
                case measure => exact Rlt
                case rel => exact ⟨gk, by first | rfl | go_num, by first | rfl | go_num, hy64, by omega, HGR, hide (by repeat (first | exact unhide HW | apply Below.drew))⟩
        · have h3' : ¬ (2 : Int) < (na : Int) := by omega
          have a64 : A < 18446744073709551616 := wd_len2 (by omega)
          have HG1 := HG
          have HA1 := HA
          have HB1 := HB
          have HW1 := HW
          rw [← hna, ← hnb]
          rw [← hna] at HA1
          rw [← hnb] at HB1
          clear hna hnb
          go_wp2_with fail
          refine (unhide (hide (plain_any _ A a64 _ (unhide HA1)))).mono ?_
          rintro e x1 ⟨rfl, hx1⟩
          subst x1
          go_wp2_with fail
          refine (unhide (hide (plain_any _ gk b64 _ (unhide HB1)))).mono ?_
          rintro e x1 ⟨rfl, hx1⟩
          subst x1
          go_wp2_with fail
          go_loopg [9, 10] gk (fun gk xv yv wx => ∃ x : Nat, xv = .int .u64 (x : Int) ∧ yv = .int .u64 (gk : Int) ∧ x < 18446744073709551616 ∧ gk < 18446744073709551616 ∧ Hid (Nat.gcd x gk = Nat.gcd a b) ∧ Hid (Below w.heap.size w wx))
          case atStart => exact ⟨A, rfl, rfl, a64, b64, HG1, HW1⟩
          case round =>
            clear HA1 HB1 HG1 HW1
            obtain ⟨x, rfl, rfl, hx64, hy64, HG, HW⟩ := hrel
            by_cases hy0 : gk = 0
            · subst hy0
              have HXE : Hid (x = Nat.gcd a b) := hide (by have := unhide HG; rwa [Nat.gcd_zero_right] at this)
              have WW := hide (words_any x hx64 wr)
              go_wp2_with fail
              refine (unhide WW).mono ?_
              rintro e y1 ⟨v1, rfl, hv1, hb1⟩
              have HV := hide hv1
              have HB := hide hb1
              clear hv1 hb1
              go_wp2
              go_ret
              rw [← unhide HXE]
              exact ⟨_, rfl, unhide HV, below_via (unhide HW) (unhide HB)⟩
            · have hyp : (0 : Int) < (gk : Int) := by omega
              have hyz : ((gk : Int) == 0) = false := by rw [beq_eq_false_iff_ne]; omega
              obtain ⟨R, hR⟩ : ∃ R, R = x % gk := ⟨_, rfl⟩
              have t2 : ((x : Nat) : Int).tmod (gk : Int) = (R : Int) := by rw [hR]; rfl
              have Rlt : R < gk := by rw [hR]; exact Nat.mod_lt _ (by omega)
              have wR : IntKind.u64.wrap (R : Int) = (R : Int) := by rw [IntKind.wrap_u64]; omega
              have HGR : Hid (Nat.gcd gk R = Nat.gcd a b) := hide (by rw [← unhide HG, hR, Nat.gcd_comm x gk, Nat.gcd_rec gk x, Nat.gcd_comm])
              clear hR
              go_wp2_with fail
              go_region
              all_goals
                go_wp2
                go_roundg R
                case measure => exact Rlt
                case rel => exact ⟨gk, by first | rfl | go_num, by first | rfl | go_num, hy64, by omega, HGR, hide (by repeat (first | exact unhide HW | apply Below.drew))⟩
end Go.Proofs.YtbdgngfpofohpaaDoor

/- Walks: QuoRem, Quo of whole numbers. -/
namespace Go.Proofs.YtbdgngfpofohpaaDoor
open Go.RowKit

theorem quo_sign (x y : Int) : (if (decide (x < 0) != decide (y < 0)) = true then -((x.natAbs / y.natAbs : Nat) : Int) else ((x.natAbs / y.natAbs : Nat) : Int)) = x.tdiv y := by
  rcases Int.lt_or_le x 0 with hx | hx <;> rcases Int.lt_or_le y 0 with hy | hy
  · rw [decide_eq_true hx, decide_eq_true hy, if_neg (by decide)]
    obtain ⟨a, rfl⟩ : ∃ a : Nat, x = -(a : Int) := ⟨x.natAbs, by omega⟩
    obtain ⟨b, rfl⟩ : ∃ b : Nat, y = -(b : Int) := ⟨y.natAbs, by omega⟩
    rw [Int.neg_tdiv, Int.tdiv_neg, Int.neg_neg, Int.natAbs_neg, Int.natAbs_neg, Int.natAbs_natCast, Int.natAbs_natCast]
    rfl
  · rw [decide_eq_true hx, decide_eq_false (by omega), if_pos (by decide)]
    obtain ⟨a, rfl⟩ : ∃ a : Nat, x = -(a : Int) := ⟨x.natAbs, by omega⟩
    obtain ⟨b, rfl⟩ : ∃ b : Nat, y = (b : Int) := ⟨y.natAbs, by omega⟩
    rw [Int.neg_tdiv, Int.natAbs_neg, Int.natAbs_natCast, Int.natAbs_natCast]
    rfl
  · rw [decide_eq_false (by omega), decide_eq_true hy, if_pos (by decide)]
    obtain ⟨a, rfl⟩ : ∃ a : Nat, x = (a : Int) := ⟨x.natAbs, by omega⟩
    obtain ⟨b, rfl⟩ : ∃ b : Nat, y = -(b : Int) := ⟨y.natAbs, by omega⟩
    rw [Int.tdiv_neg, Int.natAbs_neg, Int.natAbs_natCast, Int.natAbs_natCast]
    rfl
  · rw [decide_eq_false (by omega), decide_eq_false (by omega), if_neg (by decide)]
    obtain ⟨a, rfl⟩ : ∃ a : Nat, x = (a : Int) := ⟨x.natAbs, by omega⟩
    obtain ⟨b, rfl⟩ : ∃ b : Nat, y = (b : Int) := ⟨y.natAbs, by omega⟩
    rfl
theorem rem_sign (x y : Int) : (if decide (x < 0) = true then -((x.natAbs % y.natAbs : Nat) : Int) else ((x.natAbs % y.natAbs : Nat) : Int)) = x.tmod y := by
  have key : ∀ (a : Nat) (y : Int), (a : Int).tmod y = ((a % y.natAbs : Nat) : Int) := fun a y => by
    rcases Int.lt_or_le y 0 with hy | hy
    · obtain ⟨b, rfl⟩ : ∃ b : Nat, y = -(b : Int) := ⟨y.natAbs, by omega⟩
      rw [Int.tmod_neg, Int.natAbs_neg, Int.natAbs_natCast]
      rfl
    · obtain ⟨b, rfl⟩ : ∃ b : Nat, y = (b : Int) := ⟨y.natAbs, by omega⟩
      rfl
  rcases Int.lt_or_le x 0 with hx | hx
  · rw [decide_eq_true hx, if_pos rfl]
    obtain ⟨a, rfl⟩ : ∃ a : Nat, x = -(a : Int) := ⟨x.natAbs, by omega⟩
    rw [Int.neg_tmod, key, Int.natAbs_neg, Int.natAbs_natCast]
  · rw [decide_eq_false (by omega), if_neg (by decide)]
    obtain ⟨a, rfl⟩ : ∃ a : Nat, x = (a : Int) := ⟨x.natAbs, by omega⟩
    rw [key, Int.natAbs_natCast]
end Go.Proofs.YtbdgngfpofohpaaDoor

/- Walks: Quo, Uint64, Int64, Cmp of whole numbers. -/
namespace Go.Proofs.YtbdgngfpofohpaaDoor
open Go.RowKit

theorem out_new {w wa w1 w' : World} {b o p q : Nat} (h0 : Below w.heap.size w wa) (h1 : Out b o wa w1) (h2 : Out p q w1 w') (hp : w.heap.size ≤ p) (hb : b < w.heap.size) : Out b o w w' := by
  have s1 := h0.size
  have s2 := h1.size
  refine ⟨h2.os.trans (h1.os.trans h0.os), h2.tape.trans (h1.tape.trans h0.tape), h2.output.trans (h1.output.trans h0.output), Nat.le_trans s1 (Nat.le_trans s2 h2.size), fun k hk hkb => ?_, fun c t hc => ?_⟩
  · rw [h2.block k (by omega) (by omega), h1.block k (by omega) hkb, h0.block k hk]
  · obtain ⟨c', g1, g2, g3⟩ := h1.self c t ((h0.block b hb).trans hc)
    exact ⟨c', (h2.block b (by omega) (by omega)).trans g1, g2, g3⟩
theorem ZA.new (w : World) : ZA (w.alloc (.cells #[.bool false, .slice none 0 0] 81)) w.heap.size 0 :=
  ⟨#[.bool false, .slice none 0 0], 81, by show (w.heap.push _)[w.heap.size]? = _; simp, by decide, by simp⟩
end Go.Proofs.YtbdgngfpofohpaaDoor

/- Walks: DivMod of whole numbers. -/
namespace Go.Proofs.YtbdgngfpofohpaaDoor
open Go.RowKit

theorem div_uniq {x y q r : Int} (hy : y ≠ 0) (h : x = y * q + r) (h0 : 0 ≤ r) (h1 : r < (y.natAbs : Int)) : x / y = q ∧ x % y = r := by
  have e : x % y = r := by
    rw [h, Int.mul_add_emod_self_left]
    rcases Int.lt_or_le y 0 with hn | hn
    · have : r % (-y) = r := Int.emod_eq_of_lt h0 (by omega)
      rwa [Int.emod_neg] at this
    · exact Int.emod_eq_of_lt h0 (by omega)
  refine ⟨?_, e⟩
  have g := Int.mul_ediv_add_emod x y
  rw [e, h] at g
  have g2 : y * ((y * q + r) / y) = y * q := by omega
  rw [h]
  exact Int.eq_of_mul_eq_mul_left hy g2
theorem tmod_facts {x y : Int} (hy : y ≠ 0) : x = y * x.tdiv y + x.tmod y ∧ (x.tmod y).natAbs < y.natAbs := by
  refine ⟨(Int.mul_tdiv_add_tmod x y).symm, ?_⟩
  have h := rem_sign x y
  have l : x.natAbs % y.natAbs < y.natAbs := Nat.mod_lt _ (by omega)
  split at h <;> omega
theorem dm_pos {x y : Int} (hy : y ≠ 0) (h : ¬ x.tmod y < 0) : x / y = x.tdiv y ∧ x % y = x.tmod y := by
  obtain ⟨e, l⟩ := tmod_facts (x := x) hy
  exact div_uniq hy e (by omega) (by omega)
theorem dm_neg {x y : Int} (hy : y < 0) (h : x.tmod y < 0) : x / y = x.tdiv y + 1 ∧ x % y = x.tmod y + -y := by
  obtain ⟨e, l⟩ := tmod_facts (x := x) (y := y) (by omega)
  refine div_uniq (by omega) ?_ (by omega) (by omega)
  rw [Int.mul_add]
  omega
theorem dm_neg2 {x y : Int} (hy : 0 < y) (h : x.tmod y < 0) : x / y = x.tdiv y + -1 ∧ x % y = x.tmod y + y := by
  obtain ⟨e, l⟩ := tmod_facts (x := x) (y := y) (by omega)
  refine div_uniq (by omega) ?_ (by omega) (by omega)
  rw [Int.mul_add]
  omega
/-- all but two blocks is as it was -/
structure Bl2 (b m : Nat) (w w' : World) : Prop where
  os : w'.os = w.os
  tape : w'.tape = w.tape
  output : w'.output = w.output
  size : w.heap.size ≤ w'.heap.size
  block : ∀ k, k < w.heap.size → k ≠ b → k ≠ m → w'.heap[k]? = w.heap[k]?
  self : ∀ (k : Nat) c t, w.heap[k]? = some (.cells c t (0, 0)) → ∃ c', w'.heap[k]? = some (.cells c' t (0, 0)) ∧ c'.size = c.size
theorem Out.selfk {b o : Nat} {w w' : World} (h : Out b o w w') : ∀ (k : Nat) c t, w.heap[k]? = some (.cells c t (0, 0)) → ∃ c', w'.heap[k]? = some (.cells c' t (0, 0)) ∧ c'.size = c.size := fun k c t hk => by
  by_cases e : k = b
  · subst e
    obtain ⟨c', h1, h2, _⟩ := h.self c t hk
    exact ⟨c', h1, h2⟩
  · exact ⟨c, (h.block k (Array.getElem?_eq_some_iff.1 hk).1 e).trans hk, rfl⟩
theorem Bl2.of {b m : Nat} {w w' : World} (h : Below w.heap.size w w') : Bl2 b m w w' := ⟨h.os, h.tape, h.output, h.size, fun k hk _ _ => h.block k hk, fun k c _ hk => ⟨c, (h.block k (Array.getElem?_eq_some_iff.1 hk).1).trans hk, rfl⟩⟩
theorem Bl2.out1 {b m o : Nat} {w w' : World} (h : Out b o w w') : Bl2 b m w w' := ⟨h.os, h.tape, h.output, h.size, fun k hk h1 _ => h.block k hk h1, h.selfk⟩
theorem Bl2.out2 {b m o : Nat} {w w' : World} (h : Out m o w w') : Bl2 b m w w' := ⟨h.os, h.tape, h.output, h.size, fun k hk _ h1 => h.block k hk h1, h.selfk⟩
theorem Bl2.trans {b m : Nat} {w1 w2 w3 : World} (h : Bl2 b m w1 w2) (k : Bl2 b m w2 w3) : Bl2 b m w1 w3 :=
  ⟨k.os.trans h.os, k.tape.trans h.tape, k.output.trans h.output, Nat.le_trans h.size k.size, fun i hi h1 h2 => (k.block i (Nat.lt_of_lt_of_le hi h.size) h1 h2).trans (h.block i hi h1 h2), fun i c t hi => by
    obtain ⟨c2, e2, s2⟩ := h.self i c t hi
    obtain ⟨c3, e3, s3⟩ := k.self i c2 t e2
    exact ⟨c3, e3, s3.trans s2⟩⟩
theorem len_small {n : Nat} (h : n < 18446744073709551616) : (Bg.wd n).length ≤ 100000 := Nat.le_trans (Bg.wd_len_le 2 n (by omega)) (by omega)
end Go.Proofs.YtbdgngfpofohpaaDoor

/- Walks: Mod, Cmp of whole numbers. -/
namespace Go.Proofs.YtbdgngfpofohpaaDoor
open Go.RowKit

theorem bl2_new {w wa w' : World} {b m : Nat} (h0 : Below w.heap.size w wa) (h1 : Bl2 b m wa w') (hb : w.heap.size ≤ b) : Bl2 m m w w' := by
  have s1 := h0.size
  refine ⟨h1.os.trans h0.os, h1.tape.trans h0.tape, h1.output.trans h0.output, Nat.le_trans s1 h1.size, fun k hk hk1 _ => ?_, fun k c t hk => ?_⟩
  · rw [h1.block k (by omega) (by omega) hk1, h0.block k hk]
  · exact h1.self k c t ((h0.block k (Array.getElem?_eq_some_iff.1 hk).1).trans hk)

def icmp (x y : Int) : Int := if x < y then -1 else if x = y then 0 else 1
theorem icmp_pos {x y : Int} (hx : 0 ≤ x) (hy : 0 ≤ y) : icmp x y = Bg.cmpN x.natAbs y.natAbs := by
  unfold icmp
  rcases Int.lt_trichotomy x y with h | h | h
  · rw [if_pos h, Bg.cmpN_lt (by omega)]
  · rw [if_neg (by omega), if_pos h, Bg.cmpN_eq (by omega)]
  · rw [if_neg (by omega), if_neg (by omega), Bg.cmpN_gt (by omega)]
theorem icmp_neg {x y : Int} (hx : x < 0) (hy : y < 0) : icmp x y = -Bg.cmpN x.natAbs y.natAbs := by
  unfold icmp
  rcases Int.lt_trichotomy x y with h | h | h
  · rw [if_pos h, Bg.cmpN_gt (by omega)]
  · rw [if_neg (by omega), if_pos h, Bg.cmpN_eq (by omega)]
    rfl
  · rw [if_neg (by omega), if_neg (by omega), Bg.cmpN_lt (by omega)]
    rfl
theorem cmpN_bd (a b : Nat) : -1 ≤ Bg.cmpN a b ∧ Bg.cmpN a b ≤ 1 := by
  unfold Bg.cmpN
  split
  · omega
  · split <;> omega

set_option maxHeartbeats 4000000 in
theorem icmp_any (bx ox b2 oy : Nat) (x y : Int) (w : World) (hx : IA w bx ox x) (hy : IA w b2 oy y) :
    Calls Tryd.prog 62 #[.pointer (some ⟨bx, ox, none⟩), .pointer (some ⟨b2, oy, none⟩)] w fun e w' => e = .returned (.int .i64 (icmp x y)) ∧ Below w.heap.size w w' := by
  obtain ⟨vx, x1, x2⟩ := hx.abs
  obtain ⟨vy, y1, y2⟩ := hy.abs
  obtain ⟨px, cx, rfl, -⟩ := id x2
  obtain ⟨py, cy, rfl, -⟩ := id y2
  have xn := hx.neg
  have yn := hy.neg
  have bxl := hx.place.low
  have CM := hide (fun (wx : World) (hb : Below w.heap.size w wx) => cmp_any _ _ x.natAbs y.natAbs wx (x2.below hb) (y2.below hb))
  have IP := hide (fun h1 h2 => icmp_pos (x := x) (y := y) h1 h2)
  have IN := hide (fun h1 h2 => icmp_neg (x := x) (y := y) h1 h2)
  obtain ⟨c1, c2⟩ := cmpN_bd x.natAbs y.natAbs
  generalize Bg.cmpN x.natAbs y.natAbs = cm at *
  clear x2 y2 hx hy
  go_enter Tryd.func62, Tryd.ntmps62
  by_cases hxn : x < 0
  · rw [decide_eq_true hxn] at xn
    by_cases hyn : y < 0
    · rw [decide_eq_true hyn] at yn
      have HS := hide (unhide IN hxn hyn)
      go_wp2_with fail
      go_region
      all_goals
        go_wp2_with fail
      go_region_with (
        go_at_call 75
        (refine (unhide CM _ ?_).mono ?_; · exact (by repeat (first | exact Below.refl _ _ | apply Below.drew)))
        rintro e w1 ⟨rfl, hb1⟩
        replace hb1 : Below w.heap.size w w1 := below_via (by repeat (first | exact Below.refl _ _ | apply Below.drew)) hb1
        have xn1 := (hb1.cell (p := ⟨bx, ox, none⟩) bxl).trans xn)
      all_goals
        have HB := hide hb1
        clear hb1
        go_wp2
        go_ret
        rw [unhide HS]
        exact ⟨rfl, by repeat (first | exact unhide HB | apply Below.drew)⟩
    · rw [decide_eq_false hyn] at yn
      have HS : Hid (icmp x y = -1) := hide (by unfold icmp; rw [if_pos (by omega)])
      go_wp2_with fail
      go_region
      all_goals
        go_wp2
        go_ret
        rw [unhide HS]
        exact ⟨rfl, by repeat (first | exact Below.refl _ _ | apply Below.drew)⟩
  · rw [decide_eq_false hxn] at xn
    by_cases hyn : y < 0
    · rw [decide_eq_true hyn] at yn
      have HS : Hid (icmp x y = 1) := hide (by unfold icmp; rw [if_neg (by omega), if_neg (by omega)])
      go_wp2_with fail
      go_region
      all_goals
        go_wp2
        go_ret
        rw [unhide HS]
        exact ⟨rfl, by repeat (first | exact Below.refl _ _ | apply Below.drew)⟩
    · rw [decide_eq_false hyn] at yn
      have HS := hide (unhide IP (by omega) (by omega))
      go_wp2_with fail
      go_region
      all_goals
        go_wp2_with fail
      go_region_with (
        go_at_call 75
        (refine (unhide CM _ ?_).mono ?_; · exact (by repeat (first | exact Below.refl _ _ | apply Below.drew)))
        rintro e w1 ⟨rfl, hb1⟩
        replace hb1 : Below w.heap.size w w1 := below_via (by repeat (first | exact Below.refl _ _ | apply Below.drew)) hb1
        have xn1 := (hb1.cell (p := ⟨bx, ox, none⟩) bxl).trans xn)
      all_goals
        have HB := hide hb1
        clear hb1
        go_wp2
        go_ret
        rw [unhide HS]
        exact ⟨rfl, by repeat (first | exact unhide HB | apply Below.drew)⟩
end Go.Proofs.YtbdgngfpofohpaaDoor

/- Ratios in memory; den. -/
namespace Go.Proofs.YtbdgngfpofohpaaDoor
open Go.RowKit

/-- all but one block is as it was; that one has as many cells of its type -/
structure Blk (p : Nat) (w w' : World) : Prop where
  os : w'.os = w.os
  tape : w'.tape = w.tape
  output : w'.output = w.output
  size : w.heap.size ≤ w'.heap.size
  block : ∀ k, k < w.heap.size → k ≠ p → w'.heap[k]? = w.heap[k]?
  self : ∀ c t, w.heap[p]? = some (.cells c t (0, 0)) → ∃ c', w'.heap[p]? = some (.cells c' t (0, 0)) ∧ c'.size = c.size
theorem Blk.refl (p : Nat) (w : World) : Blk p w w := ⟨rfl, rfl, rfl, Nat.le_refl _, fun _ _ _ => rfl, fun c _ h => ⟨c, h, rfl⟩⟩
theorem Blk.trans {p : Nat} {w1 w2 w3 : World} (h : Blk p w1 w2) (k : Blk p w2 w3) : Blk p w1 w3 :=
  ⟨k.os.trans h.os, k.tape.trans h.tape, k.output.trans h.output, Nat.le_trans h.size k.size, fun i hi hb => (k.block i (Nat.lt_of_lt_of_le hi h.size) hb).trans (h.block i hi hb), fun c t hc => by
    obtain ⟨c2, h2, s2⟩ := h.self c t hc
    obtain ⟨c3, h3, s3⟩ := k.self c2 t h2
    exact ⟨c3, h3, s3.trans s2⟩⟩
theorem Blk.of {p : Nat} {w w' : World} (h : Below w.heap.size w w') : Blk p w w' :=
  ⟨h.os, h.tape, h.output, h.size, fun k hk _ => h.block k hk, fun c _ hc => ⟨c, (h.block p (Array.getElem?_eq_some_iff.1 hc).1).trans hc, rfl⟩⟩
theorem Out.blk {p o : Nat} {w w' : World} (h : Out p o w w') : Blk p w w' :=
  ⟨h.os, h.tape, h.output, h.size, h.block, fun c t hc => by
    obtain ⟨c', g1, g2, _⟩ := h.self c t hc
    exact ⟨c', g1, g2⟩⟩
theorem Bl2.blk {p : Nat} {w w' : World} (h : Bl2 p p w w') : Blk p w w' := ⟨h.os, h.tape, h.output, h.size, fun k hk h1 => h.block k hk h1 h1, fun c t hc => h.self p c t hc⟩
theorem Blk.below {p B : Nat} {w w' : World} (h : Blk p w w') (hb : B ≤ p) (hw : B ≤ w.heap.size) : Below B w w' :=
  ⟨h.os, h.tape, h.output, h.size, fun k hk => h.block k (by omega) (by omega)⟩
theorem Blk.kw {p o : Nat} {w w' : World} (h : Blk p w w') (hz : ZA w p o) : KW w w' := fun k cs hk => by
  by_cases e : k = p
  · subst e
    obtain ⟨c, t, h1, h2, _⟩ := hz
    unfold RW at hk
    rw [hk] at h1
    cases h1
    exact absurd rfl h2
  · exact (h.block k hk.low e).trans hk
theorem ZA.blk {w w' : World} {b o p : Nat} (h : ZA w b o) (hb : Blk p w w') : ZA w' b o := by
  have l := h.low
  obtain ⟨c, t, h1, h2, h3⟩ := h
  by_cases e : b = p
  · subst e
    obtain ⟨c', g1, g2⟩ := hb.self c t h1
    exact ⟨c', t, g1, h2, by omega⟩
  · exact ⟨c, t, (hb.block b l e).trans h1, h2, h3⟩
theorem IA.blk {w w' : World} {b o p : Nat} {z : Int} (h : IA w b o z) (hb : Blk p w w') {q : Nat} (hz : ZA w p q) (ne : b ≠ p) : IA w' b o z := by
  have l := h.place.low
  obtain ⟨v, h1, hw⟩ := h.abs
  have key : ∀ i, w'.cell? ⟨b, i, none⟩ = w.cell? ⟨b, i, none⟩ := fun i => World.cell?_of_block (w := w) (hb.block b l ne)
  exact ⟨h.place.blk hb, (key o).trans h.neg, v, (key (o + 1)).trans h1, hw.keep (hb.kw hz)⟩

/-- a ratio in its block: n over d -/
structure RA (w : World) (p : Nat) (n d : Int) : Prop where
  num : IA w p 0 n
  den : IA w p 2 d
  pos : 0 < d
theorem RA.below {w w' : World} {p : Nat} {n d : Int} (h : RA w p n d) (hb : Below w.heap.size w w') : RA w' p n d := ⟨h.num.below hb, h.den.below hb, h.pos⟩
theorem RA.blk {w w' : World} {p b q : Nat} {n d : Int} (h : RA w p n d) (hb : Blk b w w') (hz : ZA w b q) (ne : p ≠ b) : RA w' p n d := ⟨h.num.blk hb hz ne, h.den.blk hb hz ne, h.pos⟩

set_option maxHeartbeats 1000000 in
theorem den_any (p : Nat) (n d : Int) (w : World) (h : RA w p n d) :
    Calls Tryd.prog 61 #[.pointer (some ⟨p, 0, none⟩)] w fun e w' => e = .returned (.pointer (some ⟨p, 2, none⟩)) ∧ w' = w := by
  obtain ⟨v, x1, x2⟩ := h.den.abs
  obtain ⟨q, c, rfl, -⟩ := id x2
  have hl := wd_pos_len (n := d.natAbs) (by have := h.pos; omega)
  have g1 : (((Bg.wd d.natAbs).length : Int) == 0) = false := by rw [beq_eq_false_iff_ne]; omega
  clear x2 h
  go_enter Tryd.func61, Tryd.ntmps61
  go_wp2
  go_ret
  exact ⟨rfl, rfl⟩

theorem ratio_via {n d n1 d1 n' d' : Int} (h1 : d1 ≠ 0) (e1 : n' * d1 = n1 * d') (e2 : n1 * d = n * d1) : n' * d = n * d' := by
  have : d1 * (n' * d) = d1 * (n * d') := by
    have a : d1 * (n' * d) = n' * d1 * d := by grind
    have b : d1 * (n * d') = n * d1 * d' := by grind
    rw [a, b, e1, ← e2]
    grind
  exact Int.eq_of_mul_eq_mul_left h1 this
theorem put_abs {w : World} {p G : Nat} {x y : Int} {q u : Value} (hx : IA w p 0 x) (hy : IA w p 2 y) (hq : WS w q (Bg.wd (x.natAbs / G))) (hu : WS w u (Bg.wd (y.natAbs / G))) (x0 : x ≠ 0) (g0 : 0 < G) (dx : G ∣ x.natAbs) (dy : G ∣ y.natAbs) (hy0 : 0 < y) :
    ∃ n' d' : Int, RA ((w.setCell ⟨p, 1, none⟩ q).setCell ⟨p, 3, none⟩ u) p n' d' ∧ n' * y = x * d' ∧ n'.natAbs ≤ x.natAbs ∧ d'.natAbs ≤ y.natAbs ∧ Blk p w ((w.setCell ⟨p, 1, none⟩ q).setCell ⟨p, 3, none⟩ u) := by
  have O1 : Out p 0 w (w.setCell ⟨p, 1, none⟩ q) := Out.set (.inr rfl)
  have O2 : Out p 2 (w.setCell ⟨p, 1, none⟩ q) ((w.setCell ⟨p, 1, none⟩ q).setCell ⟨p, 3, none⟩ u) := Out.set (.inr rfl)
  obtain ⟨a, ha⟩ := dx
  obtain ⟨b, hb⟩ := dy
  have ea : x.natAbs / G = a := by rw [ha]; exact Nat.mul_div_cancel_left _ g0
  have eb : y.natAbs / G = b := by rw [hb]; exact Nat.mul_div_cancel_left _ g0
  have a0 : a ≠ 0 := fun e => by rw [e, Nat.mul_zero] at ha; omega
  have b0 : b ≠ 0 := fun e => by rw [e, Nat.mul_zero] at hb; omega
  have la : a ≤ x.natAbs := by rw [← ea]; exact Nat.div_le_self _ _
  have lb : b ≤ y.natAbs := by rw [← eb]; exact Nat.div_le_self _ _
  rw [ea] at hq
  rw [eb] at hu
  obtain ⟨v1, c1, _⟩ := hx.abs
  obtain ⟨v3, c3, _⟩ := hy.abs
  have cx := hx.neg
  have cy := hy.neg
  have kw1 := O1.kw hx.place
  have kw2 := O2.kw (hy.place.out O1)
  have hxy : y = (G : Int) * b := by
    have : ((y.natAbs : Nat) : Int) = ((G * b : Nat) : Int) := by rw [hb]
    rw [Int.natCast_mul] at this
    omega
  have key : ∀ n' : Int, (decide (n' < 0) = decide (x < 0)) → n'.natAbs = a → n' * y = x * (b : Int) → ∃ n' d' : Int, RA ((w.setCell ⟨p, 1, none⟩ q).setCell ⟨p, 3, none⟩ u) p n' d' ∧ n' * y = x * d' ∧ n'.natAbs ≤ x.natAbs ∧ d'.natAbs ≤ y.natAbs ∧ Blk p w ((w.setCell ⟨p, 1, none⟩ q).setCell ⟨p, 3, none⟩ u) := fun n' h1 h2 h3 => by
    refine ⟨n', b, ⟨⟨(hx.place.out O1).out O2, ?_, q, ?_, ?_⟩, ⟨(hy.place.out O1).out O2, ?_, u, ?_, ?_⟩, by omega⟩, h3, by omega, by omega, O1.blk.trans O2.blk⟩
    · rw [h1]
      simp [go_sem, cx]
    · simp [go_sem, c1]
    · rw [h2]; exact (hq.keep kw1).keep kw2
    · rw [decide_eq_false (by omega : ¬ y < 0)] at cy
      rw [decide_eq_false (by omega)]
      simp [go_sem, cy]
    · simp [go_sem, c3]
    · rw [Int.natAbs_natCast]; exact (hu.keep kw1).keep kw2
  have hxa : ((x.natAbs : Nat) : Int) = (G : Int) * a := by rw [ha, Int.natCast_mul]
  rcases Int.lt_or_le x 0 with hn | hn
  · refine key (-(a : Int)) (by rw [decide_eq_true hn]; simp; omega) (by omega) ?_
    have hx2 : x = -((G : Int) * a) := by omega
    rw [hx2, hxy]
    grind
  · refine key (a : Int) (by rw [decide_eq_false (by omega), decide_eq_false (by omega)]) (by omega) ?_
    have hx2 : x = (G : Int) * a := by omega
    rw [hx2, hxy]
    grind
theorem Blk.drew {p : Nat} {w w' : World} (h : Blk p w w') : Blk p w w'.drew := h.trans (Blk.of (Below.refl _ _).drew)
end Go.Proofs.YtbdgngfpofohpaaDoor
