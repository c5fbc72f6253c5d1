/- The walk over DecRises, whatever the numbers. -/
import Derived.Test.YthgiepppcpjpaaaL4
import Derived.Test.YthgiepppcpjpaaaL1b
import Derived.Test.YthgiepppcpjpaaaW21
import Derived.Test.YthgiepppcpjpaaaDig4
namespace Dm
def tvV (S y : Int) : Int := V (fC (nearZ S y false) (nE S.natAbs y)) (fE (nearZ S y false) (nE S.natAbs y))
/-- a sum at 10^-80 -/
theorem addS_V {c1 x1 c2 x2 : Int} (h1 : -40 ≤ x1) (h2 : -40 ≤ x2) : tens (addS c1 x1 c2 x2) (min x1 x2 + 80).toNat = tens (V c1 x1 + V c2 x2) 40 := by
  unfold addS
  rw [tens_eq, Int.add_mul, ← tens_eq, ← tens_eq, tens_add, tens_add, tens_eq (V c1 x1 + V c2 x2), Int.add_mul, ← tens_eq, ← tens_eq]
  unfold V
  rw [tens_add, tens_add]
  congr 2 <;> omega
theorem mul_V {c1 x1 c2 x2 : Int} (h1 : -40 ≤ x1) (h2 : -40 ≤ x2) : tens (c1 * c2) (x1 + x2 + 80).toNat = V c1 x1 * V c2 x2 := by
  unfold V
  rw [show (x1 + x2 + 80).toNat = (x1 + 40).toNat + (x2 + 40).toNat by omega, ← tens_add, tens_eq, tens_eq, tens_eq, tens_eq, Int.mul_assoc, Int.mul_assoc, Int.mul_assoc]
  congr 1
  rw [← Int.mul_assoc, ← Int.mul_assoc, Int.mul_comm c2]
theorem V_lt {c x : Int} (h1 : -1000000000000000000 < c) (h2 : c < 1000000000000000000) (hx : -40 ≤ x) (hx2 : x ≤ 40) : (V c x).natAbs < 10 ^ 98 := by
  unfold V
  have e : (tens c (x + 40).toNat).natAbs = c.natAbs * 10 ^ (x + 40).toNat := by
    rcases Int.lt_trichotomy c 0 with g | g | g
    · rw [(tens_abs c _).1 g]; omega
    · subst g; rw [tens_zero]; simp
    · rw [(tens_abs c _).2 (by omega)]; omega
  rw [e]
  have a : c.natAbs * 10 ^ (x + 40).toNat < 10 ^ 18 * 10 ^ (x + 40).toNat := Nat.mul_lt_mul_of_pos_right (by omega) (p10_pos _)
  have b : 10 ^ 18 * 10 ^ (x + 40).toNat ≤ 10 ^ 98 := by rw [← Nat.pow_add]; exact p10_le (by omega)
  omega
theorem tens_natAbs (A : Int) (k : Nat) : (tens A k).natAbs = A.natAbs * 10 ^ k := by
  rcases Int.lt_trichotomy A 0 with g | g | g
  · rw [(tens_abs A k).1 g]; omega
  · subst g; rw [tens_zero]; simp
  · rw [(tens_abs A k).2 (by omega)]; omega
theorem sum_lt {a b : Int} (ha : a.natAbs < 10 ^ 98) (hb : b.natAbs < 10 ^ 98) : (tens (a + b) 40).natAbs < 10 ^ 200 := by
  rw [tens_natAbs]
  have h : (a + b).natAbs < 10 ^ 99 := by
    have : (10 : Nat) ^ 99 = 10 * 10 ^ 98 := p10_succ 98
    have := Int.natAbs_add_le a b
    omega
  have q : (a + b).natAbs * 10 ^ 40 < 10 ^ 99 * 10 ^ 40 := Nat.mul_lt_mul_of_pos_right h (p10_pos _)
  have r : (10 : Nat) ^ 99 * 10 ^ 40 ≤ 10 ^ 200 := by rw [← Nat.pow_add]; exact p10_le (by omega)
  omega
theorem prod_lt {a b : Int} (ha : a.natAbs < 10 ^ 98) (hb : b.natAbs < 10 ^ 98) : (a * b).natAbs < 10 ^ 200 := by
  rw [Int.natAbs_mul]
  have q : a.natAbs * b.natAbs ≤ 10 ^ 98 * 10 ^ 98 := Nat.mul_le_mul (by omega) (by omega)
  have r : (10 : Nat) ^ 98 * 10 ^ 98 < 10 ^ 200 := by rw [← Nat.pow_add]; exact Nat.pow_lt_pow_right (by decide) (by omega)
  omega
/-- what is more stays more -/
theorem told_mono {S1 y1 S2 y2 : Int} (h1 : -80 ≤ y1) (h2 : -80 ≤ y2) (hle : tens S1 (y1 + 80).toNat ≤ tens S2 (y2 + 80).toNat) (l1 : (tens S1 (y1 + 80).toNat).natAbs < 10 ^ 200) (l2 : (tens S2 (y2 + 80).toNat).natAbs < 10 ^ 200)
    (r1 : fR (nearZ S1 y1 false) (nE S1.natAbs y1) = 0) (r2 : fR (nearZ S2 y2 false) (nE S2.natAbs y2) = 0) :
    wrongN (fC (nearZ S1 y1 false) (nE S1.natAbs y1)) (fE (nearZ S1 y1 false) (nE S1.natAbs y1)) = 0 ∧ wrongN (fC (nearZ S2 y2 false) (nE S2.natAbs y2)) (fE (nearZ S2 y2 false) (nE S2.natAbs y2)) = 0 ∧
    sgn (V (fC (nearZ S1 y1 false) (nE S1.natAbs y1)) (fE (nearZ S1 y1 false) (nE S1.natAbs y1)) - V (fC (nearZ S2 y2 false) (nE S2.natAbs y2)) (fE (nearZ S2 y2 false) (nE S2.natAbs y2))) ≤ 0 := by
  obtain ⟨a1, a2⟩ := told_V h1 (by rw [← tens_natAbs]; exact l1) r1
  obtain ⟨b1, b2⟩ := told_V h2 (by rw [← tens_natAbs]; exact l2) r2
  have m := uZ_mono hle l1 l2
  refine ⟨a1, b1, ?_⟩
  rw [a2, b2]
  unfold sgn
  split
  · omega
  · split <;> omega
end Dm
namespace Go.Proofs.Ythgiepppcpjpaaa
open Go.RowKit

theorem rises_ok (c1 x1 c2 x2 c3 x3 : Int) (w : World) (h1 : Dm.wrongN c1 x1 = 0) (h2 : Dm.wrongN c2 x2 = 0) (h3 : Dm.wrongN c3 x3 = 0) :
    Calls Try.prog 5 #[.agg #[.int .i64 c1, .int .i64 x1], .agg #[.int .i64 c2, .int .i64 x2], .agg #[.int .i64 c3, .int .i64 x3]] w fun e w' => e = .returned (.bool true) ∧ Below w.heap.size w w' := by
  obtain ⟨e1, e2, e3, e4, e5⟩ := Dm.wrong_ok h3
  obtain ⟨p1, p2, q1, q2, SW, hp, hq, hV⟩ : ∃ p1 p2 q1 q2 : Int, ((¬ 0 < Dm.sgn (Dm.V c1 x1 - Dm.V c2 x2) ∧ p1 = c1 ∧ p2 = x1 ∧ q1 = c2 ∧ q2 = x2) ∨ (0 < Dm.sgn (Dm.V c1 x1 - Dm.V c2 x2) ∧ p1 = c2 ∧ p2 = x2 ∧ q1 = c1 ∧ q2 = x1)) ∧ Dm.wrongN p1 p2 = 0 ∧ Dm.wrongN q1 q2 = 0 ∧ Dm.V p1 p2 ≤ Dm.V q1 q2 := by
    rcases Dm.sgn_cases (Dm.V c1 x1 - Dm.V c2 x2) with ⟨a, b⟩ | ⟨a, b⟩ | ⟨a, b⟩
    · exact ⟨_, _, _, _, .inl ⟨by omega, rfl, rfl, rfl, rfl⟩, h1, h2, by omega⟩
    · exact ⟨_, _, _, _, .inl ⟨by omega, rfl, rfl, rfl, rfl⟩, h1, h2, by omega⟩
    · exact ⟨_, _, _, _, .inr ⟨by omega, rfl, rfl, rfl, rfl⟩, h2, h1, by omega⟩
  obtain ⟨a1, a2, a3, a4, a5⟩ := Dm.wrong_ok hp
  obtain ⟨b1, b2, b3, b4, b5⟩ := Dm.wrong_ok hq
  obtain ⟨k3, hk, hkw, hkp⟩ : ∃ k3 : Int, ((c3 < 0 ∧ k3 = -c3) ∨ (¬ c3 < 0 ∧ k3 = c3)) ∧ Dm.wrongN k3 x3 = 0 ∧ 0 ≤ k3 := by
    by_cases g : c3 < 0
    · refine ⟨-c3, .inl ⟨g, rfl⟩, ?_, by omega⟩
      have t : ¬ ((-c3).tmod 10 = 0) := fun q => by
        rw [Int.neg_tmod] at q
        have := (e5 (by omega)).1
        omega
      unfold Dm.wrongN
      rw [if_neg (by omega), if_neg (fun q => t q.1)]
    · exact ⟨c3, .inr ⟨g, rfl⟩, h3, by omega⟩
  obtain ⟨k1, k2, _, _, _⟩ := Dm.wrong_ok hkw
  have vp := Dm.V_lt a1 a2 a3 a4
  have vq := Dm.V_lt b1 b2 b3 b4
  have vc := Dm.V_lt e1 e2 e3 e4
  have vk := Dm.V_lt k1 k2 e3 e4
  have vk0 : 0 ≤ Dm.V k3 x3 := by
    rcases Int.lt_trichotomy k3 0 with g | g | g
    · omega
    · rw [g, Dm.V_zero]; omega
    · have := Dm.V_pos g x3; omega
  refine rises_core c1 x1 c2 x2 c3 x3 w h1 h2 h3 _ p1 p2 q1 q2 (fun wx => cmp_ok c1 x1 c2 x2 wx h1 h2) SW _ _ _ _ _ _ (Dm.sgn (Dm.tvV (Dm.addS p1 p2 c3 x3) (min p2 x3) - Dm.tvV (Dm.addS q1 q2 c3 x3) (min q2 x3))) _ _ _ _ _ _ (Dm.sgn (Dm.tvV (p1 * k3) (p2 + x3) - Dm.tvV (q1 * k3) (q2 + x3))) k3
    (fun wx => add_ok p1 p2 c3 x3 wx hp h3) (fun wx => add_ok q1 q2 c3 x3 wx hq h3) (fun r1 r2 => ?_) hk e1 (fun wx => mul_ok p1 p2 k3 x3 wx hp hkw) (fun wx => mul_ok q1 q2 k3 x3 wx hq hkw) (fun r1 r2 => ?_)
  · obtain ⟨m1, m2, m3⟩ := Dm.told_mono (S1 := Dm.addS p1 p2 c3 x3) (y1 := min p2 x3) (S2 := Dm.addS q1 q2 c3 x3) (y2 := min q2 x3) (by omega) (by omega)
      (by rw [Dm.addS_V a3 e3, Dm.addS_V b3 e3]; exact Dm.tens_le_tens (by omega) _) (by rw [Dm.addS_V a3 e3]; exact Dm.sum_lt vp vc) (by rw [Dm.addS_V b3 e3]; exact Dm.sum_lt vq vc) r1 r2
    exact ⟨m3, fun wx => cmp_ok _ _ _ _ wx m1 m2⟩
  · obtain ⟨m1, m2, m3⟩ := Dm.told_mono (S1 := p1 * k3) (y1 := p2 + x3) (S2 := q1 * k3) (y2 := q2 + x3) (by omega) (by omega)
      (by rw [Dm.mul_V a3 e3, Dm.mul_V b3 e3]; exact Int.mul_le_mul_of_nonneg_right hV vk0) (by rw [Dm.mul_V a3 e3]; exact Dm.prod_lt vp vk) (by rw [Dm.mul_V b3 e3]; exact Dm.prod_lt vq vk) r1 r2
    exact ⟨m3, fun wx => cmp_ok _ _ _ _ wx m1 m2⟩

set_option maxHeartbeats 400000 in
theorem rises_a (c1 x1 c2 x2 c3 x3 : Int) (w : World) (h1 : ¬ Dm.wrongN c1 x1 = 0) :
    Calls Try.prog 5 #[.agg #[.int .i64 c1, .int .i64 x1], .agg #[.int .i64 c2, .int .i64 x2], .agg #[.int .i64 c3, .int .i64 x3]] w fun e w' => e = .returned (.bool true) ∧ Below w.heap.size w w' := by
  have n1 := bne_of h1
  clear h1
  go_enter Try.func5, Try.ntmps5
  go_wp2_with fail
  refine (alive_any _).mono ?_
  rintro e w1 ⟨rfl, hb1⟩
  obtain ⟨t0, t1, t2, t3, t4, t5, hw⟩ := boxes3 hb1
  go_wp2_with fail
  refine (wrong_any c1 x1 _).mono ?_
  rintro e w2 ⟨rfl, hb2⟩
  have hb2 := hb1.trans (hb2.mono hb1.size)
  clear hb1 t0 t1 t2 t3 t4 t5 hw
  obtain ⟨t0, t1, t2, t3, t4, t5, hw⟩ := boxes3 hb2
  go_wp2
  go_ret
  exact ⟨rfl, hw⟩

set_option maxHeartbeats 400000 in
theorem rises_b (c1 x1 c2 x2 c3 x3 : Int) (w : World) (h1 : Dm.wrongN c1 x1 = 0) (h2 : ¬ Dm.wrongN c2 x2 = 0) :
    Calls Try.prog 5 #[.agg #[.int .i64 c1, .int .i64 x1], .agg #[.int .i64 c2, .int .i64 x2], .agg #[.int .i64 c3, .int .i64 x3]] w fun e w' => e = .returned (.bool true) ∧ Below w.heap.size w w' := by
  have n1 := bne_of h2
  have H1 := hide h1
  clear h1 h2
  go_enter Try.func5, Try.ntmps5
  go_wp2_with fail
  refine (alive_any _).mono ?_
  rintro e w1 ⟨rfl, hb1⟩
  obtain ⟨t0, t1, t2, t3, t4, t5, hw⟩ := boxes3 hb1
  go_wp2_with fail
  refine (wrong_is c1 x1 _ (unhide H1)).mono ?_
  rintro e w2 ⟨rfl, hb2⟩
  have hb2 := hb1.trans (hb2.mono hb1.size)
  clear hb1 t0 t1 t2 t3 t4 t5 hw
  obtain ⟨t0, t1, t2, t3, t4, t5, hw⟩ := boxes3 hb2
  go_wp2_with fail
  refine (wrong_any c2 x2 _).mono ?_
  rintro e w3 ⟨rfl, hb3⟩
  have hb3 := hb2.trans (hb3.mono hb2.size)
  clear hb2 t0 t1 t2 t3 t4 t5 hw
  obtain ⟨t0, t1, t2, t3, t4, t5, hw⟩ := boxes3 hb3
  go_wp2
  go_ret
  exact ⟨rfl, hw⟩

set_option maxHeartbeats 400000 in
theorem rises_c (c1 x1 c2 x2 c3 x3 : Int) (w : World) (h1 : Dm.wrongN c1 x1 = 0) (h2 : Dm.wrongN c2 x2 = 0) (h3 : ¬ Dm.wrongN c3 x3 = 0) :
    Calls Try.prog 5 #[.agg #[.int .i64 c1, .int .i64 x1], .agg #[.int .i64 c2, .int .i64 x2], .agg #[.int .i64 c3, .int .i64 x3]] w fun e w' => e = .returned (.bool true) ∧ Below w.heap.size w w' := by
  have n1 := bne_of h3
  have H1 := hide h1
  have H2 := hide h2
  clear h1 h2 h3
  go_enter Try.func5, Try.ntmps5
  go_wp2_with fail
  refine (alive_any _).mono ?_
  rintro e w1 ⟨rfl, hb1⟩
  obtain ⟨t0, t1, t2, t3, t4, t5, hw⟩ := boxes3 hb1
  go_wp2_with fail
  refine (wrong_is c1 x1 _ (unhide H1)).mono ?_
  rintro e w2 ⟨rfl, hb2⟩
  have hb2 := hb1.trans (hb2.mono hb1.size)
  clear hb1 t0 t1 t2 t3 t4 t5 hw
  obtain ⟨t0, t1, t2, t3, t4, t5, hw⟩ := boxes3 hb2
  go_wp2_with fail
  refine (wrong_is c2 x2 _ (unhide H2)).mono ?_
  rintro e w3 ⟨rfl, hb3⟩
  have hb3 := hb2.trans (hb3.mono hb2.size)
  clear hb2 t0 t1 t2 t3 t4 t5 hw
  obtain ⟨t0, t1, t2, t3, t4, t5, hw⟩ := boxes3 hb3
  go_wp2_with fail
  refine (wrong_any c3 x3 _).mono ?_
  rintro e w4 ⟨rfl, hb4⟩
  have hb4 := hb3.trans (hb4.mono hb3.size)
  clear hb3 t0 t1 t2 t3 t4 t5 hw
  obtain ⟨t0, t1, t2, t3, t4, t5, hw⟩ := boxes3 hb4
  go_wp2
  go_ret
  exact ⟨rfl, hw⟩

theorem rises_walk (c1 x1 c2 x2 c3 x3 : Int) (w : World) :
    Calls Try.prog 5 #[.agg #[.int .i64 c1, .int .i64 x1], .agg #[.int .i64 c2, .int .i64 x2], .agg #[.int .i64 c3, .int .i64 x3]] w fun e w' => e = .returned (.bool true) ∧ Below w.heap.size w w' := by
  by_cases h1 : Dm.wrongN c1 x1 = 0
  · by_cases h2 : Dm.wrongN c2 x2 = 0
    · by_cases h3 : Dm.wrongN c3 x3 = 0
      · exact rises_ok c1 x1 c2 x2 c3 x3 w h1 h2 h3
      · exact rises_c c1 x1 c2 x2 c3 x3 w h1 h2 h3
    · exact rises_b c1 x1 c2 x2 c3 x3 w h1 h2
  · exact rises_a c1 x1 c2 x2 c3 x3 w h1
end Go.Proofs.Ythgiepppcpjpaaa
