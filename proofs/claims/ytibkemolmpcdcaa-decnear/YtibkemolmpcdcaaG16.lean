/- dec and the document's answer tell the same: Add, Sub, Mul, Div, Cmp. -/
import Derived.Test.YtibkemolmpcdcaaG13
import Derived.Test.YtibkemolmpcdcaaG11
import Derived.Test.YtibkemolmpcdcaaG15
namespace Go.Proofs.Ytibkemolmpcdcaa
open Go.RowKit

def T3 (t1 t2 t3 : Int) : Ending := .returned (.tuple #[.agg #[.int .i64 t1, .int .i64 t2], .int .i64 t3])
theorem p10i_add (a b : Nat) : (10 : Int) ^ a * 10 ^ b = 10 ^ (a + b) := (Int.pow_add 10 a b).symm
theorem tens_lt200 {c : Int} {k : Nat} (h1 : -1000000000000000000 < c) (h2 : c < 1000000000000000000) (hk : k ≤ 100) : (Dm.tens c k).natAbs < 10 ^ 118 := by
  rw [Dm.tens_eq, Int.natAbs_mul, Int.natAbs_pow]
  have a : c.natAbs * 10 ^ k < 10 ^ 18 * 10 ^ k := Nat.mul_lt_mul_of_pos_right (by rw [← e18]; omega) (Dm.p10_pos k)
  have b : 10 ^ 18 * 10 ^ k ≤ 10 ^ 118 := by rw [p10_add]; exact Dm.p10_le (by omega)
  have e : (10 : Int).natAbs ^ k = 10 ^ k := rfl
  rw [e]
  omega
theorem addS_lt {c1 x1 c2 x2 : Int} (a1 : -1000000000000000000 < c1) (a2 : c1 < 1000000000000000000) (a3 : -40 ≤ x1) (a4 : x1 ≤ 40) (b1 : -1000000000000000000 < c2) (b2 : c2 < 1000000000000000000) (b3 : -40 ≤ x2) (b4 : x2 ≤ 40) : (Dm.addS c1 x1 c2 x2).natAbs < 10 ^ 200 := by
  unfold Dm.addS
  have h1 := tens_lt200 (k := (x1 - min x1 x2).toNat) a1 a2 (by omega)
  have h2 := tens_lt200 (k := (x2 - min x1 x2).toNat) b1 b2 (by omega)
  have h3 := Int.natAbs_add_le (Dm.tens c1 (x1 - min x1 x2).toNat) (Dm.tens c2 (x2 - min x1 x2).toNat)
  have h4 : 10 ^ 118 * 10 ≤ 10 ^ 200 := by rw [← Nat.pow_succ]; exact Dm.p10_le (by omega)
  omega
theorem add_ratio {c1 x1 c2 x2 : Int} : (c1 * (10 : Int) ^ x1.toNat * (10 : Int) ^ (-x2).toNat + c2 * (10 : Int) ^ x2.toNat * (10 : Int) ^ (-x1).toNat) * (10 : Int) ^ (-(min x1 x2)).toNat = Dm.addS c1 x1 c2 x2 * (10 : Int) ^ (min x1 x2).toNat * ((10 : Int) ^ (-x1).toNat * (10 : Int) ^ (-x2).toNat) := by
  unfold Dm.addS
  rw [Dm.tens_eq, Dm.tens_eq, Int.add_mul, Int.add_mul, Int.add_mul]
  congr 1
  · simp only [Int.mul_assoc, p10i_add]
    congr 2
    omega
  · simp only [Int.mul_assoc, p10i_add]
    congr 2
    omega

theorem both_add (c1 x1 c2 x2 : Int) : ∃ t1 t2 t3 : Int, (∀ w, Calls Try.prog 6 #[.agg #[.int .i64 c1, .int .i64 x1], .agg #[.int .i64 c2, .int .i64 x2]] w fun e w' => e = T3 t1 t2 t3 ∧ Below w.heap.size w w') ∧ (∀ w, Calls Try.prog 7 #[.int .u8 43, .agg #[.int .i64 c1, .int .i64 x1], .agg #[.int .i64 c2, .int .i64 x2]] w fun e w' => e = T3 t1 t2 t3 ∧ Below w.heap.size w w') := by
  by_cases h : Dm.wrongN c1 x1 = 0 ∧ Dm.wrongN c2 x2 = 0
  · obtain ⟨h1, h2⟩ := h
    obtain ⟨a1, a2, a3, a4, _⟩ := Dm.wrong_ok h1
    obtain ⟨b1, b2, b3, b4, _⟩ := Dm.wrong_ok h2
    refine ⟨_, _, _, fun w => add_ok c1 x1 c2 x2 w h1 h2, fun w => ?_⟩
    refine (do_add c1 x1 c2 x2 w h1 h2 a1 a2 a3 a4 b1 b2 b3 b4).mono ?_
    rintro e w' ⟨rfl, hb⟩
    rw [fit_exact (Int.mul_pos (Int.pow_pos (by decide)) (Int.pow_pos (by decide))) (addS_lt a1 a2 a3 a4 b1 b2 b3 b4) add_ratio]
    exact ⟨rfl, hb⟩
  · have g : (Dm.wrong2 c1 x1 c2 x2 != 0) = true := by
      rw [bne_iff_ne]
      unfold Dm.wrong2
      split
      · rename_i k; exact fun q => h ⟨k, q⟩
      · rename_i k; exact k
    exact ⟨0, 0, _, fun w => add_no c1 x1 c2 x2 w g, fun w => do_no 43 c1 x1 c2 x2 w g⟩

theorem both_sub (c1 x1 c2 x2 : Int) : ∃ t1 t2 t3 : Int, (∀ w, Calls Try.prog 8 #[.agg #[.int .i64 c1, .int .i64 x1], .agg #[.int .i64 c2, .int .i64 x2]] w fun e w' => e = T3 t1 t2 t3 ∧ Below w.heap.size w w') ∧ (∀ w, Calls Try.prog 7 #[.int .u8 45, .agg #[.int .i64 c1, .int .i64 x1], .agg #[.int .i64 c2, .int .i64 x2]] w fun e w' => e = T3 t1 t2 t3 ∧ Below w.heap.size w w') := by
  by_cases h : Dm.wrongN c1 x1 = 0 ∧ Dm.wrongN c2 x2 = 0
  · obtain ⟨h1, h2⟩ := h
    obtain ⟨a1, a2, a3, a4, _⟩ := Dm.wrong_ok h1
    obtain ⟨b1, b2, b3, b4, _⟩ := Dm.wrong_ok h2
    refine ⟨_, _, _, fun w => sub_ok c1 x1 c2 x2 w h1 h2, fun w => ?_⟩
    refine (do_sub c1 x1 c2 x2 w h1 h2 a1 a2 a3 a4 b1 b2 b3 b4).mono ?_
    rintro e w' ⟨rfl, hb⟩
    have k := add_ratio (c1 := c1) (x1 := x1) (c2 := -c2) (x2 := x2)
    rw [Int.neg_mul, Int.neg_mul] at k
    rw [fit_exact (Int.mul_pos (Int.pow_pos (by decide)) (Int.pow_pos (by decide))) (addS_lt a1 a2 a3 a4 (by omega) (by omega) b3 b4) k]
    exact ⟨rfl, hb⟩
  · have g : (Dm.wrong2 c1 x1 c2 x2 != 0) = true := by
      rw [bne_iff_ne]
      unfold Dm.wrong2
      split
      · rename_i k; exact fun q => h ⟨k, q⟩
      · rename_i k; exact k
    exact ⟨0, 0, _, fun w => sub_no c1 x1 c2 x2 w g, fun w => do_no 45 c1 x1 c2 x2 w g⟩

theorem both_mul (c1 x1 c2 x2 : Int) : ∃ t1 t2 t3 : Int, (∀ w, Calls Try.prog 9 #[.agg #[.int .i64 c1, .int .i64 x1], .agg #[.int .i64 c2, .int .i64 x2]] w fun e w' => e = T3 t1 t2 t3 ∧ Below w.heap.size w w') ∧ (∀ w, Calls Try.prog 7 #[.int .u8 42, .agg #[.int .i64 c1, .int .i64 x1], .agg #[.int .i64 c2, .int .i64 x2]] w fun e w' => e = T3 t1 t2 t3 ∧ Below w.heap.size w w') := by
  by_cases h : Dm.wrongN c1 x1 = 0 ∧ Dm.wrongN c2 x2 = 0
  · obtain ⟨h1, h2⟩ := h
    obtain ⟨a1, a2, a3, a4, _⟩ := Dm.wrong_ok h1
    obtain ⟨b1, b2, b3, b4, _⟩ := Dm.wrong_ok h2
    refine ⟨_, _, _, fun w => mul_ok c1 x1 c2 x2 w h1 h2, fun w => ?_⟩
    refine (do_mul c1 x1 c2 x2 w h1 h2 a1 a2 a3 a4 b1 b2 b3 b4).mono ?_
    rintro e w' ⟨rfl, hb⟩
    have lt : (c1 * c2).natAbs < 10 ^ 200 := by
      rw [Int.natAbs_mul]
      have : c1.natAbs * c2.natAbs < 10 ^ 18 * 10 ^ 18 := Nat.mul_lt_mul'' (by rw [← e18]; omega) (by rw [← e18]; omega)
      rw [p10_add] at this
      exact Nat.lt_of_lt_of_le this (Dm.p10_le (by omega))
    rw [fit_exact (S := c1 * c2) (x := x1 + x2) (Int.mul_pos (Int.pow_pos (by decide)) (Int.pow_pos (by decide))) lt (by
      calc c1 * (10 : Int) ^ x1.toNat * (c2 * (10 : Int) ^ x2.toNat) * (10 : Int) ^ (-(x1 + x2)).toNat = c1 * c2 * (10 : Int) ^ (x1.toNat + x2.toNat + (-(x1 + x2)).toNat) := by rw [Int.pow_add, Int.pow_add]; grind
        _ = c1 * c2 * (10 : Int) ^ ((x1 + x2).toNat + (-x1).toNat + (-x2).toNat) := by congr 2; omega
        _ = c1 * c2 * (10 : Int) ^ (x1 + x2).toNat * ((10 : Int) ^ (-x1).toNat * (10 : Int) ^ (-x2).toNat) := by rw [Int.pow_add, Int.pow_add]; grind)]
    exact ⟨rfl, hb⟩
  · have g : (Dm.wrong2 c1 x1 c2 x2 != 0) = true := by
      rw [bne_iff_ne]
      unfold Dm.wrong2
      split
      · rename_i k; exact fun q => h ⟨k, q⟩
      · rename_i k; exact k
    exact ⟨0, 0, _, fun w => dmul_no c1 x1 c2 x2 w g, fun w => do_no 42 c1 x1 c2 x2 w g⟩

theorem both_cmp (c1 x1 c2 x2 : Int) : ∃ k1 k2 : Int, (∀ w, Calls Try.prog 11 #[.agg #[.int .i64 c1, .int .i64 x1], .agg #[.int .i64 c2, .int .i64 x2]] w fun e w' => e = .returned (.tuple #[.int .i64 k1, .int .i64 k2]) ∧ Below w.heap.size w w') ∧ (∀ w, Calls Try.prog 12 #[.agg #[.int .i64 c1, .int .i64 x1], .agg #[.int .i64 c2, .int .i64 x2]] w fun e w' => e = .returned (.tuple #[.int .i64 k1, .int .i64 k2]) ∧ Below w.heap.size w w') := by
  by_cases h : Dm.wrongN c1 x1 = 0 ∧ Dm.wrongN c2 x2 = 0
  · obtain ⟨h1, h2⟩ := h
    obtain ⟨a1, a2, a3, a4, _⟩ := Dm.wrong_ok h1
    obtain ⟨b1, b2, b3, b4, _⟩ := Dm.wrong_ok h2
    refine ⟨_, _, fun w => cmp_ok c1 x1 c2 x2 w h1 h2, fun w => ?_⟩
    refine (rcmpd_ok c1 x1 c2 x2 w h1 h2 a1 a2 a3 a4 b1 b2 b3 b4).mono ?_
    rintro e w' ⟨rfl, hb⟩
    rw [cmp_same a3 b3]
    exact ⟨rfl, hb⟩
  · have g : (Dm.wrong2 c1 x1 c2 x2 != 0) = true := by
      rw [bne_iff_ne]
      unfold Dm.wrong2
      split
      · rename_i k; exact fun q => h ⟨k, q⟩
      · rename_i k; exact k
    exact ⟨0, _, fun w => cmp_no c1 x1 c2 x2 w g, fun w => rcmpd_no c1 x1 c2 x2 w g⟩

theorem quot_ratio (a b : Nat) (x1 x2 : Int) : a * 10 ^ x1.toNat * 10 ^ (-x2).toNat * b * 10 ^ (-(x1 - x2)).toNat = a * 10 ^ (x1 - x2).toNat * (10 ^ (-x1).toNat * (b * 10 ^ x2.toNat)) := by
  calc a * 10 ^ x1.toNat * 10 ^ (-x2).toNat * b * 10 ^ (-(x1 - x2)).toNat = a * b * 10 ^ (x1.toNat + (-x2).toNat + (-(x1 - x2)).toNat) := by rw [Nat.pow_add, Nat.pow_add]; grind
    _ = a * b * 10 ^ ((x1 - x2).toNat + (-x1).toNat + x2.toNat) := by congr 2; omega
    _ = a * 10 ^ (x1 - x2).toNat * (10 ^ (-x1).toNat * (b * 10 ^ x2.toNat)) := by rw [Nat.pow_add, Nat.pow_add]; grind

theorem both_div (c1 x1 c2 x2 : Int) : ∃ t1 t2 t3 : Int, (∀ w, Calls Try.prog 10 #[.agg #[.int .i64 c1, .int .i64 x1], .agg #[.int .i64 c2, .int .i64 x2]] w fun e w' => e = T3 t1 t2 t3 ∧ Below w.heap.size w w') ∧ (∀ w, Calls Try.prog 7 #[.int .u8 47, .agg #[.int .i64 c1, .int .i64 x1], .agg #[.int .i64 c2, .int .i64 x2]] w fun e w' => e = T3 t1 t2 t3 ∧ Below w.heap.size w w') := by
  by_cases h : Dm.wrongN c1 x1 = 0 ∧ Dm.wrongN c2 x2 = 0
  · obtain ⟨h1, h2⟩ := h
    obtain ⟨a1, a2, a3, a4, _⟩ := Dm.wrong_ok h1
    obtain ⟨b1, b2, b3, b4, _⟩ := Dm.wrong_ok h2
    by_cases h0 : c2 = 0
    · refine ⟨0, 0, 10, fun w => ?_, fun w => do_zero c1 x1 c2 x2 w h1 h2 a1 a2 a3 a4 b1 b2 b3 b4 h0⟩
      subst h0
      exact div_zero c1 x1 x2 w h1 h2
    · have key : ∀ w, Calls Try.prog 10 #[.agg #[.int .i64 c1, .int .i64 x1], .agg #[.int .i64 c2, .int .i64 x2]] w fun e w' => e = toldB (!(decide (c1 < 0) == decide (c2 < 0))) (c1.natAbs * 10 ^ 40 / c2.natAbs) (x1 - x2 - 40) (decide (c1.natAbs * 10 ^ 40 % c2.natAbs ≠ 0)) ∧ Below w.heap.size w w' := fun w => by
        refine (div_ok c1 x1 c2 x2 w h1 h2 h0).mono ?_
        rintro e w' ⟨r, rfl, rfl, hb⟩
        refine ⟨?_, hb⟩
        congr 1
        generalize c1.natAbs * 10 ^ 40 % c2.natAbs = r
        by_cases hr : r = 0
        · subst hr; rfl
        · rw [decide_eq_true hr, bne_iff_ne]; omega
      refine ⟨_, _, _, fun w => key w, fun w => ?_⟩
      have quot := fit_quot (A := c1.natAbs * 10 ^ x1.toNat * 10 ^ (-x2).toNat) (B := 10 ^ (-x1).toNat * (c2.natAbs * 10 ^ x2.toNat)) (C1 := c1.natAbs) (C2 := c2.natAbs) (y := x1 - x2) (!(decide (c1 < 0) == decide (c2 < 0))) (Nat.mul_pos (Dm.p10_pos _) (Nat.mul_pos (by omega) (Dm.p10_pos _))) (by omega) (by omega) (by omega) (quot_ratio c1.natAbs c2.natAbs x1 x2)
      have eA : ∀ c : Int, Dm.sg (decide (c < 0)) (c.natAbs * 10 ^ x1.toNat * 10 ^ (-x2).toNat) = c * (10 : Int) ^ x1.toNat * (10 : Int) ^ (-x2).toNat := fun c => by
        have e := sg_self c
        have m : ∀ (b : Bool) (n p : Nat), Dm.sg b (n * p) = Dm.sg b n * (p : Int) := fun b n p => by
          unfold Dm.sg
          cases b
          · simp
          · simp [Int.neg_mul]
        rw [m, m, e]
        simp
      have dpos : (0 : Int) < ((10 ^ (-x1).toNat * (c2.natAbs * 10 ^ x2.toNat) : Nat) : Int) := by
        have := Nat.mul_pos (Dm.p10_pos (-x1).toNat) (Nat.mul_pos (show 0 < c2.natAbs by omega) (Dm.p10_pos x2.toNat))
        omega
      have dcast : ((10 ^ (-x1).toNat * (c2.natAbs * 10 ^ x2.toNat) : Nat) : Int) = (10 : Int) ^ (-x1).toNat * ((c2.natAbs : Int) * (10 : Int) ^ x2.toNat) := by simp
      refine (do_div c1 x1 c2 x2 w h1 h2 a1 a2 a3 a4 b1 b2 b3 b4 (Dm.sg (!(decide (c1 < 0) == decide (c2 < 0))) (c1.natAbs * 10 ^ x1.toNat * 10 ^ (-x2).toNat)) ((10 ^ (-x1).toNat * (c2.natAbs * 10 ^ x2.toNat) : Nat) : Int) h0 ?_ dpos).mono ?_
      · rw [dcast]
        rcases Int.lt_or_le c2 0 with g | g
        · right
          have s2 : (!(decide (c1 < 0) == decide (c2 < 0))) = !(decide (c1 < 0)) := by rw [decide_eq_true g]; cases decide (c1 < 0) <;> rfl
          refine ⟨?_, ?_⟩
          · rw [s2, ← eA c1]
            unfold Dm.sg
            cases decide (c1 < 0) <;> simp
          · rw [show ((c2.natAbs : Nat) : Int) = -c2 by omega, Int.neg_mul, Int.mul_neg]
        · left
          have s2 : (!(decide (c1 < 0) == decide (c2 < 0))) = decide (c1 < 0) := by rw [decide_eq_false (show ¬ c2 < 0 by omega)]; cases decide (c1 < 0) <;> rfl
          refine ⟨?_, ?_⟩
          · rw [s2, eA c1]
          · rw [show ((c2.natAbs : Nat) : Int) = c2 by omega]
      · rintro e w' ⟨rfl, hb⟩
        rw [quot]
        exact ⟨rfl, hb⟩
  · have g : (Dm.wrong2 c1 x1 c2 x2 != 0) = true := by
      rw [bne_iff_ne]
      unfold Dm.wrong2
      split
      · rename_i k; exact fun q => h ⟨k, q⟩
      · rename_i k; exact k
    exact ⟨0, 0, _, fun w => div_no c1 x1 c2 x2 w g, fun w => do_no 47 c1 x1 c2 x2 w g⟩
end Go.Proofs.Ytibkemolmpcdcaa

/- Plain: what is cut. -/
namespace Go.Proofs.Ytibkemolmpcdcaa

theorem f_shift {q y : Int} {s : Nat} (hl : (Dm.tens q s).natAbs ≤ 1000000000000000000) : (Dm.fC (Dm.tens q s) (y - s), Dm.fE (Dm.tens q s) (y - s), Dm.fR (Dm.tens q s) (y - s)) = (Dm.fC q y, Dm.fE q y, Dm.fR q y) := by
  have ha : (Dm.tens q s).natAbs = q.natAbs * 10 ^ s := by rw [Dm.tens_eq, Int.natAbs_mul, Int.natAbs_pow]; rfl
  by_cases h0 : q = 0
  · subst h0
    have e : Dm.tens 0 s = 0 := by rw [Dm.tens_eq, Int.zero_mul]
    rw [e]
    simp [Dm.fC, Dm.fE, Dm.fR]
  · have p := Dm.p10_pos s
    have lq : q.natAbs * 1 ≤ q.natAbs * 10 ^ s := Nat.mul_le_mul_left _ p
    obtain ⟨a, b⟩ := Dm.tz_of h0 (by omega)
    have e : Dm.tens q s = Dm.tens (Dm.tc q) (Dm.tz q + s) := by
      rw [← Dm.tens_add, ← a]
    obtain ⟨c, d⟩ := Dm.tz_at e b (by omega)
    have n0 : ¬ Dm.tens q s = 0 := fun g => by
      rw [g] at ha
      have : 0 < q.natAbs * 10 ^ s := Nat.mul_pos (by omega) p
      omega
    unfold Dm.fC Dm.fE Dm.fR
    rw [c, d]
    simp only [if_neg h0, if_neg n0]
    have g : y - (s : Int) + ((Dm.tz q + s : Nat) : Int) = y + (Dm.tz q : Int) := by omega
    rw [g]
theorem fit_small {N D q y : Int} (hD : 0 < D) (hq : q.natAbs < 1000000000000000000) (hy : -40 ≤ y) (h : N * (10 : Int) ^ (-y).toNat = q * (10 : Int) ^ y.toNat * D) : fitT N D = (Dm.fC q y, Dm.fE q y, Dm.fR q y) := by
  have l200 : q.natAbs < 10 ^ 200 := by
    have : 10 ^ 18 ≤ 10 ^ 200 := Dm.p10_le (by omega)
    rw [← e18] at this
    omega
  rw [fit_exact hD l200 h]
  have nd18 : Dm.nd q.natAbs ≤ 18 := by
    by_cases z : q.natAbs = 0
    · rw [z, Dm.nd_zero]; omega
    · obtain ⟨a, _, c, _⟩ := Dm.nd_spec (N := q.natAbs) (by omega) l200
      have : 10 ^ (Dm.nd q.natAbs - 1) < 10 ^ 18 := by rw [← e18]; omega
      have := Dm.p10_lt this
      omega
  obtain ⟨s, hs⟩ : ∃ s : Nat, y - Dm.nE q.natAbs y = (s : Int) := ⟨(y - Dm.nE q.natAbs y).toNat, by unfold Dm.nE; omega⟩
  have hE : Dm.nE q.natAbs y = y - (s : Int) := by omega
  have hz : Dm.nearZ q y false = Dm.tens q s := by
    unfold Dm.nearZ Dm.nQ Dm.sc
    rw [hs, if_pos (by omega), Int.toNat_natCast]
    exact Dm.sg_tens s 0 rfl
  rw [hz, hE]
  refine f_shift ?_
  have ha : (Dm.tens q s).natAbs = q.natAbs * 10 ^ s := by rw [Dm.tens_eq, Int.natAbs_mul, Int.natAbs_pow]; rfl
  rw [ha]
  by_cases z : q.natAbs = 0
  · rw [z]; omega
  · obtain ⟨a, _, _, d⟩ := Dm.nd_spec (N := q.natAbs) (by omega) l200
    have : q.natAbs * 10 ^ s < 10 ^ Dm.nd q.natAbs * 10 ^ s := Nat.mul_lt_mul_of_pos_right d (Dm.p10_pos s)
    rw [p10_add] at this
    have l : 10 ^ (Dm.nd q.natAbs + s) ≤ 10 ^ 18 := Dm.p10_le (by unfold Dm.nE at hs; omega)
    rw [← e18] at l
    omega
theorem told_self {c x : Int} (h : Dm.wrongN c x = 0) : (Dm.fC c x, Dm.fE c x, Dm.fR c x) = (c, x, 0) := by
  obtain ⟨a1, a2, a3, a4, a5⟩ := Dm.wrong_ok h
  by_cases h0 : c = 0
  · subst h0
    have hx : x = 0 := (a5 rfl).2
    subst hx
    simp [Dm.fC, Dm.fE, Dm.fR]
  · obtain ⟨t1, t2⟩ := Dm.tz_at (c := c) (m := c) (k := 0) rfl (fun g => h0 (a5 g).1) (by omega)
    unfold Dm.fC Dm.fE Dm.fR
    rw [t1, t2]
    simp only [if_neg h0]
    have g : ¬ 40 < x + ((0 : Nat) : Int) := by omega
    simp only [if_neg g]
    simp
theorem nr_exact (M : Int) {D : Int} (hD : 0 < D) : Dm.nr (M * D) D = M ∧ M * D / D = M := by
  have e1 : M * D / D = M := Int.mul_ediv_cancel M (by omega)
  have e2 : M * D % D = 0 := Int.mul_emod_left M D
  refine ⟨?_, e1⟩
  unfold Dm.nr
  rw [e1, e2, if_neg (by omega)]
/-- where nothing is dropped -/
theorem whole_ratio {c x p : Int} (hx : -p ≤ x) : c * (10 : Int) ^ x.toNat * (10 : Int) ^ p.toNat = c * (10 : Int) ^ (x + p).toNat * ((10 : Int) ^ (-x).toNat * (10 : Int) ^ (-p).toNat) := by
  simp only [Int.mul_assoc, p10i_add]
  congr 2
  omega
theorem whole_back {c x p : Int} (hx : -p ≤ x) : c * (10 : Int) ^ (x + p).toNat * (10 : Int) ^ (-p).toNat * (10 : Int) ^ (-x).toNat = c * (10 : Int) ^ x.toNat * (10 : Int) ^ (- -p).toNat := by
  simp only [Int.mul_assoc, p10i_add]
  congr 2
  omega
theorem same_told {c x p : Int} (h : Dm.wrongN c x = 0) (hx : -p ≤ x) : fitT (c * (10 : Int) ^ (x + p).toNat * (10 : Int) ^ (-p).toNat) ((10 : Int) ^ (- -p).toNat) = (c, x, 0) := by
  obtain ⟨a1, a2, a3, a4, a5⟩ := Dm.wrong_ok h
  rw [fit_small (q := c) (y := x) (Int.pow_pos (by decide)) (by omega) a3 (whole_back hx), told_self h]
theorem unit_told {q p : Int} (hq : q.natAbs < 1000000000000000000) (hp : p ≤ 40) : fitT (q * (10 : Int) ^ (-p).toNat) ((10 : Int) ^ (- -p).toNat) = (Dm.fC q (-p), Dm.fE q (-p), Dm.fR q (-p)) :=
  fit_small (q := q) (y := -p) (Int.pow_pos (by decide)) hq (by omega) rfl
theorem near_some {c x p : Int} : Dm.nr (c * (10 : Int) ^ x.toNat * (10 : Int) ^ p.toNat) ((10 : Int) ^ (-x).toNat * (10 : Int) ^ (-p).toNat) = Dm.sg (decide (c < 0)) (Dm.sc c.natAbs (x - -p) false) := by
  have e := rnd_sc (A := c.natAbs * 10 ^ x.toNat) (B := 10 ^ (-x).toNat) (S := c.natAbs) (x := x) (e := -p) (Dm.p10_pos _) rfl
  rw [show (- -p).toNat = p.toNat by congr 1; omega] at e
  rw [← e, ← Dm.nr_sg _ _ _ (Nat.mul_pos (Dm.p10_pos _) (Dm.p10_pos _))]
  have m : ∀ (b : Bool) (n k : Nat), Dm.sg b (n * k) = Dm.sg b n * (k : Int) := fun b n k => by
    unfold Dm.sg
    cases b
    · simp
    · simp [Int.neg_mul]
  rw [m, m, sg_self]
  simp
theorem near_lt {c x p : Int} (a1 : -1000000000000000000 < c) (a2 : c < 1000000000000000000) (hx : x < -p) : (Dm.sg (decide (c < 0)) (Dm.sc c.natAbs (x - -p) false)).natAbs < 1000000000000000000 := by
  rw [Dm.sg_abs]
  unfold Dm.sc
  rw [if_neg (by omega)]
  obtain ⟨k, hk⟩ : ∃ k, (-(x - -p)).toNat = k + 1 := ⟨(-(x - -p)).toNat - 1, by omega⟩
  rw [hk]
  have p1 := Dm.p10_pos k
  have hd : c.natAbs / 10 ^ (k + 1) ≤ c.natAbs / 10 := by
    rw [Nat.pow_succ, Nat.mul_comm, ← Nat.div_div_eq_div_mul]
    exact Nat.div_le_self _ _
  unfold Dm.rnd
  split <;> omega
theorem not_tens {c m : Int} {k : Nat} (hk : 1 ≤ k) (h : c.tmod 10 ≠ 0) : c ≠ Dm.tens m k := fun e => h (by
  obtain ⟨j, rfl⟩ : ∃ j, k = j + 1 := ⟨k - 1, by omega⟩
  rw [e, Dm.tens]
  exact Int.mul_tmod_left _ _)
theorem fl_is {c : Int} {k : Nat} (h0 : c ≠ 0) (hk : 1 ≤ k) (h : c.tmod 10 ≠ 0) : c / (10 : Int) ^ k = Dm.flW c k ∧ -(-c / (10 : Int) ^ k) = Dm.ceW c k := by
  obtain ⟨a, b, d⟩ := Dm.fl_spec h0 k
  have n1 := not_tens (m := Dm.ceW c k) hk h
  have n2 := not_tens (m := Dm.flW c k) hk h
  rw [Dm.tens_eq] at b d n1 n2
  have pp : (0 : Int) < (10 : Int) ^ k := Int.pow_pos (by decide)
  rw [a, Int.add_mul, Int.one_mul] at d n1
  generalize (10 : Int) ^ k = P at *
  generalize Dm.flW c k = f at *
  generalize hg : f * P = g at *
  have hg2 : P * f = g := by rw [Int.mul_comm]; exact hg
  obtain ⟨u, -⟩ := div_uniq (x := c) (y := P) (q := f) (r := c - g) (by omega) (by omega) (by omega) (by omega)
  obtain ⟨v, -⟩ := div_uniq (x := -c) (y := P) (q := -(f + 1)) (r := g + P - c) (by omega) (by rw [Int.mul_neg, Int.mul_add, Int.mul_one]; omega) (by omega) (by omega)
  refine ⟨u, ?_⟩
  rw [v, a]
  omega
end Go.Proofs.Ytibkemolmpcdcaa

/- Plain: what is told is near: within half a unit of the eighteenth digit. -/
namespace Go.Proofs.Ytibkemolmpcdcaa

/-- Q in units of 10^E is near to N over D, E being the least unit of eighteen digits -/
structure Near (N D Q E : Int) : Prop where
  lo : -40 ≤ E
  hi : E ≤ 100
  half : 2 * (Q * (10 : Int) ^ (E + 40).toNat * D - N * (10 : Int) ^ 40).natAbs ≤ ((10 : Int) ^ (E + 40).toNat * D).natAbs
  small : N.natAbs * 10 ^ 40 < 10 ^ (E + 58).toNat * D.natAbs
  least : -40 < E → 10 ^ (E + 57).toNat * D.natAbs ≤ N.natAbs * 10 ^ 40
  q18 : Q.natAbs ≤ 1000000000000000000
theorem nr_half (N : Int) {D : Int} (hD : 0 < D) : 2 * (Dm.nr N D * D - N).natAbs ≤ D.natAbs := by
  have h1 := Int.mul_ediv_add_emod N D
  have h2 := Int.emod_nonneg N (show D ≠ 0 by omega)
  have h3 := Int.emod_lt_of_pos N hD
  unfold Dm.nr
  generalize hq : N / D = q at *
  generalize hr : N % D = r at *
  have e : q * D = N - r := by rw [Int.mul_comm]; omega
  split
  · rw [Int.add_mul, Int.one_mul, e]; omega
  · rw [e]; omega
theorem gq_half {N D E Q : Int} (hD : 0 < D) (lo : -40 ≤ E) (hQ : gq N D E = Q) : 2 * (Q * (10 : Int) ^ (E + 40).toNat * D - N * (10 : Int) ^ 40).natAbs ≤ ((10 : Int) ^ (E + 40).toNat * D).natAbs := by
  have pp : (0 : Int) < D * (10 : Int) ^ E.toNat := Int.mul_pos hD (Int.pow_pos (by decide))
  have h := nr_half (N * (10 : Int) ^ (-E).toNat) pp
  have hQ' : Dm.nr (N * (10 : Int) ^ (-E).toNat) (D * (10 : Int) ^ E.toNat) = Q := hQ
  rw [hQ'] at h
  obtain ⟨k, hk⟩ : ∃ k : Nat, (-E).toNat + k = 40 := ⟨40 - (-E).toNat, by omega⟩
  have hk2 : E.toNat + k = (E + 40).toNat := by omega
  have e1 : Q * (10 : Int) ^ (E + 40).toNat * D - N * (10 : Int) ^ 40 = (Q * (D * (10 : Int) ^ E.toNat) - N * (10 : Int) ^ (-E).toNat) * (10 : Int) ^ k := by
    rw [← hk2, show (10 : Int) ^ 40 = (10 : Int) ^ ((-E).toNat + k) by rw [hk], Int.pow_add, Int.pow_add]
    grind
  have e2 : (10 : Int) ^ (E + 40).toNat * D = D * (10 : Int) ^ E.toNat * (10 : Int) ^ k := by
    rw [← hk2, Int.pow_add]
    grind
  rw [e1, e2, Int.natAbs_mul, Int.natAbs_mul _ ((10 : Int) ^ k), ← Nat.mul_assoc]
  exact Nat.mul_le_mul_right _ h
theorem near_zero {D : Int} (hD : 0 < D) : Near 0 D 0 (-40) := by
  refine ⟨by omega, by omega, by simp, ?_, fun h => by omega, by decide⟩
  simp
  omega
theorem near_exact {N D S x : Int} (hD : 0 < D) (h0 : S ≠ 0) (hS : S.natAbs < 10 ^ 100) (hx1 : -100 ≤ x) (hv : S.natAbs * 10 ^ x.toNat < 10 ^ 118) (h : N * (10 : Int) ^ (-x).toNat = S * (10 : Int) ^ x.toNat * D) : Near N D (Dm.nearZ S x false) (Dm.nE S.natAbs x) := by
  have hn : N.natAbs * 10 ^ (-x).toNat = S.natAbs * 10 ^ x.toNat * D.natAbs := by
    have := congrArg Int.natAbs h
    rw [Int.natAbs_mul, Int.natAbs_mul, Int.natAbs_mul, Int.natAbs_pow, Int.natAbs_pow] at this
    exact this
  have l200 : S.natAbs < 10 ^ 200 := Nat.lt_of_lt_of_le hS (Dm.p10_le (by omega))
  obtain ⟨n1, n2, n3, n4⟩ := Dm.nd_spec (N := S.natAbs) (by omega) l200
  have nd100 : Dm.nd S.natAbs ≤ 100 := by
    have : 10 ^ (Dm.nd S.natAbs - 1) < 10 ^ 100 := Nat.lt_of_le_of_lt n3 hS
    have := Dm.p10_lt this
    omega
  have ndx : Dm.nd S.natAbs + x ≤ 118 := by
    have a : 10 ^ (Dm.nd S.natAbs - 1) * 10 ^ x.toNat ≤ S.natAbs * 10 ^ x.toNat := Nat.mul_le_mul_right _ n3
    rw [p10_add] at a
    have := Dm.p10_lt (Nat.lt_of_le_of_lt a hv)
    omega
  have lo : -40 ≤ Dm.nE S.natAbs x := by unfold Dm.nE; omega
  have ge : x + Dm.nd S.natAbs - 18 ≤ Dm.nE S.natAbs x := by unfold Dm.nE; omega
  have hi : Dm.nE S.natAbs x ≤ 100 := by unfold Dm.nE; omega
  have hB : 0 < D.natAbs := by omega
  have pos : 0 < 10 ^ (-x).toNat := Dm.p10_pos _
  have key : N.natAbs * 10 ^ 40 * 10 ^ (-x).toNat = S.natAbs * 10 ^ (x.toNat + 40) * D.natAbs := by
    calc N.natAbs * 10 ^ 40 * 10 ^ (-x).toNat = (N.natAbs * 10 ^ (-x).toNat) * 10 ^ 40 := by grind
      _ = S.natAbs * 10 ^ (x.toNat + 40) * D.natAbs := by rw [hn, Nat.pow_add]; grind
  refine ⟨lo, hi, gq_half hD lo ?_, ?_, fun hE => ?_, ?_⟩
  · have hsign : decide (N < 0) = decide (S < 0) := by
      have p1 : (0 : Int) < 10 ^ (-x).toNat := Int.pow_pos (by decide)
      have p2 : (0 : Int) < 10 ^ x.toNat := Int.pow_pos (by decide)
      have k1 : (N * (10 : Int) ^ (-x).toNat < 0) ↔ N < 0 := by
        constructor
        · intro g
          rcases Int.lt_or_le N 0 with k | k
          · exact k
          · have := Int.mul_nonneg k (Int.le_of_lt p1); omega
        · intro g; exact Int.mul_neg_of_neg_of_pos g p1
      have k2 : (S * (10 : Int) ^ x.toNat * D < 0) ↔ S < 0 := by
        constructor
        · intro g
          rcases Int.lt_or_le S 0 with k | k
          · exact k
          · have := Int.mul_nonneg (Int.mul_nonneg k (Int.le_of_lt p2)) (Int.le_of_lt hD); omega
        · intro g; exact Int.mul_neg_of_neg_of_pos (Int.mul_neg_of_neg_of_pos g p2) hD
      rw [h] at k1
      exact decide_eq_decide.2 (k1.symm.trans k2)
    have e1 : N = Dm.sg (decide (S < 0)) N.natAbs := by rw [← hsign]; exact (sg_self N).symm
    have e2 : D = ((D.natAbs : Nat) : Int) := by omega
    have e3 := gq_sg (decide (S < 0)) N.natAbs D.natAbs hB (Dm.nE S.natAbs x)
    rw [← e1, ← e2, rnd_sc hB hn] at e3
    exact e3
  · apply Nat.lt_of_mul_lt_mul_right (a := 10 ^ (-x).toNat)
    rw [key]
    have a : S.natAbs * 10 ^ (x.toNat + 40) < 10 ^ Dm.nd S.natAbs * 10 ^ (x.toNat + 40) := Nat.mul_lt_mul_of_pos_right n4 (Dm.p10_pos _)
    rw [p10_add] at a
    have b : 10 ^ (Dm.nd S.natAbs + (x.toNat + 40)) ≤ 10 ^ ((Dm.nE S.natAbs x + 58).toNat + (-x).toNat) := Dm.p10_le (by omega)
    have c : S.natAbs * 10 ^ (x.toNat + 40) * D.natAbs < 10 ^ ((Dm.nE S.natAbs x + 58).toNat + (-x).toNat) * D.natAbs := Nat.mul_lt_mul_of_pos_right (Nat.lt_of_lt_of_le a b) hB
    calc S.natAbs * 10 ^ (x.toNat + 40) * D.natAbs < 10 ^ ((Dm.nE S.natAbs x + 58).toNat + (-x).toNat) * D.natAbs := c
      _ = 10 ^ (Dm.nE S.natAbs x + 58).toNat * D.natAbs * 10 ^ (-x).toNat := by rw [Nat.pow_add]; grind
  · have hx : Dm.nE S.natAbs x = x + Dm.nd S.natAbs - 18 := by unfold Dm.nE at *; omega
    apply Nat.le_of_mul_le_mul_right _ pos
    rw [key]
    have a : 10 ^ (Dm.nd S.natAbs - 1) * 10 ^ (x.toNat + 40) ≤ S.natAbs * 10 ^ (x.toNat + 40) := Nat.mul_le_mul_right _ n3
    rw [p10_add] at a
    have b : 10 ^ ((Dm.nE S.natAbs x + 57).toNat + (-x).toNat) ≤ 10 ^ (Dm.nd S.natAbs - 1 + (x.toNat + 40)) := Dm.p10_le (by omega)
    calc 10 ^ (Dm.nE S.natAbs x + 57).toNat * D.natAbs * 10 ^ (-x).toNat = 10 ^ ((Dm.nE S.natAbs x + 57).toNat + (-x).toNat) * D.natAbs := by rw [Nat.pow_add]; grind
      _ ≤ S.natAbs * 10 ^ (x.toNat + 40) * D.natAbs := Nat.mul_le_mul_right _ (Nat.le_trans b a)
  · unfold Dm.nearZ
    rw [Dm.sg_abs]
    exact (Dm.nQ_le (by omega) l200).1
theorem near_quot {A B C1 C2 : Nat} {y : Int} (b : Bool) (hB : 0 < B) (hC : 0 < C2) (l2 : C2 < 1000000000000000000) (l1 : C1 < 1000000000000000000) (h0 : C1 ≠ 0) (hy1 : -80 ≤ y) (hy2 : y ≤ 80) (h : A * C2 * 10 ^ (-y).toNat = C1 * 10 ^ y.toNat * B) :
    Near (Dm.sg b A) (B : Int) (Dm.sg b (Dm.nQ (C1 * 10 ^ 40 / C2) (y - 40) (decide (C1 * 10 ^ 40 % C2 ≠ 0)))) (Dm.nE (C1 * 10 ^ 40 / C2) (y - 40)) := by
  have hS1 : 10 ^ 22 ≤ C1 * 10 ^ 40 / C2 := by
    rw [Nat.le_div_iff_mul_le hC]
    have : 10 ^ 22 * C2 ≤ 10 ^ 22 * 10 ^ 18 := Nat.mul_le_mul_left _ (by rw [← e18]; omega)
    rw [p10_add] at this
    have k : 1 * 10 ^ 40 ≤ C1 * 10 ^ 40 := Nat.mul_le_mul_right _ (by omega)
    omega
  have hS2 : C1 * 10 ^ 40 / C2 < 10 ^ 58 := by
    refine Nat.lt_of_le_of_lt (Nat.div_le_self _ _) ?_
    have : C1 * 10 ^ 40 < 10 ^ 18 * 10 ^ 40 := Nat.mul_lt_mul_of_pos_right (by rw [← e18]; omega) (Dm.p10_pos 40)
    rwa [p10_add] at this
  have hdiv : C1 * 10 ^ 40 / C2 * C2 ≤ C1 * 10 ^ 40 := Nat.div_mul_le_self _ _
  have hdiv2 : C1 * 10 ^ 40 < (C1 * 10 ^ 40 / C2 + 1) * C2 := by
    have := Nat.lt_mul_div_succ (C1 * 10 ^ 40) hC
    rw [Nat.mul_comm (C1 * 10 ^ 40 / C2 + 1) C2]; exact this
  obtain ⟨S, hS⟩ : ∃ S, C1 * 10 ^ 40 / C2 = S := ⟨_, rfl⟩
  have hS1' : 1 ≤ S := by rw [← hS]; exact Nat.le_trans (Dm.p10_pos 22) hS1
  rw [hS] at hS1 hS2 hdiv hdiv2 ⊢
  have l200 : S < 10 ^ 200 := Nat.lt_of_lt_of_le hS2 (Dm.p10_le (by omega))
  obtain ⟨n1, _, n3, n4⟩ := Dm.nd_spec hS1' l200
  have nd23 : 23 ≤ Dm.nd S := by
    have : 10 ^ 22 < 10 ^ Dm.nd S := Nat.lt_of_le_of_lt hS1 n4
    have := Dm.p10_lt this
    omega
  have nd58 : Dm.nd S ≤ 58 := by
    have : 10 ^ (Dm.nd S - 1) < 10 ^ 58 := Nat.lt_of_le_of_lt n3 hS2
    have := Dm.p10_lt this
    omega
  have lo : -40 ≤ Dm.nE S (y - 40) := by unfold Dm.nE; omega
  have ge : y - 40 + Dm.nd S - 18 ≤ Dm.nE S (y - 40) := by unfold Dm.nE; omega
  have hi : Dm.nE S (y - 40) ≤ 100 := by unfold Dm.nE; omega
  have pos : 0 < C2 * 10 ^ (-y).toNat := Nat.mul_pos hC (Dm.p10_pos _)
  have key : A * 10 ^ 40 * (C2 * 10 ^ (-y).toNat) = C1 * 10 ^ 40 * 10 ^ y.toNat * B := by
    calc A * 10 ^ 40 * (C2 * 10 ^ (-y).toNat) = (A * C2 * 10 ^ (-y).toNat) * 10 ^ 40 := by grind
      _ = C1 * 10 ^ 40 * 10 ^ y.toNat * B := by rw [h]; grind
  refine ⟨lo, hi, gq_half (by omega) lo ?_, ?_, fun hE => ?_, ?_⟩
  · rw [gq_sg b A B hB]
    congr 1
    have hneg : ¬ 0 ≤ y - 40 - Dm.nE S (y - 40) := by omega
    unfold Dm.nQ
    obtain ⟨e, he⟩ : ∃ e, Dm.nE S (y - 40) = e := ⟨_, rfl⟩
    rw [he] at hneg ⊢
    obtain ⟨k, hk⟩ : ∃ k : Nat, (-(y - 40 - e)).toNat = k + 1 := ⟨(-(y - 40 - e)).toNat - 1, by omega⟩
    unfold Dm.sc
    rw [if_neg hneg, hk, ← hS, ← Dm.rnd_rest (C1 * 10 ^ 40) C2 (10 ^ (k + 1)) hC (by rw [Nat.pow_succ]; omega) (Dm.p10_pos _)]
    refine Dm.rnd_ratio (Nat.mul_pos hB (Dm.p10_pos _)) (Nat.mul_pos hC (Dm.p10_pos _)) ?_
    apply Nat.eq_of_mul_eq_mul_right (Dm.p10_pos (-y).toNat)
    calc A * 10 ^ (-e).toNat * (C2 * 10 ^ (k + 1)) * 10 ^ (-y).toNat = (A * C2 * 10 ^ (-y).toNat) * 10 ^ (-e).toNat * 10 ^ (k + 1) := by grind
      _ = C1 * B * 10 ^ (y.toNat + (-e).toNat + (k + 1)) := by rw [h, Nat.pow_add 10 (y.toNat + (-e).toNat), Nat.pow_add]; grind
      _ = C1 * B * 10 ^ (40 + e.toNat + (-y).toNat) := by congr 2; omega
      _ = C1 * 10 ^ 40 * (B * 10 ^ e.toNat) * 10 ^ (-y).toNat := by rw [Nat.pow_add, Nat.pow_add]; grind
  · rw [Dm.sg_abs, Int.natAbs_natCast]
    apply Nat.lt_of_mul_lt_mul_right (a := C2 * 10 ^ (-y).toNat)
    rw [key]
    have a : C1 * 10 ^ 40 < 10 ^ Dm.nd S * C2 := Nat.lt_of_lt_of_le hdiv2 (Nat.mul_le_mul_right _ n4)
    have b : 10 ^ (Dm.nd S + y.toNat) ≤ 10 ^ ((Dm.nE S (y - 40) + 58).toNat + (-y).toNat) := Dm.p10_le (by omega)
    calc C1 * 10 ^ 40 * 10 ^ y.toNat * B < 10 ^ Dm.nd S * C2 * 10 ^ y.toNat * B := Nat.mul_lt_mul_of_pos_right (Nat.mul_lt_mul_of_pos_right a (Dm.p10_pos _)) hB
      _ = 10 ^ (Dm.nd S + y.toNat) * (C2 * B) := by rw [Nat.pow_add]; grind
      _ ≤ 10 ^ ((Dm.nE S (y - 40) + 58).toNat + (-y).toNat) * (C2 * B) := Nat.mul_le_mul_right _ b
      _ = 10 ^ (Dm.nE S (y - 40) + 58).toNat * B * (C2 * 10 ^ (-y).toNat) := by rw [Nat.pow_add]; grind
  · have hx : Dm.nE S (y - 40) = y - 40 + Dm.nd S - 18 := by unfold Dm.nE at *; omega
    rw [Dm.sg_abs, Int.natAbs_natCast]
    apply Nat.le_of_mul_le_mul_right _ pos
    rw [key]
    have m1 : 10 ^ (Dm.nd S - 1) * C2 ≤ C1 * 10 ^ 40 := Nat.le_trans (Nat.mul_le_mul_right _ n3) hdiv
    have m2 : 10 ^ ((Dm.nE S (y - 40) + 57).toNat + (-y).toNat) ≤ 10 ^ (Dm.nd S - 1 + y.toNat) := Dm.p10_le (by omega)
    calc 10 ^ (Dm.nE S (y - 40) + 57).toNat * B * (C2 * 10 ^ (-y).toNat) = 10 ^ ((Dm.nE S (y - 40) + 57).toNat + (-y).toNat) * (C2 * B) := by rw [Nat.pow_add]; grind
      _ ≤ 10 ^ (Dm.nd S - 1 + y.toNat) * (C2 * B) := Nat.mul_le_mul_right _ m2
      _ = 10 ^ (Dm.nd S - 1) * C2 * 10 ^ y.toNat * B := by rw [Nat.pow_add]; grind
      _ ≤ C1 * 10 ^ 40 * 10 ^ y.toNat * B := Nat.mul_le_mul_right _ (Nat.mul_le_mul_right _ m1)
  · rw [Dm.sg_abs]
    exact (Dm.nQ_le hS1' l200).1
/-- what is told lies within half a unit -/
theorem icmp_le {x y : Int} : icmp x y ≤ 0 ↔ x ≤ y := by
  unfold icmp
  split
  · omega
  · split <;> omega
theorem near_ok {N D Q E : Int} (hD : 0 < D) (hN : Near N D Q E) (hr : Dm.fR Q E = 0) :
    icmp (((Dm.fC Q E * (10 : Int) ^ (Dm.fE Q E).toNat * D + -(N * (10 : Int) ^ (-(Dm.fE Q E)).toNat)).natAbs : Int) * 2 * (10 : Int) ^ 40) ((10 : Int) ^ (E + 40).toNat * ((10 : Int) ^ (-(Dm.fE Q E)).toNat * D * 1)) ≤ 0 ∧ -40 ≤ Dm.fE Q E ∧ Dm.fE Q E ≤ 40 ∧ (Dm.fC Q E).natAbs ≤ 1000000000000000000 := by
  have q18 := hN.q18
  have lo := hN.lo
  have hV := Dm.V_fC (C := Q) (e := E) (by omega) (by omega) lo hr
  have bd : -40 ≤ Dm.fE Q E ∧ Dm.fE Q E ≤ 40 ∧ (Dm.fC Q E).natAbs ≤ 1000000000000000000 := by
    by_cases h0 : Q = 0
    · subst h0; simp [Dm.fC, Dm.fE]
    · obtain ⟨a, _⟩ := Dm.tz_of h0 (by omega)
      have ha : Q.natAbs = (Dm.tc Q).natAbs * 10 ^ Dm.tz Q := by
        have := congrArg Int.natAbs a
        rw [Dm.tens_eq, Int.natAbs_mul, Int.natAbs_pow] at this
        exact this
      have l : (Dm.tc Q).natAbs * 1 ≤ (Dm.tc Q).natAbs * 10 ^ Dm.tz Q := Nat.mul_le_mul_left _ (Dm.p10_pos _)
      unfold Dm.fR at hr
      rw [if_neg h0] at hr
      unfold Dm.fC Dm.fE
      simp only [if_neg h0]
      split at hr
      · omega
      · rename_i g
        simp only [if_neg g]
        omega
  refine ⟨?_, bd⟩
  obtain ⟨t1, ht1⟩ : ∃ t1, Dm.fC Q E = t1 := ⟨_, rfl⟩
  obtain ⟨t2, ht2⟩ : ∃ t2, Dm.fE Q E = t2 := ⟨_, rfl⟩
  rw [ht1, ht2] at hV bd ⊢
  unfold Dm.V at hV
  rw [Dm.tens_eq, Dm.tens_eq] at hV
  have e1 : (t1 * (10 : Int) ^ t2.toNat * D + -(N * (10 : Int) ^ (-t2).toNat)) * (10 : Int) ^ 40 = (10 : Int) ^ (-t2).toNat * (Q * (10 : Int) ^ (E + 40).toNat * D - N * (10 : Int) ^ 40) := by
    have a : t1 * (10 : Int) ^ t2.toNat * (10 : Int) ^ 40 = (10 : Int) ^ (-t2).toNat * (Q * (10 : Int) ^ (E + 40).toNat) := by
      rw [← hV]
      calc t1 * (10 : Int) ^ t2.toNat * (10 : Int) ^ 40 = t1 * (10 : Int) ^ (t2.toNat + 40) := by rw [Int.pow_add]; grind
        _ = t1 * (10 : Int) ^ ((-t2).toNat + (t2 + 40).toNat) := by congr 2; omega
        _ = (10 : Int) ^ (-t2).toNat * (t1 * (10 : Int) ^ (t2 + 40).toNat) := by rw [Int.pow_add]; grind
    calc (t1 * (10 : Int) ^ t2.toNat * D + -(N * (10 : Int) ^ (-t2).toNat)) * (10 : Int) ^ 40 = (t1 * (10 : Int) ^ t2.toNat * (10 : Int) ^ 40) * D - N * (10 : Int) ^ (-t2).toNat * (10 : Int) ^ 40 := by grind
      _ = (10 : Int) ^ (-t2).toNat * (Q * (10 : Int) ^ (E + 40).toNat * D - N * (10 : Int) ^ 40) := by rw [a]; grind
  have e2 := congrArg Int.natAbs e1
  rw [Int.natAbs_mul, Int.natAbs_mul] at e2
  have pq : ((10 : Int) ^ 40).natAbs = 10 ^ 40 := by rw [Int.natAbs_pow]; rfl
  have pt : ((10 : Int) ^ (-t2).toNat).natAbs = 10 ^ (-t2).toNat := by rw [Int.natAbs_pow]; rfl
  rw [pq, pt] at e2
  have half := hN.half
  obtain ⟨M, hM⟩ : ∃ M, (t1 * (10 : Int) ^ t2.toNat * D + -(N * (10 : Int) ^ (-t2).toNat)).natAbs = M := ⟨_, rfl⟩
  rw [hM] at e2 ⊢
  have f1 : M * 2 * 10 ^ 40 ≤ 10 ^ (-t2).toNat * ((10 : Int) ^ (E + 40).toNat * D).natAbs := by
    calc M * 2 * 10 ^ 40 = 2 * (M * 10 ^ 40) := by grind
      _ = 10 ^ (-t2).toNat * (2 * (Q * (10 : Int) ^ (E + 40).toNat * D - N * (10 : Int) ^ 40).natAbs) := by rw [e2]; grind
      _ ≤ 10 ^ (-t2).toNat * ((10 : Int) ^ (E + 40).toNat * D).natAbs := Nat.mul_le_mul_left _ half
  have f2 : (M : Int) * 2 * (10 : Int) ^ 40 = ((M * 2 * 10 ^ 40 : Nat) : Int) := by simp
  have f3 : (10 : Int) ^ (E + 40).toNat * ((10 : Int) ^ (-t2).toNat * D * 1) = ((10 ^ (-t2).toNat * ((10 : Int) ^ (E + 40).toNat * D).natAbs : Nat) : Int) := by
    rw [Int.natAbs_mul, Int.natAbs_pow, show (10 : Int).natAbs = 10 from rfl, Int.natCast_mul, Int.natCast_mul, show ((D.natAbs : Nat) : Int) = D by omega]
    simp
    grind
  rw [f2, f3, icmp_le]
  exact Int.ofNat_le.2 f1
/-- what is too great is told so -/
theorem near_far {N D Q E : Int} (hN : Near N D Q E) (hr : Dm.fR Q E ≠ 0) : Dm.fR Q E = 4 ∧ 10 ^ 40 * D.natAbs < N.natAbs := by
  have q18 := hN.q18
  have lo := hN.lo
  have h0 : Q ≠ 0 := fun e => hr (by rw [e]; simp [Dm.fR])
  obtain ⟨a, _⟩ := Dm.tz_of h0 (by omega)
  have ha : Q.natAbs = (Dm.tc Q).natAbs * 10 ^ Dm.tz Q := by
    have := congrArg Int.natAbs a
    rw [Dm.tens_eq, Int.natAbs_mul, Int.natAbs_pow] at this
    exact this
  unfold Dm.fR at hr
  rw [if_neg h0] at hr
  have g : 40 < E + (Dm.tz Q : Int) := by
    rcases Int.lt_or_le 40 (E + (Dm.tz Q : Int)) with k | k
    · exact k
    · rw [if_neg (by omega)] at hr; exact absurd rfl hr
  refine ⟨by unfold Dm.fR; rw [if_neg h0, if_pos g], ?_⟩
  have tc1 : 1 ≤ (Dm.tc Q).natAbs := by
    rcases Nat.eq_zero_or_pos (Dm.tc Q).natAbs with z | z
    · rw [z, Nat.zero_mul] at ha; omega
    · exact z
  have big : 10 ^ 81 ≤ Q.natAbs * 10 ^ (E + 40).toNat := by
    have b1 : 1 * 10 ^ Dm.tz Q ≤ (Dm.tc Q).natAbs * 10 ^ Dm.tz Q := Nat.mul_le_mul_right _ tc1
    rw [Nat.one_mul, ← ha] at b1
    have b2 : 10 ^ Dm.tz Q * 10 ^ (E + 40).toNat ≤ Q.natAbs * 10 ^ (E + 40).toNat := Nat.mul_le_mul_right _ b1
    rw [p10_add] at b2
    exact Nat.le_trans (Dm.p10_le (by omega)) b2
  have half := hN.half
  have pe : ((10 : Int) ^ (E + 40).toNat).natAbs = 10 ^ (E + 40).toNat := by rw [Int.natAbs_pow]; rfl
  have pq : ((10 : Int) ^ 40).natAbs = 10 ^ 40 := by rw [Int.natAbs_pow]; rfl
  have tri : (Q * (10 : Int) ^ (E + 40).toNat * D).natAbs ≤ (Q * (10 : Int) ^ (E + 40).toNat * D - N * (10 : Int) ^ 40).natAbs + (N * (10 : Int) ^ 40).natAbs := by omega
  rw [Int.natAbs_mul, Int.natAbs_mul, pe, Int.natAbs_mul N, pq] at tri
  rw [Int.natAbs_mul _ D, pe] at half
  have dpos : 0 < D.natAbs := by
    rcases Nat.eq_zero_or_pos D.natAbs with z | z
    · have := hN.small
      rw [z, Nat.mul_zero] at this
      omega
    · exact z
  have q1 : 10 ^ (E + 40).toNat * D.natAbs ≤ Q.natAbs * 10 ^ (E + 40).toNat * D.natAbs := Nat.mul_le_mul_right _ (by
    have : 1 * 10 ^ (E + 40).toNat ≤ Q.natAbs * 10 ^ (E + 40).toNat := Nat.mul_le_mul_right _ (by omega)
    omega)
  have q2 : 10 ^ 81 * D.natAbs ≤ Q.natAbs * 10 ^ (E + 40).toNat * D.natAbs := Nat.mul_le_mul_right _ big
  generalize Q.natAbs * 10 ^ (E + 40).toNat * D.natAbs = X at *
  generalize 10 ^ (E + 40).toNat * D.natAbs = Y at *
  generalize (Q * (10 : Int) ^ (E + 40).toNat * D - N * (10 : Int) ^ 40).natAbs = Z at *
  have q3 : 10 ^ 81 * D.natAbs ≤ 2 * (N.natAbs * 10 ^ 40) := by omega
  have q4 : 10 ^ 41 * D.natAbs * 10 ^ 40 ≤ (2 * N.natAbs) * 10 ^ 40 := by
    calc 10 ^ 41 * D.natAbs * 10 ^ 40 = 10 ^ 81 * D.natAbs := by rw [show (10 : Nat) ^ 81 = 10 ^ 41 * 10 ^ 40 by rw [p10_add]]; grind
      _ ≤ 2 * (N.natAbs * 10 ^ 40) := q3
      _ = (2 * N.natAbs) * 10 ^ 40 := by grind
  have q5 := Nat.le_of_mul_le_mul_right q4 (Dm.p10_pos 40)
  have q6 : 10 ^ 41 * D.natAbs = 10 * (10 ^ 40 * D.natAbs) := by rw [Nat.pow_succ]; grind
  have q7 : 0 < 10 ^ 40 * D.natAbs := Nat.mul_pos (Dm.p10_pos 40) dpos
  generalize 10 ^ 40 * D.natAbs = U at *
  omega
/-- where the unit stops -/
theorem near_unit {N D Q E : Int} (hN : Near N D Q E) (k : Nat) : (k < (E + 40).toNat → 10 ^ (k + 18) * D.natAbs ≤ N.natAbs * 10 ^ 40) ∧ (k = (E + 40).toNat → N.natAbs * 10 ^ 40 < 10 ^ (k + 18) * D.natAbs) := by
  have lo := hN.lo
  refine ⟨fun h => ?_, fun h => ?_⟩
  · have l := hN.least (by omega)
    exact Nat.le_trans (Nat.mul_le_mul_right _ (Dm.p10_le (by omega))) l
  · have s := hN.small
    rwa [show (E + 58).toNat = k + 18 by omega] at s
end Go.Proofs.Ytibkemolmpcdcaa

/- dec's Add, Mul and Div tell what is near. -/
namespace Go.Proofs.Ytibkemolmpcdcaa
open Go.RowKit

theorem near_add (c1 x1 c2 x2 : Int) (h1 : Dm.wrongN c1 x1 = 0) (h2 : Dm.wrongN c2 x2 = 0) : ∃ Q E : Int, Near (c1 * (10 : Int) ^ x1.toNat * (10 : Int) ^ (-x2).toNat + c2 * (10 : Int) ^ x2.toNat * (10 : Int) ^ (-x1).toNat) ((10 : Int) ^ (-x1).toNat * (10 : Int) ^ (-x2).toNat) Q E ∧ ∀ w, Calls Try.prog 6 #[.agg #[.int .i64 c1, .int .i64 x1], .agg #[.int .i64 c2, .int .i64 x2]] w fun e w' => e = T3 (Dm.fC Q E) (Dm.fE Q E) (Dm.fR Q E) ∧ Below w.heap.size w w' := by
  obtain ⟨a1, a2, a3, a4, _⟩ := Dm.wrong_ok h1
  obtain ⟨b1, b2, b3, b4, _⟩ := Dm.wrong_ok h2
  have hD : (0 : Int) < (10 : Int) ^ (-x1).toNat * (10 : Int) ^ (-x2).toNat := Int.mul_pos (Int.pow_pos (by decide)) (Int.pow_pos (by decide))
  by_cases h0 : Dm.addS c1 x1 c2 x2 = 0
  · refine ⟨0, -40, ?_, fun w => (add_ok c1 x1 c2 x2 w h1 h2).mono ?_⟩
    · have e := add_ratio (c1 := c1) (x1 := x1) (c2 := c2) (x2 := x2)
      rw [h0, Int.zero_mul, Int.zero_mul] at e
      rcases Int.mul_eq_zero.1 e with g | g
      · rw [g]; exact near_zero hD
      · exact absurd g (pow_ne _)
    · rintro e w' ⟨rfl, hb⟩
      refine ⟨?_, hb⟩
      rw [h0]
      have z : Dm.nearZ 0 (min x1 x2) false = 0 := by unfold Dm.nearZ; rw [show Int.natAbs 0 = 0 from rfl, Dm.nQ_zero]; rfl
      unfold told T3
      rw [z]
      simp [Dm.fC, Dm.fE, Dm.fR]
  · refine ⟨_, _, near_exact hD h0 ?_ (by omega) ?_ add_ratio, fun w => add_ok c1 x1 c2 x2 w h1 h2⟩
    · unfold Dm.addS
      have k1 : ∀ {c : Int} {k : Nat}, -1000000000000000000 < c → c < 1000000000000000000 → k ≤ 80 → (Dm.tens c k).natAbs < 10 ^ 98 := fun {c k} q1 q2 q3 => by
        rw [Dm.tens_eq, Int.natAbs_mul, Int.natAbs_pow]
        have a : c.natAbs * 10 ^ k < 10 ^ 18 * 10 ^ k := Nat.mul_lt_mul_of_pos_right (by rw [← e18]; omega) (Dm.p10_pos k)
        have b : 10 ^ 18 * 10 ^ k ≤ 10 ^ 98 := by rw [p10_add]; exact Dm.p10_le (by omega)
        have e : (10 : Int).natAbs ^ k = 10 ^ k := rfl
        rw [e]
        omega
      have h1' := k1 (k := (x1 - min x1 x2).toNat) a1 a2 (by omega)
      have h2' := k1 (k := (x2 - min x1 x2).toNat) b1 b2 (by omega)
      have h3' := Int.natAbs_add_le (Dm.tens c1 (x1 - min x1 x2).toNat) (Dm.tens c2 (x2 - min x1 x2).toNat)
      have h4' : 10 ^ 98 * 10 ≤ 10 ^ 100 := by rw [← Nat.pow_succ]; exact Dm.p10_le (by omega)
      omega
    · have k1 : ∀ {c : Int} {k j : Nat}, -1000000000000000000 < c → c < 1000000000000000000 → k + j ≤ 80 → (Dm.tens c k).natAbs * 10 ^ j < 10 ^ 98 := fun {c k j} q1 q2 q3 => by
        rw [Dm.tens_eq, Int.natAbs_mul, Int.natAbs_pow, Nat.mul_assoc]
        have e : (10 : Int).natAbs ^ k = 10 ^ k := rfl
        rw [e, p10_add]
        have a : c.natAbs * 10 ^ (k + j) < 10 ^ 18 * 10 ^ (k + j) := Nat.mul_lt_mul_of_pos_right (by rw [← e18]; omega) (Dm.p10_pos _)
        have b : 10 ^ 18 * 10 ^ (k + j) ≤ 10 ^ 98 := by rw [p10_add]; exact Dm.p10_le (by omega)
        omega
      unfold Dm.addS
      have h1' := k1 (k := (x1 - min x1 x2).toNat) (j := (min x1 x2).toNat) a1 a2 (by omega)
      have h2' := k1 (k := (x2 - min x1 x2).toNat) (j := (min x1 x2).toNat) b1 b2 (by omega)
      have h3' := Nat.mul_le_mul_right (10 ^ (min x1 x2).toNat) (Int.natAbs_add_le (Dm.tens c1 (x1 - min x1 x2).toNat) (Dm.tens c2 (x2 - min x1 x2).toNat))
      rw [Nat.add_mul] at h3'
      have h4' : 10 ^ 98 * 10 ≤ 10 ^ 118 := by rw [← Nat.pow_succ]; exact Dm.p10_le (by omega)
      omega

theorem near_mul (c1 x1 c2 x2 : Int) (h1 : Dm.wrongN c1 x1 = 0) (h2 : Dm.wrongN c2 x2 = 0) : ∃ Q E : Int, Near (c1 * (10 : Int) ^ x1.toNat * (c2 * (10 : Int) ^ x2.toNat)) ((10 : Int) ^ (-x1).toNat * (10 : Int) ^ (-x2).toNat) Q E ∧ ∀ w, Calls Try.prog 9 #[.agg #[.int .i64 c1, .int .i64 x1], .agg #[.int .i64 c2, .int .i64 x2]] w fun e w' => e = T3 (Dm.fC Q E) (Dm.fE Q E) (Dm.fR Q E) ∧ Below w.heap.size w w' := by
  obtain ⟨a1, a2, a3, a4, _⟩ := Dm.wrong_ok h1
  obtain ⟨b1, b2, b3, b4, _⟩ := Dm.wrong_ok h2
  have hD : (0 : Int) < (10 : Int) ^ (-x1).toNat * (10 : Int) ^ (-x2).toNat := Int.mul_pos (Int.pow_pos (by decide)) (Int.pow_pos (by decide))
  have ratio : c1 * (10 : Int) ^ x1.toNat * (c2 * (10 : Int) ^ x2.toNat) * (10 : Int) ^ (-(x1 + x2)).toNat = c1 * c2 * (10 : Int) ^ (x1 + x2).toNat * ((10 : Int) ^ (-x1).toNat * (10 : Int) ^ (-x2).toNat) := by
    calc c1 * (10 : Int) ^ x1.toNat * (c2 * (10 : Int) ^ x2.toNat) * (10 : Int) ^ (-(x1 + x2)).toNat = c1 * c2 * (10 : Int) ^ (x1.toNat + x2.toNat + (-(x1 + x2)).toNat) := by rw [Int.pow_add, Int.pow_add]; grind
      _ = c1 * c2 * (10 : Int) ^ ((x1 + x2).toNat + (-x1).toNat + (-x2).toNat) := by congr 2; omega
      _ = c1 * c2 * (10 : Int) ^ (x1 + x2).toNat * ((10 : Int) ^ (-x1).toNat * (10 : Int) ^ (-x2).toNat) := by rw [Int.pow_add, Int.pow_add]; grind
  have lt : (c1 * c2).natAbs < 10 ^ 36 := by
    rw [Int.natAbs_mul]
    have : c1.natAbs * c2.natAbs < 10 ^ 18 * 10 ^ 18 := Nat.mul_lt_mul'' (by rw [← e18]; omega) (by rw [← e18]; omega)
    rwa [p10_add] at this
  by_cases h0 : c1 * c2 = 0
  · refine ⟨0, -40, ?_, fun w => (mul_ok c1 x1 c2 x2 w h1 h2).mono ?_⟩
    · rw [h0, Int.zero_mul, Int.zero_mul] at ratio
      rcases Int.mul_eq_zero.1 ratio with g | g
      · rw [g]; exact near_zero hD
      · exact absurd g (pow_ne _)
    · rintro e w' ⟨rfl, hb⟩
      refine ⟨?_, hb⟩
      rw [h0]
      have z : Dm.nearZ 0 (x1 + x2) false = 0 := by unfold Dm.nearZ; rw [show Int.natAbs 0 = 0 from rfl, Dm.nQ_zero]; rfl
      unfold told T3
      rw [z]
      simp [Dm.fC, Dm.fE, Dm.fR]
  · refine ⟨_, _, near_exact hD h0 (Nat.lt_of_lt_of_le lt (Dm.p10_le (by omega))) (by omega) ?_ ratio, fun w => mul_ok c1 x1 c2 x2 w h1 h2⟩
    have a : (c1 * c2).natAbs * 10 ^ (x1 + x2).toNat < 10 ^ 36 * 10 ^ (x1 + x2).toNat := Nat.mul_lt_mul_of_pos_right lt (Dm.p10_pos _)
    rw [p10_add] at a
    exact Nat.lt_of_lt_of_le a (Dm.p10_le (by omega))

theorem near_div (c1 x1 c2 x2 : Int) (h1 : Dm.wrongN c1 x1 = 0) (h2 : Dm.wrongN c2 x2 = 0) (h0 : c2 ≠ 0) : ∃ N D Q E : Int, ((N = c1 * (10 : Int) ^ x1.toNat * (10 : Int) ^ (-x2).toNat ∧ D = (10 : Int) ^ (-x1).toNat * (c2 * (10 : Int) ^ x2.toNat)) ∨ (N = -(c1 * (10 : Int) ^ x1.toNat * (10 : Int) ^ (-x2).toNat) ∧ D = -((10 : Int) ^ (-x1).toNat * (c2 * (10 : Int) ^ x2.toNat)))) ∧ 0 < D ∧ Near N D Q E ∧ ∀ w, Calls Try.prog 10 #[.agg #[.int .i64 c1, .int .i64 x1], .agg #[.int .i64 c2, .int .i64 x2]] w fun e w' => e = T3 (Dm.fC Q E) (Dm.fE Q E) (Dm.fR Q E) ∧ Below w.heap.size w w' := by
  obtain ⟨a1, a2, a3, a4, _⟩ := Dm.wrong_ok h1
  obtain ⟨b1, b2, b3, b4, _⟩ := Dm.wrong_ok h2
  have eA : ∀ c : Int, Dm.sg (decide (c < 0)) (c.natAbs * 10 ^ x1.toNat * 10 ^ (-x2).toNat) = c * (10 : Int) ^ x1.toNat * (10 : Int) ^ (-x2).toNat := fun c => by
    have e := sg_self c
    have m : ∀ (b : Bool) (n p : Nat), Dm.sg b (n * p) = Dm.sg b n * (p : Int) := fun b n p => by
      unfold Dm.sg
      cases b
      · simp
      · simp [Int.neg_mul]
    rw [m, m, e]
    simp
  have dpos : (0 : Int) < ((10 ^ (-x1).toNat * (c2.natAbs * 10 ^ x2.toNat) : Nat) : Int) := by
    have := Nat.mul_pos (Dm.p10_pos (-x1).toNat) (Nat.mul_pos (show 0 < c2.natAbs by omega) (Dm.p10_pos x2.toNat))
    omega
  have dcast : ((10 ^ (-x1).toNat * (c2.natAbs * 10 ^ x2.toNat) : Nat) : Int) = (10 : Int) ^ (-x1).toNat * ((c2.natAbs : Int) * (10 : Int) ^ x2.toNat) := by simp
  have key : ∀ w, Calls Try.prog 10 #[.agg #[.int .i64 c1, .int .i64 x1], .agg #[.int .i64 c2, .int .i64 x2]] w fun e w' => e = toldB (!(decide (c1 < 0) == decide (c2 < 0))) (c1.natAbs * 10 ^ 40 / c2.natAbs) (x1 - x2 - 40) (decide (c1.natAbs * 10 ^ 40 % c2.natAbs ≠ 0)) ∧ Below w.heap.size w w' := fun w => by
    refine (div_ok c1 x1 c2 x2 w h1 h2 h0).mono ?_
    rintro e w' ⟨r, rfl, rfl, hb⟩
    refine ⟨?_, hb⟩
    congr 1
    generalize c1.natAbs * 10 ^ 40 % c2.natAbs = r
    by_cases hr : r = 0
    · subst hr; rfl
    · rw [decide_eq_true hr, bne_iff_ne]; omega
  have hND : (Dm.sg (!(decide (c1 < 0) == decide (c2 < 0))) (c1.natAbs * 10 ^ x1.toNat * 10 ^ (-x2).toNat) = c1 * (10 : Int) ^ x1.toNat * (10 : Int) ^ (-x2).toNat ∧ ((10 ^ (-x1).toNat * (c2.natAbs * 10 ^ x2.toNat) : Nat) : Int) = (10 : Int) ^ (-x1).toNat * (c2 * (10 : Int) ^ x2.toNat)) ∨ (Dm.sg (!(decide (c1 < 0) == decide (c2 < 0))) (c1.natAbs * 10 ^ x1.toNat * 10 ^ (-x2).toNat) = -(c1 * (10 : Int) ^ x1.toNat * (10 : Int) ^ (-x2).toNat) ∧ ((10 ^ (-x1).toNat * (c2.natAbs * 10 ^ x2.toNat) : Nat) : Int) = -((10 : Int) ^ (-x1).toNat * (c2 * (10 : Int) ^ x2.toNat))) := by
    rw [dcast]
    rcases Int.lt_or_le c2 0 with g | g
    · right
      have s2 : (!(decide (c1 < 0) == decide (c2 < 0))) = !(decide (c1 < 0)) := by rw [decide_eq_true g]; cases decide (c1 < 0) <;> rfl
      refine ⟨?_, ?_⟩
      · rw [s2, ← eA c1]
        unfold Dm.sg
        cases decide (c1 < 0) <;> simp
      · rw [show ((c2.natAbs : Nat) : Int) = -c2 by omega, Int.neg_mul, Int.mul_neg]
    · left
      have s2 : (!(decide (c1 < 0) == decide (c2 < 0))) = decide (c1 < 0) := by rw [decide_eq_false (show ¬ c2 < 0 by omega)]; cases decide (c1 < 0) <;> rfl
      refine ⟨?_, ?_⟩
      · rw [s2, eA c1]
      · rw [show ((c2.natAbs : Nat) : Int) = c2 by omega]
  by_cases hc : c1 = 0
  · refine ⟨_, _, 0, -40, hND, dpos, ?_, fun w => (key w).mono ?_⟩
    · have z : Dm.sg (!(decide (c1 < 0) == decide (c2 < 0))) (c1.natAbs * 10 ^ x1.toNat * 10 ^ (-x2).toNat) = 0 := by
        rw [Dm.sg_zero, hc]
        simp
      rw [z]
      exact near_zero dpos
    · rintro e w' ⟨rfl, hb⟩
      refine ⟨?_, hb⟩
      subst hc
      unfold toldB T3
      rw [show (0 : Int).natAbs = 0 from rfl, Nat.zero_mul, Nat.zero_div, Nat.zero_mod, show decide ((0 : Nat) ≠ 0) = false from rfl, Dm.nQ_zero, Dm.sg_zero.2 rfl]
      simp [Dm.fC, Dm.fE, Dm.fR]
  · exact ⟨_, _, _, _, hND, dpos, near_quot (A := c1.natAbs * 10 ^ x1.toNat * 10 ^ (-x2).toNat) (B := 10 ^ (-x1).toNat * (c2.natAbs * 10 ^ x2.toNat)) (C1 := c1.natAbs) (C2 := c2.natAbs) (y := x1 - x2) _ (by omega) (by omega) (by omega) (by omega) (by omega) (by omega) (by omega) (quot_ratio c1.natAbs c2.natAbs x1 x2), fun w => key w⟩
end Go.Proofs.Ytibkemolmpcdcaa
