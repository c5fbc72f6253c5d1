/- Plain facts on cutting digits off, and on what is rounded: no Go in sight. -/
import Derived.Test.YthpjejfgoohhfaaGreatDoorG02
namespace Dm

/-- k digits cut off, towards 0 -/
def tq (c : Int) : Nat → Int
  | 0 => c
  | k + 1 => (tq c k).tdiv 10
theorem tdiv10 (c : Int) : (0 ≤ c → c.tdiv 10 = c / 10) ∧ (c ≤ 0 → c.tdiv 10 = -((-c) / 10)) := by
  refine ⟨fun h => Int.tdiv_eq_ediv_of_nonneg h, fun h => ?_⟩
  have e := Int.neg_tdiv (a := -c) (b := 10)
  rw [Int.neg_neg] at e
  rw [e, Int.tdiv_eq_ediv_of_nonneg (by omega)]
theorem tq_spec (c : Int) : ∀ k, (0 ≤ c → 0 ≤ tq c k ∧ tens (tq c k) k ≤ c ∧ c < tens (tq c k + 1) k) ∧ (c ≤ 0 → tq c k ≤ 0 ∧ c ≤ tens (tq c k) k ∧ tens (tq c k - 1) k < c)
  | 0 => by simp only [tq, tens]; omega
  | k + 1 => by
    obtain ⟨a, b⟩ := tq_spec c k
    obtain ⟨p, q⟩ := tdiv10 (tq c k)
    have t1 : ∀ v : Int, tens v (k + 1) = tens (v * 10) k := by intro v; rw [show k + 1 = 1 + k by omega, ← tens_add]; rfl
    have m := @tens_le_tens
    refine ⟨fun h => ?_, fun h => ?_⟩
    · obtain ⟨a1, a2, a3⟩ := a h
      rw [tq, p a1, t1, t1]
      have l1 := @tens_le_tens (tq c k / 10 * 10) (tq c k) (by omega) k
      have l2 := @tens_le_tens (tq c k + 1) ((tq c k / 10 + 1) * 10) (by omega) k
      omega
    · obtain ⟨b1, b2, b3⟩ := b h
      rw [tq, q b1, t1, t1]
      have l1 := @tens_le_tens (tq c k) (-(-tq c k / 10) * 10) (by omega) k
      have l2 := @tens_le_tens ((-(-tq c k / 10) - 1) * 10) (tq c k - 1) (by omega) k
      omega
theorem tq_bd {c : Int} (h1 : -1000000000000000000 < c) (h2 : c < 1000000000000000000) (k : Nat) : -1000000000000000000 < tq c k ∧ tq c k < 1000000000000000000 := by
  induction k with
  | zero => exact ⟨h1, h2⟩
  | succ k ih =>
    obtain ⟨p, q⟩ := tdiv10 (tq c k)
    rw [tq]
    rcases Int.le_total 0 (tq c k) with g | g
    · rw [p g]; omega
    · rw [q g]; omega

def flW (c : Int) (k : Nat) : Int := if c < 0 then tq c k - 1 else tq c k
def ceW (c : Int) (k : Nat) : Int := if 0 < c then tq c k + 1 else tq c k

theorem fl_spec {c : Int} (h0 : c ≠ 0) (k : Nat) : ceW c k = flW c k + 1 ∧ tens (flW c k) k ≤ c ∧ c ≤ tens (ceW c k) k := by
  obtain ⟨a, b⟩ := tq_spec c k
  rcases Int.lt_trichotomy c 0 with g | g | g
  · obtain ⟨b1, b2, b3⟩ := b (by omega)
    have e1 : flW c k = tq c k - 1 := by unfold flW; rw [if_pos g]
    have e2 : ceW c k = tq c k := by unfold ceW; rw [if_neg (by omega)]
    rw [e1, e2]
    refine ⟨by omega, by omega, b2⟩
  · exact absurd g h0
  · obtain ⟨a1, a2, a3⟩ := a (by omega)
    have e1 : flW c k = tq c k := by unfold flW; rw [if_neg (by omega)]
    have e2 : ceW c k = tq c k + 1 := by unfold ceW; rw [if_pos g]
    rw [e1, e2]
    refine ⟨by omega, a2, by omega⟩
theorem fl_bd {c : Int} (h1 : -1000000000000000000 < c) (h2 : c < 1000000000000000000) (k : Nat) : (-1000000000000000000 ≤ flW c k ∧ flW c k < 1000000000000000000) ∧ (-1000000000000000000 < ceW c k ∧ ceW c k ≤ 1000000000000000000) := by
  have t := tq_bd h1 h2 k
  unfold flW ceW
  split <;> split <;> omega

theorem tz_le {c : Int} (hc : c ≠ 0) (hl : (c.natAbs : Int) ≤ 1000000000000000000) : tz c ≤ 18 := by
  obtain ⟨a, b⟩ := tz_of hc hl
  rcases Nat.lt_or_ge 18 (tz c) with g | g
  · exfalso
    have t0 : tc c ≠ 0 := by intro z; rw [z] at b; exact b rfl
    have m := tens_mono (n := 1) (by omega) (show 19 ≤ tz c by omega)
    rw [tens_1_19] at m
    rcases Int.lt_trichotomy (tc c) 0 with q | q | q
    · have u := tens_le (n := -(tc c)) (by omega) (tz c)
      rw [tens_neg] at u
      omega
    · exact t0 q
    · have u := tens_le (n := tc c) (by omega) (tz c)
      omega
  · exact g

/-- what is ntold of a whole number that is not too great -/
theorem whole_told {w : Int} (h1 : -1000000000000000000 ≤ w) (h2 : w ≤ 1000000000000000000) :
    fR w 0 = 0 ∧ wrongN (fC w 0) (fE w 0) = 0 ∧ V (fC w 0) (fE w 0) = tens w 40 ∧ 0 ≤ fE w 0 ∧ fE w 0 ≤ 18 ∧ tens (fC w 0) (fE w 0).toNat = w := by
  by_cases h0 : w = 0
  · subst h0
    refine ⟨rfl, by decide, by decide, by decide, by decide, by decide⟩
  · obtain ⟨a, b⟩ := tz_of h0 (by omega)
    have t := tz_le h0 (by omega)
    have g : ¬ (40 : Int) < 0 + (tz w : Int) := by omega
    have eC : fC w 0 = tc w := by unfold fC; rw [if_neg h0, if_neg g]
    have eE : fE w 0 = (tz w : Int) := by unfold fE; rw [if_neg h0, if_neg g]; omega
    have eR : fR w 0 = 0 := by unfold fR; rw [if_neg h0, if_neg g]
    have bnd : -1000000000000000000 < tc w ∧ tc w < 1000000000000000000 := by
      by_cases hz : tz w = 0
      · rw [hz] at a
        have a' : w = tc w := a
        have : tc w ≠ 1000000000000000000 := by intro q; rw [q] at b; exact b (by decide)
        have : tc w ≠ -1000000000000000000 := by intro q; rw [q] at b; exact b (by decide)
        omega
      · have m := tens_mono (n := 1) (by omega) (show 1 ≤ tz w by omega)
        have e1 : tens 1 1 = 10 := by decide
        obtain ⟨k, hk⟩ : ∃ k, tz w = k + 1 := ⟨tz w - 1, by omega⟩
        rw [hk] at a
        have p := @tens_pos
        rcases Int.lt_trichotomy (tc w) 0 with q | q | q
        · have u := tens_mono (n := -(tc w)) (by omega) (show 1 ≤ k + 1 by omega)
          rw [tens_neg (tc w) (k + 1), ← a] at u
          have : tens (-tc w) 1 = -tc w * 10 := rfl
          omega
        · rw [q] at b; exact absurd rfl b
        · have u := tens_mono (n := tc w) (by omega) (show 1 ≤ k + 1 by omega)
          rw [← a] at u
          have : tens (tc w) 1 = tc w * 10 := rfl
          omega
    refine ⟨eR, ?_, ?_, by omega, by omega, ?_⟩
    · rw [eC, eE]
      unfold wrongN
      rw [if_neg (by omega), if_neg (fun q => b q.1)]
    · rw [eC, eE]
      unfold V
      rw [show ((tz w : Int) + 40).toNat = tz w + 40 by omega, ← tens_add, ← a]
    · rw [eC, eE, Int.toNat_natCast, ← a]

theorem tens_one {S : Int} {k : Nat} (h : tens S k = 1) : S = 1 ∧ k = 0 := by
  cases k with
  | zero => exact ⟨h, rfl⟩
  | succ k => rw [tens] at h; omega

/-- the one between a number's two neighbours -/
theorem one_between {f g : Int} (hf1 : -1000000000000000000 ≤ f) (hf2 : f ≤ 1000000000000000000) (hg1 : -1000000000000000000 ≤ g) (hg2 : g ≤ 1000000000000000000) (h : g = f + 1) :
    addS (fC g 0) (fE g 0) (-(fC f 0)) (fE f 0) = 1 ∧ min (fE g 0) (fE f 0) = 0 := by
  obtain ⟨_, _, _, f3, f4, f5⟩ := whole_told hf1 hf2
  obtain ⟨_, _, _, g3, g4, g5⟩ := whole_told hg1 hg2
  have e : tens (addS (fC g 0) (fE g 0) (-(fC f 0)) (fE f 0)) (min (fE g 0) (fE f 0)).toNat = 1 := by
    unfold addS
    rw [tens_eq, Int.add_mul, ← tens_eq, ← tens_eq, tens_add, tens_add]
    rw [show (fE g 0 - min (fE g 0) (fE f 0)).toNat + (min (fE g 0) (fE f 0)).toNat = (fE g 0).toNat by omega, show (fE f 0 - min (fE g 0) (fE f 0)).toNat + (min (fE g 0) (fE f 0)).toNat = (fE f 0).toNat by omega, g5, tens_neg, f5]
    omega
  obtain ⟨a, b⟩ := tens_one e
  exact ⟨a, by omega⟩

/-- what is rounded to a multiple of 10^y, of fewer than eighteen digits -/
theorem round_told {C y : Int} (h1 : -1000000000000000000 ≤ C) (h2 : C ≤ 1000000000000000000) (hy1 : -40 ≤ y) (hr : fR C y = 0) :
    wrongN (fC C y) (fE C y) = 0 ∧ (fC C y ≠ 0 → y ≤ fE C y) ∧ (fC C y = 0 → fE C y = 0) := by
  by_cases h0 : C = 0
  · subst h0
    refine ⟨by simp [fC, fE]; decide, by simp [fC], by simp [fE]⟩
  · obtain ⟨a, b⟩ := tz_of h0 (by omega)
    have g : ¬ (40 : Int) < y + (tz C : Int) := by
      intro q
      unfold fR at hr
      rw [if_neg h0, if_pos q] at hr
      omega
    have eC : fC C y = tc C := by unfold fC; rw [if_neg h0, if_neg g]
    have eE : fE C y = y + (tz C : Int) := by unfold fE; rw [if_neg h0, if_neg g]
    have w := (whole_told h1 h2).2.1
    have g0 : ¬ (40 : Int) < 0 + (tz C : Int) := by have := tz_le h0 (by omega); omega
    have eC0 : fC C 0 = tc C := by unfold fC; rw [if_neg h0, if_neg g0]
    have eE0 : fE C 0 = (tz C : Int) := by unfold fE; rw [if_neg h0, if_neg g0]; omega
    rw [eC0, eE0] at w
    obtain ⟨w1, w2, _, _, _⟩ := wrong_ok w
    rw [eC, eE]
    refine ⟨?_, fun _ => by omega, fun q => ?_⟩
    · unfold wrongN
      rw [if_neg (by omega), if_neg (fun q => b q.1)]
    · rw [q] at b; exact absurd rfl b
end Dm

/- Plain facts: what can be ntold exactly is. No Go in sight. -/
namespace Dm

theorem has_len : ∀ (m n : Nat), 1 ≤ n → n < 10 ^ m → ∃ L, 1 ≤ L ∧ L ≤ m ∧ 10 ^ (L - 1) ≤ n ∧ n < 10 ^ L
  | 0, n, h, l => by simp at l; omega
  | m + 1, n, h, l => by
    by_cases g : n < 10 ^ m
    · obtain ⟨L, a, b, c, d⟩ := has_len m n h g
      exact ⟨L, a, by omega, c, d⟩
    · exact ⟨m + 1, by omega, Nat.le_refl _, by simpa using g, l⟩
theorem nd_tens {n L j : Nat} (h1 : 1 ≤ L) (h2 : L + j ≤ 200) (h3 : 10 ^ (L - 1) ≤ n) (h4 : n < 10 ^ L) : nd (n * 10 ^ j) = L + j := by
  refine nd_at h2 ?_ (.inr ?_)
  · rw [Nat.pow_add]; exact Nat.mul_lt_mul_of_pos_right h4 (p10_pos j)
  · rw [show L + j - 1 = L - 1 + j by omega, Nat.pow_add]; exact Nat.mul_le_mul_right _ h3
theorem rnd_exact (m k : Nat) (R : Bool) (hR : R = false) : rnd (m * 10 ^ k) (10 ^ k) R = m := by
  subst hR
  have p := p10_pos k
  unfold rnd up
  rw [Nat.mul_mod_left, Nat.mul_div_cancel _ p, if_neg]
  simp
  omega
/-- what comes of a number with noughts at its end: the number times a power of ten -/
theorem sc_exact {n j k : Nat} {s : Int} (h : (j : Int) + s = (k : Int)) : sc (n * 10 ^ j) s false = n * 10 ^ k := by
  unfold sc
  by_cases g : 0 ≤ s
  · rw [if_pos g, Nat.mul_assoc, ← Nat.pow_add]
    congr 2
    omega
  · rw [if_neg g, show j = k + (-s).toNat by omega, Nat.pow_add, ← Nat.mul_assoc]
    exact rnd_exact _ _ _ rfl
theorem sg_tens {c : Int} (k : Nat) {S : Int} (j : Nat) (hS : S = tens c j) : sg (decide (S < 0)) (c.natAbs * 10 ^ k) = tens c k := by
  have a := tens_abs c k
  have b := tens_abs c j
  have p := p10_pos j
  unfold sg
  rcases Int.lt_trichotomy c 0 with g | g | g
  · have : S < 0 := by
      rw [hS, b.1 g]
      have := Nat.mul_pos (show 0 < c.natAbs by omega) p
      omega
    rw [decide_eq_true this, if_pos rfl, a.1 g]
  · subst g
    rw [a.2 (by omega)]
    simp
  · have : ¬ S < 0 := by rw [hS, b.2 (by omega)]; omega
    rw [decide_eq_false this, if_neg (by decide), a.2 (by omega)]

/-- what can be ntold exactly is -/
theorem exact_told {c x S : Int} {j : Nat} (h : wrongN c x = 0) (hj : j ≤ 100) (hS : S = tens c j) :
    fC (nearZ S (x - j) false) (nE S.natAbs (x - j)) = c ∧ fE (nearZ S (x - j) false) (nE S.natAbs (x - j)) = x ∧ fR (nearZ S (x - j) false) (nE S.natAbs (x - j)) = 0 := by
  obtain ⟨p1, p2, p3, p4, p5⟩ := wrong_ok h
  by_cases h0 : c = 0
  · have hx : x = 0 := (p5 (by rw [h0]; rfl)).2
    subst h0
    rw [tens_zero] at hS
    subst hS
    have e : nearZ 0 (x - j) false = 0 := by
      unfold nearZ
      rw [show Int.natAbs 0 = 0 by rfl, nQ_zero]
      rfl
    rw [e]
    subst hx
    simp [fC, fE, fR]
  · have hc : c.tmod 10 ≠ 0 := fun q => h0 (p5 q).1
    obtain ⟨L, l1, l2, l3, l4⟩ := has_len 18 c.natAbs (by omega) (by omega)
    have hN : S.natAbs = c.natAbs * 10 ^ j := by
      rcases Int.lt_trichotomy c 0 with g | g | g
      · rw [hS, (tens_abs c j).1 g]; omega
      · exact absurd g h0
      · rw [hS, (tens_abs c j).2 (by omega)]; omega
    have hE : nE S.natAbs (x - j) = max (-40) (x + L - 18) := by
      unfold nE
      rw [hN, nd_tens l1 (by omega) l3 l4]
      congr 1
      omega
    obtain ⟨k, hk⟩ : ∃ k : Nat, x - nE S.natAbs (x - j) = (k : Int) := ⟨(x - nE S.natAbs (x - j)).toNat, by rw [hE]; omega⟩
    have hkl : k + L ≤ 18 := by rw [hE] at hk; omega
    have hq : nQ S.natAbs (x - j) false = c.natAbs * 10 ^ k := by
      unfold nQ
      rw [hN] at hk ⊢
      exact sc_exact (by omega)
    have hZ : nearZ S (x - j) false = tens c k := by
      unfold nearZ
      rw [hq]
      exact sg_tens k j hS
    have hb : c.natAbs * 10 ^ k < 10 ^ 18 := by
      have a : c.natAbs * 10 ^ k < 10 ^ L * 10 ^ k := Nat.mul_lt_mul_of_pos_right l4 (p10_pos k)
      have b : 10 ^ L * 10 ^ k ≤ 10 ^ 18 := by rw [← Nat.pow_add]; exact Nat.pow_le_pow_right (by decide) (by omega)
      omega
    have hab : ((tens c k).natAbs : Int) ≤ 1000000000000000000 := by
      rcases Int.lt_trichotomy c 0 with g | g | g
      · rw [(tens_abs c k).1 g]; omega
      · exact absurd g h0
      · rw [(tens_abs c k).2 (by omega)]; omega
    obtain ⟨t1, t2⟩ := tz_at (c := tens c k) rfl hc hab
    have hne : tens c k ≠ 0 := by
      have p := p10_pos k
      have := Nat.mul_pos (show 0 < c.natAbs by omega) p
      rcases Int.lt_trichotomy c 0 with g | g | g
      · rw [(tens_abs c k).1 g]; omega
      · exact absurd g h0
      · rw [(tens_abs c k).2 (by omega)]; omega
    rw [hZ]
    unfold fC fE fR
    rw [if_neg hne, if_neg hne, if_neg hne, t1, t2]
    have g : ¬ 40 < nE S.natAbs (x - j) + (k : Int) := by omega
    rw [if_neg g, if_neg g, if_neg g]
    exact ⟨rfl, by omega, rfl⟩
end Dm
