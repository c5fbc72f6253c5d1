/- Plain facts on cutting digits off, and on what is rounded: no Go in sight. -/
import Derived.Test.YtibkemolmpcdcaaG09
namespace Dm

/-- k digits cut off, towards 0 -/
def tq (c : Int) : Nat → Int
  | 0 => c
  | k + 1 => (tq c k).tdiv 10
theorem tdiv10 (c : Int) : (0 ≤ c → c.tdiv 10 = c / 10) ∧ (c ≤ 0 → c.tdiv 10 = -((-c) / 10)) := by
  refine ⟨fun h => Int.tdiv_eq_ediv_of_nonneg h, fun h => ?_⟩
  have e := Int.neg_tdiv (a := -c) (b := 10)
  rw [Int.neg_neg] at e
  rw [e, Int.tdiv_eq_ediv_of_nonneg (by omega)]
theorem tq_spec (c : Int) : ∀ k, (0 ≤ c → 0 ≤ tq c k ∧ tens (tq c k) k ≤ c ∧ c < tens (tq c k + 1) k) ∧ (c ≤ 0 → tq c k ≤ 0 ∧ c ≤ tens (tq c k) k ∧ tens (tq c k - 1) k < c)
  | 0 => by simp only [tq, tens]; omega
  | k + 1 => by
    obtain ⟨a, b⟩ := tq_spec c k
    obtain ⟨p, q⟩ := tdiv10 (tq c k)
    have t1 : ∀ v : Int, tens v (k + 1) = tens (v * 10) k := by intro v; rw [show k + 1 = 1 + k by omega, ← tens_add]; rfl
    have m := @tens_le_tens
    refine ⟨fun h => ?_, fun h => ?_⟩
    · obtain ⟨a1, a2, a3⟩ := a h
      rw [tq, p a1, t1, t1]
      have l1 := @tens_le_tens (tq c k / 10 * 10) (tq c k) (by omega) k
      have l2 := @tens_le_tens (tq c k + 1) ((tq c k / 10 + 1) * 10) (by omega) k
      omega
    · obtain ⟨b1, b2, b3⟩ := b h
      rw [tq, q b1, t1, t1]
      have l1 := @tens_le_tens (tq c k) (-(-tq c k / 10) * 10) (by omega) k
      have l2 := @tens_le_tens ((-(-tq c k / 10) - 1) * 10) (tq c k - 1) (by omega) k
      omega
theorem tq_bd {c : Int} (h1 : -1000000000000000000 < c) (h2 : c < 1000000000000000000) (k : Nat) : -1000000000000000000 < tq c k ∧ tq c k < 1000000000000000000 := by
  induction k with
  | zero => exact ⟨h1, h2⟩
  | succ k ih =>
    obtain ⟨p, q⟩ := tdiv10 (tq c k)
    rw [tq]
    rcases Int.le_total 0 (tq c k) with g | g
    · rw [p g]; omega
    · rw [q g]; omega

def flW (c : Int) (k : Nat) : Int := if c < 0 then tq c k - 1 else tq c k
def ceW (c : Int) (k : Nat) : Int := if 0 < c then tq c k + 1 else tq c k

theorem fl_spec {c : Int} (h0 : c ≠ 0) (k : Nat) : ceW c k = flW c k + 1 ∧ tens (flW c k) k ≤ c ∧ c ≤ tens (ceW c k) k := by
  obtain ⟨a, b⟩ := tq_spec c k
  rcases Int.lt_trichotomy c 0 with g | g | g
  · obtain ⟨b1, b2, b3⟩ := b (by omega)
    have e1 : flW c k = tq c k - 1 := by unfold flW; rw [if_pos g]
    have e2 : ceW c k = tq c k := by unfold ceW; rw [if_neg (by omega)]
    rw [e1, e2]
    refine ⟨by omega, by omega, b2⟩
  · exact absurd g h0
  · obtain ⟨a1, a2, a3⟩ := a (by omega)
    have e1 : flW c k = tq c k := by unfold flW; rw [if_neg (by omega)]
    have e2 : ceW c k = tq c k + 1 := by unfold ceW; rw [if_pos g]
    rw [e1, e2]
    refine ⟨by omega, a2, by omega⟩
theorem fl_bd {c : Int} (h1 : -1000000000000000000 < c) (h2 : c < 1000000000000000000) (k : Nat) : (-1000000000000000000 ≤ flW c k ∧ flW c k < 1000000000000000000) ∧ (-1000000000000000000 < ceW c k ∧ ceW c k ≤ 1000000000000000000) := by
  have t := tq_bd h1 h2 k
  unfold flW ceW
  split <;> split <;> omega

theorem tz_le {c : Int} (hc : c ≠ 0) (hl : (c.natAbs : Int) ≤ 1000000000000000000) : tz c ≤ 18 := by
  obtain ⟨a, b⟩ := tz_of hc hl
  rcases Nat.lt_or_ge 18 (tz c) with g | g
  · exfalso
    have t0 : tc c ≠ 0 := by intro z; rw [z] at b; exact b rfl
    have m := tens_mono (n := 1) (by omega) (show 19 ≤ tz c by omega)
    rw [tens_1_19] at m
    rcases Int.lt_trichotomy (tc c) 0 with q | q | q
    · have u := tens_le (n := -(tc c)) (by omega) (tz c)
      rw [tens_neg] at u
      omega
    · exact t0 q
    · have u := tens_le (n := tc c) (by omega) (tz c)
      omega
  · exact g

/-- what is told of a whole number that is not too great -/
theorem whole_told {w : Int} (h1 : -1000000000000000000 ≤ w) (h2 : w ≤ 1000000000000000000) :
    fR w 0 = 0 ∧ wrongN (fC w 0) (fE w 0) = 0 ∧ V (fC w 0) (fE w 0) = tens w 40 ∧ 0 ≤ fE w 0 ∧ fE w 0 ≤ 18 ∧ tens (fC w 0) (fE w 0).toNat = w := by
  by_cases h0 : w = 0
  · subst h0
    refine ⟨rfl, by decide, by decide, by decide, by decide, by decide⟩
  · obtain ⟨a, b⟩ := tz_of h0 (by omega)
    have t := tz_le h0 (by omega)
    have g : ¬ (40 : Int) < 0 + (tz w : Int) := by omega
    have eC : fC w 0 = tc w := by unfold fC; rw [if_neg h0, if_neg g]
    have eE : fE w 0 = (tz w : Int) := by unfold fE; rw [if_neg h0, if_neg g]; omega
    have eR : fR w 0 = 0 := by unfold fR; rw [if_neg h0, if_neg g]
    have bnd : -1000000000000000000 < tc w ∧ tc w < 1000000000000000000 := by
      by_cases hz : tz w = 0
      · rw [hz] at a
        have a' : w = tc w := a
        have : tc w ≠ 1000000000000000000 := by intro q; rw [q] at b; exact b (by decide)
        have : tc w ≠ -1000000000000000000 := by intro q; rw [q] at b; exact b (by decide)
        omega
      · have m := tens_mono (n := 1) (by omega) (show 1 ≤ tz w by omega)
        have e1 : tens 1 1 = 10 := by decide
        obtain ⟨k, hk⟩ : ∃ k, tz w = k + 1 := ⟨tz w - 1, by omega⟩
        rw [hk] at a
        have p := @tens_pos
        rcases Int.lt_trichotomy (tc w) 0 with q | q | q
        · have u := tens_mono (n := -(tc w)) (by omega) (show 1 ≤ k + 1 by omega)
          rw [tens_neg (tc w) (k + 1), ← a] at u
          have : tens (-tc w) 1 = -tc w * 10 := rfl
          omega
        · rw [q] at b; exact absurd rfl b
        · have u := tens_mono (n := tc w) (by omega) (show 1 ≤ k + 1 by omega)
          rw [← a] at u
          have : tens (tc w) 1 = tc w * 10 := rfl
          omega
    refine ⟨eR, ?_, ?_, by omega, by omega, ?_⟩
    · rw [eC, eE]
      unfold wrongN
      rw [if_neg (by omega), if_neg (fun q => b q.1)]
    · rw [eC, eE]
      unfold V
      rw [show ((tz w : Int) + 40).toNat = tz w + 40 by omega, ← tens_add, ← a]
    · rw [eC, eE, Int.toNat_natCast, ← a]

theorem tens_one {S : Int} {k : Nat} (h : tens S k = 1) : S = 1 ∧ k = 0 := by
  cases k with
  | zero => exact ⟨h, rfl⟩
  | succ k => rw [tens] at h; omega

/-- the one between a number's two neighbours -/
theorem one_between {f g : Int} (hf1 : -1000000000000000000 ≤ f) (hf2 : f ≤ 1000000000000000000) (hg1 : -1000000000000000000 ≤ g) (hg2 : g ≤ 1000000000000000000) (h : g = f + 1) :
    addS (fC g 0) (fE g 0) (-(fC f 0)) (fE f 0) = 1 ∧ min (fE g 0) (fE f 0) = 0 := by
  obtain ⟨_, _, _, f3, f4, f5⟩ := whole_told hf1 hf2
  obtain ⟨_, _, _, g3, g4, g5⟩ := whole_told hg1 hg2
  have e : tens (addS (fC g 0) (fE g 0) (-(fC f 0)) (fE f 0)) (min (fE g 0) (fE f 0)).toNat = 1 := by
    unfold addS
    rw [tens_eq, Int.add_mul, ← tens_eq, ← tens_eq, tens_add, tens_add]
    rw [show (fE g 0 - min (fE g 0) (fE f 0)).toNat + (min (fE g 0) (fE f 0)).toNat = (fE g 0).toNat by omega, show (fE f 0 - min (fE g 0) (fE f 0)).toNat + (min (fE g 0) (fE f 0)).toNat = (fE f 0).toNat by omega, g5, tens_neg, f5]
    omega
  obtain ⟨a, b⟩ := tens_one e
  exact ⟨a, by omega⟩

/-- what is rounded to a multiple of 10^y, of fewer than eighteen digits -/
theorem round_told {C y : Int} (h1 : -1000000000000000000 ≤ C) (h2 : C ≤ 1000000000000000000) (hy1 : -40 ≤ y) (hr : fR C y = 0) :
    wrongN (fC C y) (fE C y) = 0 ∧ (fC C y ≠ 0 → y ≤ fE C y) ∧ (fC C y = 0 → fE C y = 0) := by
  by_cases h0 : C = 0
  · subst h0
    refine ⟨by simp [fC, fE]; decide, by simp [fC], by simp [fE]⟩
  · obtain ⟨a, b⟩ := tz_of h0 (by omega)
    have g : ¬ (40 : Int) < y + (tz C : Int) := by
      intro q
      unfold fR at hr
      rw [if_neg h0, if_pos q] at hr
      omega
    have eC : fC C y = tc C := by unfold fC; rw [if_neg h0, if_neg g]
    have eE : fE C y = y + (tz C : Int) := by unfold fE; rw [if_neg h0, if_neg g]
    have w := (whole_told h1 h2).2.1
    have g0 : ¬ (40 : Int) < 0 + (tz C : Int) := by have := tz_le h0 (by omega); omega
    have eC0 : fC C 0 = tc C := by unfold fC; rw [if_neg h0, if_neg g0]
    have eE0 : fE C 0 = (tz C : Int) := by unfold fE; rw [if_neg h0, if_neg g0]; omega
    rw [eC0, eE0] at w
    obtain ⟨w1, w2, _, _, _⟩ := wrong_ok w
    rw [eC, eE]
    refine ⟨?_, fun _ => by omega, fun q => ?_⟩
    · unfold wrongN
      rw [if_neg (by omega), if_neg (fun q => b q.1)]
    · rw [q] at b; exact absurd rfl b
end Dm

/- Plain facts: what can be told exactly is. No Go in sight. -/
namespace Dm

theorem has_len : ∀ (m n : Nat), 1 ≤ n → n < 10 ^ m → ∃ L, 1 ≤ L ∧ L ≤ m ∧ 10 ^ (L - 1) ≤ n ∧ n < 10 ^ L
  | 0, n, h, l => by simp at l; omega
  | m + 1, n, h, l => by
    by_cases g : n < 10 ^ m
    · obtain ⟨L, a, b, c, d⟩ := has_len m n h g
      exact ⟨L, a, by omega, c, d⟩
    · exact ⟨m + 1, by omega, Nat.le_refl _, by simpa using g, l⟩
theorem nd_tens {n L j : Nat} (h1 : 1 ≤ L) (h2 : L + j ≤ 200) (h3 : 10 ^ (L - 1) ≤ n) (h4 : n < 10 ^ L) : nd (n * 10 ^ j) = L + j := by
  refine nd_at h2 ?_ (.inr ?_)
  · rw [Nat.pow_add]; exact Nat.mul_lt_mul_of_pos_right h4 (p10_pos j)
  · rw [show L + j - 1 = L - 1 + j by omega, Nat.pow_add]; exact Nat.mul_le_mul_right _ h3
theorem rnd_exact (m k : Nat) (R : Bool) (hR : R = false) : rnd (m * 10 ^ k) (10 ^ k) R = m := by
  subst hR
  have p := p10_pos k
  unfold rnd up
  rw [Nat.mul_mod_left, Nat.mul_div_cancel _ p, if_neg]
  simp
  omega
/-- what comes of a number with noughts at its end: the number times a power of ten -/
theorem sc_exact {n j k : Nat} {s : Int} (h : (j : Int) + s = (k : Int)) : sc (n * 10 ^ j) s false = n * 10 ^ k := by
  unfold sc
  by_cases g : 0 ≤ s
  · rw [if_pos g, Nat.mul_assoc, ← Nat.pow_add]
    congr 2
    omega
  · rw [if_neg g, show j = k + (-s).toNat by omega, Nat.pow_add, ← Nat.mul_assoc]
    exact rnd_exact _ _ _ rfl
theorem sg_tens {c : Int} (k : Nat) {S : Int} (j : Nat) (hS : S = tens c j) : sg (decide (S < 0)) (c.natAbs * 10 ^ k) = tens c k := by
  have a := tens_abs c k
  have b := tens_abs c j
  have p := p10_pos j
  unfold sg
  rcases Int.lt_trichotomy c 0 with g | g | g
  · have : S < 0 := by
      rw [hS, b.1 g]
      have := Nat.mul_pos (show 0 < c.natAbs by omega) p
      omega
    rw [decide_eq_true this, if_pos rfl, a.1 g]
  · subst g
    rw [a.2 (by omega)]
    simp
  · have : ¬ S < 0 := by rw [hS, b.2 (by omega)]; omega
    rw [decide_eq_false this, if_neg (by decide), a.2 (by omega)]

/-- what can be told exactly is -/
theorem exact_told {c x S : Int} {j : Nat} (h : wrongN c x = 0) (hj : j ≤ 100) (hS : S = tens c j) :
    fC (nearZ S (x - j) false) (nE S.natAbs (x - j)) = c ∧ fE (nearZ S (x - j) false) (nE S.natAbs (x - j)) = x ∧ fR (nearZ S (x - j) false) (nE S.natAbs (x - j)) = 0 := by
  obtain ⟨p1, p2, p3, p4, p5⟩ := wrong_ok h
  by_cases h0 : c = 0
  · have hx : x = 0 := (p5 (by rw [h0]; rfl)).2
    subst h0
    rw [tens_zero] at hS
    subst hS
    have e : nearZ 0 (x - j) false = 0 := by
      unfold nearZ
      rw [show Int.natAbs 0 = 0 by rfl, nQ_zero]
      rfl
    rw [e]
    subst hx
    simp [fC, fE, fR]
  · have hc : c.tmod 10 ≠ 0 := fun q => h0 (p5 q).1
    obtain ⟨L, l1, l2, l3, l4⟩ := has_len 18 c.natAbs (by omega) (by omega)
    have hN : S.natAbs = c.natAbs * 10 ^ j := by
      rcases Int.lt_trichotomy c 0 with g | g | g
      · rw [hS, (tens_abs c j).1 g]; omega
      · exact absurd g h0
      · rw [hS, (tens_abs c j).2 (by omega)]; omega
    have hE : nE S.natAbs (x - j) = max (-40) (x + L - 18) := by
      unfold nE
      rw [hN, nd_tens l1 (by omega) l3 l4]
      congr 1
      omega
    obtain ⟨k, hk⟩ : ∃ k : Nat, x - nE S.natAbs (x - j) = (k : Int) := ⟨(x - nE S.natAbs (x - j)).toNat, by rw [hE]; omega⟩
    have hkl : k + L ≤ 18 := by rw [hE] at hk; omega
    have hq : nQ S.natAbs (x - j) false = c.natAbs * 10 ^ k := by
      unfold nQ
      rw [hN] at hk ⊢
      exact sc_exact (by omega)
    have hZ : nearZ S (x - j) false = tens c k := by
      unfold nearZ
      rw [hq]
      exact sg_tens k j hS
    have hb : c.natAbs * 10 ^ k < 10 ^ 18 := by
      have a : c.natAbs * 10 ^ k < 10 ^ L * 10 ^ k := Nat.mul_lt_mul_of_pos_right l4 (p10_pos k)
      have b : 10 ^ L * 10 ^ k ≤ 10 ^ 18 := by rw [← Nat.pow_add]; exact Nat.pow_le_pow_right (by decide) (by omega)
      omega
    have hab : ((tens c k).natAbs : Int) ≤ 1000000000000000000 := by
      rcases Int.lt_trichotomy c 0 with g | g | g
      · rw [(tens_abs c k).1 g]; omega
      · exact absurd g h0
      · rw [(tens_abs c k).2 (by omega)]; omega
    obtain ⟨t1, t2⟩ := tz_at (c := tens c k) rfl hc hab
    have hne : tens c k ≠ 0 := by
      have p := p10_pos k
      have := Nat.mul_pos (show 0 < c.natAbs by omega) p
      rcases Int.lt_trichotomy c 0 with g | g | g
      · rw [(tens_abs c k).1 g]; omega
      · exact absurd g h0
      · rw [(tens_abs c k).2 (by omega)]; omega
    rw [hZ]
    unfold fC fE fR
    rw [if_neg hne, if_neg hne, if_neg hne, t1, t2]
    have g : ¬ 40 < nE S.natAbs (x - j) + (k : Int) := by omega
    rw [if_neg g, if_neg g, if_neg g]
    exact ⟨rfl, by omega, rfl⟩
end Dm

/- Plain facts: what is more stays more. No Go in sight. -/
namespace Dm

theorem rnd_mono {a b p : Nat} (R : Bool) (h : a ≤ b) : rnd a p R ≤ rnd b p R := by
  have hq : a / p ≤ b / p := Nat.div_le_div_right h
  rcases Nat.lt_or_ge (a / p) (b / p) with g | g
  · unfold rnd
    split <;> split <;> omega
  · have e : a / p = b / p := Nat.le_antisymm hq g
    have da := Nat.div_add_mod a p
    have db := Nat.div_add_mod b p
    rw [e] at da
    have hr : a % p ≤ b % p := by omega
    have hu : up a p R = true → up b p R = true := by
      unfold up
      rw [e]
      simp only [decide_eq_true_eq]
      intro q
      rcases q with q | ⟨q, t⟩
      · left; omega
      · rcases Nat.lt_or_ge p (2 * (b % p)) with z | z
        · left; exact z
        · right; exact ⟨by omega, t⟩
    unfold rnd
    by_cases u : up a p R = true
    · rw [if_pos u, if_pos (hu u)]; omega
    · rw [if_neg u]; split <;> omega
theorem rnd_scale (N q j : Nat) (R : Bool) : rnd (N * 10 ^ j) (q * 10 ^ j) R = rnd N q R := by
  have p := p10_pos j
  have u : up (N * 10 ^ j) (q * 10 ^ j) R = up N q R := by
    unfold up
    rw [Nat.mul_div_mul_right _ _ p, Nat.mul_mod_mul_right]
    congr 1
    have a : q * 10 ^ j < 2 * (N % q * 10 ^ j) ↔ q < 2 * (N % q) := by
      rw [← Nat.mul_assoc]; exact Nat.mul_lt_mul_right p
    have b : 2 * (N % q * 10 ^ j) = q * 10 ^ j ↔ 2 * (N % q) = q := by
      rw [← Nat.mul_assoc]; exact Nat.mul_right_cancel_iff p
    rw [a, b]
  unfold rnd
  rw [u, Nat.mul_div_mul_right _ _ p]
theorem sc_shift (N j : Nat) (s : Int) : sc (N * 10 ^ j) (s - j) false = sc N s false := by
  by_cases h : 0 ≤ s
  · obtain ⟨k, hk⟩ : ∃ k : Nat, s = (k : Int) := ⟨s.toNat, by omega⟩
    rw [sc_exact (k := k) (by omega)]
    unfold sc
    rw [if_pos h, hk, Int.toNat_natCast]
  · unfold sc
    rw [if_neg h, if_neg (by omega), show (-(s - j)).toNat = (-s).toNat + j by omega, Nat.pow_add]
    exact rnd_scale _ _ _ _

theorem p10_lt {a b : Nat} (h : 10 ^ a < 10 ^ b) : a < b := (Nat.pow_lt_pow_iff_right (by decide)).1 h
theorem p10_le {a b : Nat} (h : a ≤ b) : 10 ^ a ≤ 10 ^ b := Nat.pow_le_pow_right (by decide) h
theorem nd_spec {N : Nat} (h : 1 ≤ N) (hl : N < 10 ^ 200) : 1 ≤ nd N ∧ nd N ≤ 200 ∧ 10 ^ (nd N - 1) ≤ N ∧ N < 10 ^ nd N := by
  obtain ⟨L, a, b, c, d⟩ := has_len 200 N h hl
  have e : nd N = L := nd_at b d (.inr c)
  rw [e]
  exact ⟨a, b, c, d⟩
theorem nd_zero : nd 0 = 0 := by decide
theorem nd_mono {a b : Nat} (h : a ≤ b) (hb : b < 10 ^ 200) : nd a ≤ nd b := by
  rcases Nat.eq_zero_or_pos a with z | z
  · subst z; rw [nd_zero]; omega
  · obtain ⟨a1, a2, a3, a4⟩ := nd_spec z (by omega)
    obtain ⟨b1, b2, b3, b4⟩ := nd_spec (N := b) (by omega) hb
    have := p10_lt (a := nd a - 1) (b := nd b) (by omega)
    omega
theorem nd_shift {N j : Nat} (h : 1 ≤ N) (hl : N * 10 ^ j < 10 ^ 200) : nd (N * 10 ^ j) = nd N + j := by
  have p := p10_pos j
  have n : N ≤ N * 10 ^ j := Nat.le_mul_of_pos_right _ p
  obtain ⟨a1, a2, a3, a4⟩ := nd_spec h (by omega)
  have q : 10 ^ (nd N - 1 + j) ≤ N * 10 ^ j := by rw [Nat.pow_add]; exact Nat.mul_le_mul_right _ a3
  have := p10_lt (a := nd N - 1 + j) (b := 200) (by omega)
  exact nd_tens a1 (by omega) a3 a4

/-- what stands at 10^-80, told in units of 10^-40 -/
def uE (N : Nat) : Nat := (nE N (-80) + 40).toNat
def uQ (N : Nat) : Nat := nQ N (-80) false * 10 ^ uE N
theorem uE_eq {N : Nat} : (uE N : Int) = nE N (-80) + 40 ∧ nQ N (-80) false = rnd N (10 ^ (uE N + 40)) false := by
  have e : nE N (-80) = max (-40 : Int) (-80 + (nd N : Int) - 18) := rfl
  have a : (uE N : Int) = nE N (-80) + 40 := by unfold uE; omega
  refine ⟨a, ?_⟩
  unfold nQ sc
  rw [if_neg (by omega), show (-(-80 - nE N (-80))).toNat = uE N + 40 by omega]
theorem uQ_le {N : Nat} (hN : N < 10 ^ 200) : nQ N (-80) false ≤ 10 ^ 18 := by
  obtain ⟨a, b⟩ := @uE_eq N
  have e : nE N (-80) = max (-40 : Int) (-80 + (nd N : Int) - 18) := rfl
  rw [b]
  rcases Nat.eq_zero_or_pos N with z | z
  · subst z
    have := rnd_exact 0 (uE 0 + 40) false rfl
    rw [Nat.zero_mul] at this
    rw [this]
    exact Nat.zero_le _
  · obtain ⟨n1, n2, n3, n4⟩ := nd_spec z hN
    have hl : N < 10 ^ 18 * 10 ^ (uE N + 40) := by
      rw [← Nat.pow_add]
      exact Nat.lt_of_lt_of_le n4 (p10_le (by omega))
    have hq : N / 10 ^ (uE N + 40) < 10 ^ 18 := by
      rw [Nat.div_lt_iff_lt_mul (p10_pos _)]; exact hl
    unfold rnd
    split <;> omega
theorem uQ_mono {a b : Nat} (h : a ≤ b) (hb : b < 10 ^ 200) : uQ a ≤ uQ b := by
  obtain ⟨a1, a2⟩ := @uE_eq a
  obtain ⟨b1, b2⟩ := @uE_eq b
  have ea : nE a (-80) = max (-40 : Int) (-80 + (nd a : Int) - 18) := rfl
  have eb : nE b (-80) = max (-40 : Int) (-80 + (nd b : Int) - 18) := rfl
  have m := nd_mono h hb
  unfold uQ
  rcases Nat.lt_or_ge (uE a) (uE b) with g | g
  · have l := uQ_le (N := a) (by omega)
    have hb1 : 1 ≤ b := by
      rcases Nat.eq_zero_or_pos b with z | z
      · subst z; rw [nd_zero] at eb; omega
      · exact z
    obtain ⟨n1, n2, n3, n4⟩ := nd_spec hb1 hb
    have q : 10 ^ 17 ≤ nQ b (-80) false := by
      rw [b2]
      have r : 10 ^ 17 ≤ b / 10 ^ (uE b + 40) := by
        rw [Nat.le_div_iff_mul_le (p10_pos _), ← Nat.pow_add]
        exact Nat.le_trans (p10_le (by omega)) n3
      unfold rnd
      split <;> omega
    have s1 : nQ a (-80) false * 10 ^ uE a ≤ 10 ^ 18 * 10 ^ uE a := Nat.mul_le_mul_right _ l
    have s2 : 10 ^ 18 * 10 ^ uE a ≤ 10 ^ 17 * 10 ^ uE b := by
      rw [← Nat.pow_add, ← Nat.pow_add]; exact p10_le (by omega)
    have s3 : 10 ^ 17 * 10 ^ uE b ≤ nQ b (-80) false * 10 ^ uE b := Nat.mul_le_mul_right _ q
    omega
  · have e : uE a = uE b := by omega
    rw [a2, b2, e]
    exact Nat.mul_le_mul_right _ (rnd_mono _ h)

/-- told in units of 10^-40, with its sign -/
def uZ (A : Int) : Int := sg (decide (A < 0)) (uQ A.natAbs)
theorem uZ_mono {A B : Int} (h : A ≤ B) (hA : A.natAbs < 10 ^ 200) (hB : B.natAbs < 10 ^ 200) : uZ A ≤ uZ B := by
  unfold uZ sg
  by_cases a : A < 0
  · by_cases b : B < 0
    · have := uQ_mono (a := B.natAbs) (b := A.natAbs) (by omega) hA
      rw [decide_eq_true a, decide_eq_true b, if_pos rfl, if_pos rfl]
      omega
    · rw [decide_eq_true a, decide_eq_false b, if_pos rfl, if_neg (by decide)]
      omega
  · have b : ¬ B < 0 := by omega
    have := uQ_mono (a := A.natAbs) (b := B.natAbs) (by omega) hB
    rw [decide_eq_false a, decide_eq_false b, if_neg (by decide), if_neg (by decide)]
    omega

theorem V_fC {C e : Int} (h1 : -1000000000000000000 ≤ C) (h2 : C ≤ 1000000000000000000) (he : -40 ≤ e) (hr : fR C e = 0) : V (fC C e) (fE C e) = tens C (e + 40).toNat := by
  by_cases h0 : C = 0
  · subst h0
    rw [tens_zero]
    simp [fC, fE]
    exact V_zero 0
  · obtain ⟨a, b⟩ := tz_of h0 (by omega)
    have g : ¬ (40 : Int) < e + (tz C : Int) := by
      intro q
      unfold fR at hr
      rw [if_neg h0, if_pos q] at hr
      omega
    have eC : fC C e = tc C := by unfold fC; rw [if_neg h0, if_neg g]
    have eE : fE C e = e + (tz C : Int) := by unfold fE; rw [if_neg h0, if_neg g]
    rw [eC, eE]
    unfold V
    rw [show (e + (tz C : Int) + 40).toNat = tz C + (e + 40).toNat by omega, ← tens_add, ← a]

/-- what is told of S times 10^x is what is told of the same at 10^-80 -/
theorem told_V {S x : Int} (hx : -80 ≤ x) (hl : S.natAbs * 10 ^ (x + 80).toNat < 10 ^ 200) (hr : fR (nearZ S x false) (nE S.natAbs x) = 0) :
    wrongN (fC (nearZ S x false) (nE S.natAbs x)) (fE (nearZ S x false) (nE S.natAbs x)) = 0 ∧ V (fC (nearZ S x false) (nE S.natAbs x)) (fE (nearZ S x false) (nE S.natAbs x)) = uZ (tens S (x + 80).toNat) := by
  have he : -40 ≤ nE S.natAbs x := by unfold nE; omega
  by_cases h0 : S = 0
  · subst h0
    have e : nearZ 0 x false = 0 := by
      unfold nearZ
      rw [show Int.natAbs 0 = 0 by rfl, nQ_zero]
      rfl
    rw [e, tens_zero]
    refine ⟨by simp [fC, fE]; decide, ?_⟩
    have z : uZ 0 = 0 := by decide +kernel
    rw [z]
    simp only [fC, fE]
    exact V_zero 0
  · obtain ⟨j, hj⟩ : ∃ j : Nat, x + 80 = (j : Int) := ⟨(x + 80).toNat, by omega⟩
    rw [hj, Int.toNat_natCast] at hl ⊢
    have hN : 1 ≤ S.natAbs := by omega
    have hA : (tens S j).natAbs = S.natAbs * 10 ^ j := by
      rcases Int.lt_trichotomy S 0 with g | g | g
      · rw [(tens_abs S j).1 g]; omega
      · exact absurd g h0
      · rw [(tens_abs S j).2 (by omega)]; omega
    have hsg : (decide (tens S j < 0)) = decide (S < 0) := by
      have p := Nat.mul_pos (show 0 < S.natAbs by omega) (p10_pos j)
      rcases Int.lt_trichotomy S 0 with g | g | g
      · rw [(tens_abs S j).1 g, decide_eq_true g, decide_eq_true]; omega
      · exact absurd g h0
      · rw [(tens_abs S j).2 (by omega), decide_eq_false (show ¬ S < 0 by omega), decide_eq_false]; omega
    have nn := nd_shift hN hl
    have hE : nE (S.natAbs * 10 ^ j) (-80) = nE S.natAbs x := by
      unfold nE
      rw [nn]
      congr 1
      omega
    have hQ : nQ (S.natAbs * 10 ^ j) (-80) false = nQ S.natAbs x false := by
      unfold nQ
      rw [hE, show -80 - nE S.natAbs x = (x - nE S.natAbs x) - (j : Int) by omega]
      exact sc_shift _ _ _
    have bq := uQ_le hl
    rw [hQ] at bq
    have bC : -1000000000000000000 ≤ nearZ S x false ∧ nearZ S x false ≤ 1000000000000000000 := by
      unfold nearZ sg; split <;> omega
    refine ⟨(round_told bC.1 bC.2 he hr).1, ?_⟩
    rw [V_fC bC.1 bC.2 he hr]
    unfold uZ uQ uE
    rw [hA, hsg, hQ, hE]
    unfold nearZ
    generalize nQ S.natAbs x false = q
    generalize (nE S.natAbs x + 40).toNat = k
    unfold sg
    split
    · rw [tens_neg, tens_eq, Int.natCast_mul]; simp
    · rw [tens_eq, Int.natCast_mul]; simp
end Dm

/- Plain: what is nearest to a ratio, and the first exponent at which it has eighteen digits. -/
namespace Dm

/-- the whole number nearest to N over D, a half to the even one -/
def nr (N D : Int) : Int := if D < 2 * (N % D) ∨ (2 * (N % D) = D ∧ N / D % 2 ≠ 0) then N / D + 1 else N / D
theorem nr_nat (A B : Nat) : nr (A : Int) (B : Int) = (rnd A B false : Nat) := by
  unfold nr rnd up
  have e1 : (A : Int) % (B : Int) = ((A % B : Nat) : Int) := by simp
  have e2 : (A : Int) / (B : Int) = ((A / B : Nat) : Int) := by simp
  rw [e1, e2]
  by_cases h : B < 2 * (A % B) ∨ (2 * (A % B) = B ∧ A / B % 2 = 1)
  · rw [if_pos (by omega), if_pos (by simpa using h)]
    simp
  · rw [if_neg (by omega), if_neg (by simpa using h)]
theorem nr_neg (N : Int) {D : Int} (hD : 0 < D) : nr (-N) D = -nr N D := by
  have h1 := Int.mul_ediv_add_emod N D
  have h2 := Int.emod_nonneg N (show D ≠ 0 by omega)
  have h3 := Int.emod_lt_of_pos N hD
  have key : ∀ q r : Int, 0 ≤ r → r < D → -N = D * q + r → (-N) / D = q ∧ (-N) % D = r := fun q r g0 g1 g => by
    have a : (-N) % D = r := by rw [g, Int.mul_add_emod_self_left]; exact Int.emod_eq_of_lt g0 g1
    refine ⟨?_, a⟩
    have b := Int.mul_ediv_add_emod (-N) D
    rw [a] at b
    have c : D * (-N / D) = D * q := by omega
    exact Int.eq_of_mul_eq_mul_left (by omega) c
  unfold nr
  generalize hq : N / D = q at *
  generalize hr : N % D = r at *
  by_cases h0 : r = 0
  · obtain ⟨a, b⟩ := key (-q) 0 (by omega) hD (by rw [Int.mul_neg]; omega)
    rw [a, b]
    rw [if_neg (by omega), if_neg (by omega)]
  · obtain ⟨a, b⟩ := key (-q - 1) (D - r) (by omega) (by omega) (by rw [Int.mul_sub, Int.mul_neg, Int.mul_one]; omega)
    rw [a, b]
    by_cases c : D < 2 * r ∨ (2 * r = D ∧ q % 2 ≠ 0)
    · rw [if_neg (by omega), if_pos c]
      omega
    · rw [if_pos (by omega), if_neg c]
      omega
theorem nr_sg (b : Bool) (A B : Nat) (hB : 0 < B) : nr (sg b A) (B : Int) = sg b (rnd A B false) := by
  unfold sg
  cases b
  · simp [nr_nat]
  · simp only [if_true]
    rw [nr_neg _ (by omega), nr_nat]
theorem rnd_mul (A B k : Nat) (R : Bool) (hk : 0 < k) : rnd (A * k) (B * k) R = rnd A B R := by
  unfold rnd up
  have e1 : A * k / (B * k) = A / B := Nat.mul_div_mul_right _ _ hk
  have e2 : A * k % (B * k) = A % B * k := Nat.mul_mod_mul_right _ _ _
  rw [e1, e2]
  have e3 : (B * k < 2 * (A % B * k)) ↔ B < 2 * (A % B) := by
    rw [← Nat.mul_assoc]
    exact Nat.mul_lt_mul_right hk
  have e4 : (2 * (A % B * k) = B * k) ↔ 2 * (A % B) = B := by
    rw [← Nat.mul_assoc]
    exact ⟨fun h => Nat.eq_of_mul_eq_mul_right hk h, fun h => by rw [h]⟩
  simp only [e3, e4]
theorem rnd_ratio {A B C D : Nat} (hB : 0 < B) (hD : 0 < D) (h : A * D = C * B) : rnd A B false = rnd C D false := by
  rw [← rnd_mul A B D false hD, ← rnd_mul C D B false hB, h, Nat.mul_comm D B]
/-- what a rest says is what the whole says, where an even number is dropped -/
theorem rnd_rest (A B p : Nat) (hB : 0 < B) (hp : p % 2 = 0) (hp0 : 0 < p) : rnd A (B * p) false = rnd (A / B) p (decide (A % B ≠ 0)) := by
  have q1 : A / (B * p) = A / B / p := (Nat.div_div_eq_div_mul A B p).symm
  have q2 : A % (B * p) = B * (A / B % p) + A % B := by
    rw [Nat.mod_mul]
    omega
  unfold rnd up
  rw [q1, q2]
  have hr : A % B < B := Nat.mod_lt _ hB
  have ht : A / B % p < p := Nat.mod_lt _ hp0
  generalize A / B / p = Q at *
  generalize hT : A / B % p = t at *
  generalize hR : A % B = r at *
  obtain ⟨k, rfl⟩ : ∃ k, p = 2 * k := ⟨p / 2, by omega⟩
  have key : ((B * (2 * k) < 2 * (B * t + r) ∨ (2 * (B * t + r) = B * (2 * k) ∧ (Q % 2 = 1 ∨ false = true))) ↔ (2 * k < 2 * t ∨ (2 * t = 2 * k ∧ (Q % 2 = 1 ∨ decide (r ≠ 0) = true)))) := by
    have m1 : B * (2 * k) = 2 * (B * k) := by rw [Nat.mul_left_comm]
    rw [m1]
    rcases Nat.lt_trichotomy t k with h | h | h
    · have : B * (t + 1) ≤ B * k := Nat.mul_le_mul_left _ h
      rw [Nat.mul_add] at this
      constructor
      · intro g; omega
      · intro g; omega
    · subst h
      simp
      omega
    · have : B * (k + 1) ≤ B * t := Nat.mul_le_mul_left _ h
      rw [Nat.mul_add] at this
      constructor
      · intro _; left; omega
      · intro _; left; omega
  simp only [key]

/-- from e on, the first exponent at which what is nearest has eighteen digits at most; noughts taken away -/
def fitF (g : Int → Int) : Nat → Int → Int × Int × Int
  | 0, _ => (0, 0, 4)
  | k + 1, e => if (g e).natAbs ≤ 999999999999999999 then (fC (g e) e, fE (g e) e, fR (g e) e) else fitF g k (e + 1)
theorem fitF_skip (g : Int → Int) : ∀ (j k : Nat) (e : Int), (∀ i : Nat, i < j → 999999999999999999 < (g (e + i)).natAbs) → fitF g (j + k) e = fitF g k (e + j)
  | 0, k, e, _ => by simp
  | j + 1, k, e, h => by
    have h0 := h 0 (by omega)
    rw [show j + 1 + k = (j + k) + 1 by omega, fitF, if_neg (by simp at h0; omega), fitF_skip g j k (e + 1) (fun i hi => by
      have := h (i + 1) (by omega)
      rw [show e + ((i + 1 : Nat) : Int) = e + 1 + i by omega] at this
      exact this)]
    congr 1
    omega
theorem fitF_hit (g : Int → Int) (k : Nat) (e : Int) (h : (g e).natAbs ≤ 999999999999999999) : fitF g (k + 1) e = (fC (g e) e, fE (g e) e, fR (g e) e) := by rw [fitF, if_pos h]
theorem sg_abs (b : Bool) (q : Nat) : (sg b q).natAbs = q := by unfold sg; cases b <;> simp
theorem sg_zero {b : Bool} {q : Nat} : sg b q = 0 ↔ q = 0 := by unfold sg; cases b <;> simp
theorem tz_18 (b : Bool) : tz (sg b 1000000000000000000) = 18 ∧ tc (sg b 1000000000000000000) = sg b 1 := by cases b <;> exact ⟨by decide +kernel, by decide +kernel⟩
theorem tz_17 (b : Bool) : tz (sg b 100000000000000000) = 17 ∧ tc (sg b 100000000000000000) = sg b 1 := by cases b <;> exact ⟨by decide +kernel, by decide +kernel⟩
theorem f_18 (b : Bool) (e : Int) : (fC (sg b 100000000000000000) (e + 1), fE (sg b 100000000000000000) (e + 1), fR (sg b 100000000000000000) (e + 1)) = (fC (sg b 1000000000000000000) e, fE (sg b 1000000000000000000) e, fR (sg b 1000000000000000000) e) := by
  unfold fC fE fR
  rw [(tz_17 b).1, (tz_17 b).2, (tz_18 b).1, (tz_18 b).2]
  have n1 : ¬ sg b 100000000000000000 = 0 := by rw [sg_zero]; omega
  have n2 : ¬ sg b 1000000000000000000 = 0 := by rw [sg_zero]; omega
  simp only [if_neg n1, if_neg n2]
  rw [show e + 1 + ((17 : Nat) : Int) = e + ((18 : Nat) : Int) by omega]
theorem f_far {q e : Int} (hq : q ≠ 0) (he : 40 < e) : (fC q e, fE q e, fR q e) = (0, 0, 4) := by
  unfold fC fE fR
  rw [if_neg hq, if_neg hq, if_neg hq, if_pos (by omega), if_pos (by omega), if_pos (by omega)]
/-- one digit less of what is rounded up to a one with noughts -/
theorem rnd_next {S p : Nat} {R : Bool} (hp : 0 < p) (hS : S < 1000000000000000000 * p) (h : rnd S p R = 1000000000000000000) : rnd S (p * 10) R = 100000000000000000 := by
  have d : S / p < 1000000000000000000 := Nat.div_lt_of_lt_mul (by rw [Nat.mul_comm]; exact hS)
  have hm := Nat.mod_lt S hp
  unfold rnd at h
  split at h
  · rename_i hu
    have dq : S / p = 999999999999999999 := by omega
    have t2 : p ≤ 2 * (S % p) := by
      unfold up at hu
      simp only [decide_eq_true_eq] at hu
      omega
    have e := Nat.div_add_mod S p
    rw [dq] at e
    have d2 : S / (p * 10) = 99999999999999999 := by rw [← Nat.div_div_eq_div_mul, dq]
    have e2 := Nat.div_add_mod S (p * 10)
    rw [d2] at e2
    unfold rnd
    rw [d2, if_pos (by unfold up; simp only [decide_eq_true_eq]; left; omega)]
  · omega
theorem fit_zero (b : Bool) (f : Int → Nat) (h : f (-40) = 0) (x : Int) : fitF (fun e => sg b (f e)) 121 (-40) = (fC (sg b 0) x, fE (sg b 0) x, fR (sg b 0) x) := by
  have z : sg b 0 = 0 := sg_zero.2 rfl
  rw [fitF_hit _ 120 (-40) (by simp [h, sg_abs])]
  simp only [h, z]
  unfold fC fE fR
  simp
theorem nQ_big {S : Nat} {x : Int} {R : Bool} (h1 : 1 ≤ S) (hS : S < 10 ^ 200) (hE : -40 < nE S x) : nQ S x R ≠ 0 := by
  obtain ⟨a, _, c, _⟩ := nd_spec h1 hS
  have hx : nE S x = x + nd S - 18 := by unfold nE at *; omega
  unfold nQ sc
  split
  · have := p10_pos (x - nE S x).toNat
    exact Nat.pos_iff_ne_zero.1 (Nat.mul_pos (by omega) this)
  · rename_i hs
    have hn : (-(x - nE S x)).toNat = nd S - 18 := by omega
    rw [hn]
    have l : 10 ^ (nd S - 18) ≤ S := Nat.le_trans (p10_le (by omega)) c
    have : 1 ≤ S / 10 ^ (nd S - 18) := (Nat.le_div_iff_mul_le (p10_pos _)).2 (by omega)
    unfold rnd
    split <;> omega
theorem nQ_le {S : Nat} {x : Int} {R : Bool} (h1 : 1 ≤ S) (hS : S < 10 ^ 200) : nQ S x R ≤ 1000000000000000000 ∧ (nQ S x R = 1000000000000000000 → sc S (x - (nE S x + 1)) R = 100000000000000000) := by
  obtain ⟨a, _, c, d⟩ := nd_spec h1 hS
  have hx : x + nd S - 18 ≤ nE S x := by unfold nE; omega
  have e18 : (1000000000000000000 : Nat) = 10 ^ 18 := by decide
  unfold nQ
  by_cases hs : 0 ≤ x - nE S x
  · have l : S * 10 ^ (x - nE S x).toNat < 10 ^ 18 := by
      have l1 : S * 10 ^ (x - nE S x).toNat < 10 ^ nd S * 10 ^ (x - nE S x).toNat := Nat.mul_lt_mul_of_pos_right d (p10_pos _)
      rw [← Nat.pow_add] at l1
      exact Nat.lt_of_lt_of_le l1 (p10_le (by omega))
    have e : sc S (x - nE S x) R = S * 10 ^ (x - nE S x).toNat := by unfold sc; rw [if_pos hs]
    rw [e, e18]
    exact ⟨by omega, fun g => by omega⟩
  · have e : sc S (x - nE S x) R = rnd S (10 ^ (-(x - nE S x)).toNat) R := by unfold sc; rw [if_neg hs]
    have e2 : sc S (x - (nE S x + 1)) R = rnd S (10 ^ (-(x - nE S x)).toNat * 10) R := by
      unfold sc
      rw [if_neg (by omega), ← Nat.pow_succ]
      congr 2
      omega
    have l : S < 1000000000000000000 * 10 ^ (-(x - nE S x)).toNat := by
      rw [e18, ← Nat.pow_add]
      exact Nat.lt_of_lt_of_le d (p10_le (by omega))
    rw [e, e2]
    have pp := p10_pos (-(x - nE S x)).toNat
    generalize 10 ^ (-(x - nE S x)).toNat = p at *
    refine ⟨?_, rnd_next pp l⟩
    have dd : S / p < 1000000000000000000 := Nat.div_lt_of_lt_mul (by rw [Nat.mul_comm]; exact l)
    unfold rnd
    split <;> omega
theorem fit_told (b : Bool) (S : Nat) (x : Int) (R : Bool) (f : Int → Nat) (h1 : 1 ≤ S) (hS : S < 10 ^ 200)
    (h : ∀ e, nE S x ≤ e → f e = sc S (x - e) R) (low : ∀ e, -40 ≤ e → e < nE S x → 1000000000000000000 ≤ f e) :
    fitF (fun e => sg b (f e)) 121 (-40) = (fC (sg b (nQ S x R)) (nE S x), fE (sg b (nQ S x R)) (nE S x), fR (sg b (nQ S x R)) (nE S x)) := by
  have hE : -40 ≤ nE S x := by unfold nE; omega
  have hq : f (nE S x) = nQ S x R := h _ (Int.le_refl _)
  obtain ⟨q1, q2⟩ := nQ_le (x := x) (R := R) h1 hS
  have skip : ∀ (j k : Nat), j + k = 121 → (j : Int) ≤ nE S x + 40 → fitF (fun e => sg b (f e)) 121 (-40) = fitF (fun e => sg b (f e)) k (-40 + j) := fun j k hjk hj => by
    rw [← hjk]
    refine fitF_skip _ j k (-40) fun i hi => ?_
    simp only [sg_abs]
    have := low (-40 + i) (by omega) (by omega)
    omega
  by_cases hbig : 80 < nE S x
  · rw [skip 121 0 rfl (by omega), fitF, f_far (by rw [Ne, sg_zero]; exact nQ_big h1 hS (by omega)) (by omega)]
  · obtain ⟨j, hj⟩ : ∃ j : Nat, nE S x = -40 + j := ⟨(nE S x + 40).toNat, by omega⟩
    rw [skip j (121 - j) (by omega) (by omega), ← hj, show 121 - j = (120 - j) + 1 by omega]
    by_cases hl : nQ S x R ≤ 999999999999999999
    · rw [fitF_hit _ _ _ (by simp only [sg_abs, hq]; exact hl)]
      simp only [hq]
    · have e18 : nQ S x R = 1000000000000000000 := by omega
      rw [fitF, if_neg (by simp only [sg_abs, hq]; omega), e18]
      by_cases h80 : nE S x = 80
      · rw [show 120 - j = 0 by omega, fitF, f_far (by rw [Ne, sg_zero]; omega) (by omega)]
      · have e17 : f (nE S x + 1) = 100000000000000000 := (h _ (by omega)).trans (q2 e18)
        rw [show 120 - j = (119 - j) + 1 by omega, fitF_hit _ _ _ (by simp only [sg_abs, e17]; omega)]
        simp only [e17]
        exact f_18 b _
end Dm

/- Walks: the document's answer: Rat2, Down, Nearest. -/
namespace Go.Proofs.Ytibkemolmpcdcaa
open Go.RowKit

theorem ten_at (n : Int) (w : World) (k : Nat) (hk : w.heap.size = k) (h1 : -200 ≤ n) (h2 : n ≤ 200) :
    Calls Try.prog 31 #[.int .i64 n] w fun e w' => e = .returned (.pointer (some ⟨k, 0, none⟩)) ∧ IA w' k 0 ((10 : Int) ^ n.toNat) ∧ Below w.heap.size w w' := by
  subst hk
  exact ten_any n w h1 h2

theorem denom_at (p : Nat) (n d : Int) (w : World) (k : Nat) (hk : w.heap.size = k) (h : RQ w p n d) (ld : Ln d ≤ 90000) :
    Calls Try.prog 81 #[.pointer (some ⟨p, 0, none⟩)] w fun e w' => e = .returned (.pointer (some ⟨k, 0, none⟩)) ∧ IA w' k 0 d ∧ Below w.heap.size w w' := by
  subst hk
  exact denom_any p n d w h ld

theorem pow_ne (k : Nat) : (10 : Int) ^ k ≠ 0 := Int.pow_ne_zero (by decide)

set_option maxHeartbeats 2000000 in
theorem rat2_any (e : Int) (w : World) (h1 : -200 ≤ e) (h2 : e ≤ 200) :
    Calls Try.prog 26 #[.int .i64 e] w fun r w' => r = .returned (.pointer (some ⟨w.heap.size, 0, none⟩)) ∧ RV w' w.heap.size ((10 : Int) ^ e.toNat) ((10 : Int) ^ (-e).toNat) ∧ Below w.heap.size w w' := by
  have N := below_new w (.cells #[.bool false, .slice none 0 0, .bool false, .slice none 0 0] 43)
  have l1 := Ln_ten e.toNat
  have l2 := Ln_ten (-e).toNat
  have HN := hide N
  clear N
  by_cases g : e < 0
  · have NI := hide (newInt_at 1 (w.alloc (.cells #[.bool false, .slice none 0 0, .bool false, .slice none 0 0] 43)) (w.heap.size + 1) (by simp) (by omega) (by omega))
    have SF := hide (frac_last (A := 1) (B := (10 : Int) ^ (-e).toNat) (N := (10 : Int) ^ e.toNat) (D := (10 : Int) ^ (-e).toNat) (ZA.newR w) (pow_ne _) (Nat.le_trans (Ln_small (by decide)) (by omega)) (by omega) (by rw [show e.toNat = 0 by omega, Int.pow_zero]) (Nat.le_refl _))
    have wr1 : IntKind.i64.wrap (-e) = -e := by rw [IntKind.wrap_i64]; omega
    clear l1 l2
    go_enter Try.func26, Try.ntmps26
    go_wp2_with fail
    refine (unhide NI).mono ?_
    rintro r w1 ⟨rfl, i1, hb1⟩
    have TN := hide (ten_any (-e) w1 (by omega) (by omega))
    have HI := hide i1
    have HB := hide hb1
    clear i1 hb1
    go_wp2_with fail
    refine (unhide TN).mono ?_
    rintro r w2 ⟨rfl, i2, hb2⟩
    have CF := hide (unhide SF w2 _ _ _ _ (below_step (unhide HB) hb2) ((unhide HI).below hb2) i2)
    clear i2 hb2
    go_wp2_with fail
    refine (unhide CF).mono ?_
    rintro r w3 ⟨rfl, hr, hk⟩
    have HR := hide hr
    have HK := hide hk
    clear hr hk
    go_wp2
    go_ret
    exact ⟨rfl, unhide HR, (unhide HN).trans ((unhide HK).below (Nat.le_refl _) (unhide HN).size)⟩
  · have TN := hide (ten_at e (w.alloc (.cells #[.bool false, .slice none 0 0, .bool false, .slice none 0 0] 43)) (w.heap.size + 1) (by simp) (by omega) (by omega))
    have HD : Hid ((10 : Int) ^ (-e).toNat = 1) := hide (by rw [show (-e).toNat = 0 by omega, Int.pow_zero])
    have HZ := hide (ZA.newR w)
    clear l2
    go_enter Try.func26, Try.ntmps26
    go_wp2_with fail
    refine (unhide TN).mono ?_
    rintro r w1 ⟨rfl, i1, hb1⟩
    have SI := hide (rsetInt_any w.heap.size (w.heap.size + 1) 0 ((10 : Int) ^ e.toNat) w1 ((unhide HZ).below hb1) i1 (by omega))
    have HB := hide (below_step (unhide HN) hb1)
    clear i1 hb1
    go_wp2_with fail
    refine (unhide SI).mono ?_
    rintro r w2 ⟨rfl, hr, hk⟩
    have HR := hide hr
    have HK := hide hk
    clear hr hk
    go_wp2
    go_ret
    rw [unhide HD]
    exact ⟨rfl, unhide HR, (unhide HB).trans ((unhide HK).below (Nat.le_refl _) (unhide HB).size)⟩

theorem div_ratio {n d N D : Int} (hd : 0 < d) (hD : 0 < D) (e : n * D = N * d) : n / d = N / D := by
  have a : n / d = (n * D) / (d * D) := (Int.mul_ediv_mul_of_pos_left n d hD).symm
  have b : N / D = (N * d) / (D * d) := (Int.mul_ediv_mul_of_pos_left N D hd).symm
  rw [a, b, e, Int.mul_comm d D]

set_option maxHeartbeats 2000000 in
theorem down_any (p : Nat) (N D : Int) (w : World) (hr : RV w p N D) (hD : 0 < D) (lN : Ln N ≤ 20000) (lD : Ln D ≤ 20000) :
    Calls Try.prog 48 #[.pointer (some ⟨p, 0, none⟩)] w fun e w' => e = .returned (.pointer (some ⟨w.heap.size, 0, none⟩)) ∧ IA w' w.heap.size 0 (N / D) ∧ Below w.heap.size w w' := by
  obtain ⟨n, d, q, e1, g1⟩ := hr
  have ln := Ln_mono (ratio_le (by omega) e1 g1)
  have ld := Ln_mono g1
  have hd := q.pos
  have HE := hide (div_ratio hd hD e1)
  have N1 := below_new w (.cells #[.bool false, .slice none 0 0] 41)
  have N2 := below_new (w.alloc (.cells #[.bool false, .slice none 0 0] 41)) (.cells #[.bool false, .slice none 0 0] 41)
  have z1 := (ZA.new w).below N2
  have z2 : ZA ((w.alloc (.cells #[.bool false, .slice none 0 0] 41)).alloc (.cells #[.bool false, .slice none 0 0] 41)) (w.heap.size + 1) 0 := by
    have := ZA.new (w.alloc (.cells #[.bool false, .slice none 0 0] 41))
    rwa [show (w.alloc (.cells #[.bool false, .slice none 0 0] 41)).heap.size = w.heap.size + 1 by simp] at this
  have B2 := below_step N1 N2
  have q2 := q.below B2
  have NU := hide (num_any p ((w.alloc (.cells #[.bool false, .slice none 0 0] 41)).alloc (.cells #[.bool false, .slice none 0 0] 41)))
  have DE := hide (denom_at p n d _ (w.heap.size + 2) (by simp) q2 (by omega))
  have HQ := hide q2
  have HZ1 := hide z1
  have HZ2 := hide z2
  have HB := hide B2
  clear q e1 g1 N1 N2 z1 z2 B2 q2
  go_enter Try.func48, Try.ntmps48
  go_wp2_with fail
  refine (unhide NU).mono ?_
  rintro e w1 ⟨rfl, rfl⟩
  go_wp2_with fail
  refine (unhide DE).mono ?_
  rintro e w2 ⟨rfl, i2, hb2⟩
  have DM := hide (divMod_any w.heap.size 0 p 0 (w.heap.size + 2) 0 (w.heap.size + 1) 0 n d w2 ((unhide HZ1).below hb2) ((unhide HZ2).below hb2) (.inl (by omega)) ((unhide HQ).num.below hb2) i2 (by omega) (by unfold Ln at *; omega) (by unfold Ln at *; omega))
  have HB2 := hide (below_step (unhide HB) hb2)
  clear i2 hb2
  go_wp2_with fail
  refine (unhide DM).mono ?_
  rintro e w3 ⟨rfl, i3, -, hk3⟩
  have HI := hide i3
  have HK := hide hk3
  clear i3 hk3
  go_wp2
  go_ret
  rw [← unhide HE]
  exact ⟨rfl, unhide HI, (unhide HB2).trans ((unhide HK).low (by omega) (by omega) (unhide HB2).size)⟩
end Go.Proofs.Ytibkemolmpcdcaa

/- Walks: the document's answer: Nearest. -/
namespace Go.Proofs.Ytibkemolmpcdcaa
open Go.RowKit

theorem nr_cases (N D : Int) : (D < 2 * (N % D) ∧ icmp ((N * 1 + -(N / D * D)) * 2) (1 * (D * 1)) = 1 ∧ Dm.nr N D = N / D + 1) ∨
    (2 * (N % D) = D ∧ icmp ((N * 1 + -(N / D * D)) * 2) (1 * (D * 1)) = 0 ∧ Dm.nr N D = (if N / D % 2 ≠ 0 then N / D + 1 else N / D)) ∨
    (2 * (N % D) < D ∧ icmp ((N * 1 + -(N / D * D)) * 2) (1 * (D * 1)) = -1 ∧ Dm.nr N D = N / D) := by
  have e : (N * 1 + -(N / D * D)) * 2 = 2 * (N % D) := by
    have := Int.mul_ediv_add_emod N D
    rw [Int.mul_comm D] at this
    omega
  rw [e, Int.mul_one, Int.one_mul]
  unfold Dm.nr icmp
  rcases Int.lt_trichotomy (2 * (N % D)) D with h | h | h
  · right; right
    refine ⟨h, if_pos h, if_neg (by omega)⟩
  · right; left
    refine ⟨h, by rw [if_neg (by omega), if_pos h], ?_⟩
    by_cases g : N / D % 2 ≠ 0
    · rw [if_pos (.inr ⟨h, g⟩), if_pos g]
    · rw [if_neg (by omega), if_neg g]
  · left
    exact ⟨h, by rw [if_neg (by omega), if_neg (by omega)], if_pos (.inl h)⟩
theorem Ln_div {N D : Int} (hD : 0 < D) : Ln (N / D) ≤ Ln N + 1 := by
  apply Ln_le
  have h1 := Ln_lt N
  have h2 : (N / D).natAbs ≤ N.natAbs + 1 := by
    rcases Int.lt_or_le N 0 with h | h
    · have a : N ≤ N / D := by
        have := Int.ediv_le_ediv hD (Int.le_refl N)
        exact Int.le_ediv_of_mul_le hD (by
          have : N * D ≤ N * 1 := Int.mul_le_mul_of_nonpos_left (by omega) (by omega)
          omega)
      have b : N / D < 0 := Int.ediv_neg_of_neg_of_pos h hD
      omega
    · have a : 0 ≤ N / D := Int.ediv_nonneg h (by omega)
      have b : N / D ≤ N := Int.ediv_le_self _ h
      omega
  have h3 : 4294967296 ^ Ln N * 1 < 4294967296 ^ Ln N * 4294967296 := Nat.mul_lt_mul_of_pos_left (by omega) (Nat.pow_pos (by omega))
  rw [Nat.pow_succ]
  omega

set_option maxRecDepth 100000 in
set_option maxHeartbeats 4000000 in
theorem nearest_any (p : Nat) (N D : Int) (w : World) (hr : RV w p N D) (hD : 0 < D) (lN : Ln N ≤ 6000) (lD : Ln D ≤ 6000) :
    Calls Try.prog 47 #[.pointer (some ⟨p, 0, none⟩)] w fun e w' => e = .returned (.pointer (some ⟨w.heap.size, 0, none⟩)) ∧ IA w' w.heap.size 0 (Dm.nr N D) ∧ Below w.heap.size w w' := by
  have DN := hide (down_any p N D w hr hD (by omega) (by omega))
  have lq := Ln_div (N := N) hD
  have HC := hide (nr_cases N D)
  have HR := hide hr
  have lp := hr.place.low
  have t1 := Ln_add (N * 1) (-(N / D * D))
  have t2 := Ln_neg (N / D * D)
  have t3 := Ln_mul (N / D) D
  have t4 : Ln (N * 1) = Ln N := by rw [Int.mul_one]
  have t5 : Ln (D * 1) = Ln D := by rw [Int.mul_one]
  have HD := hide hD
  obtain ⟨q, hq⟩ : ∃ q, N / D = q := ⟨_, rfl⟩
  rw [hq] at DN lq HC t1 t2 t3
  have HQ := hide hq
  clear hr hq hD
  go_enter Try.func47, Try.ntmps47
  go_wp2_with fail
  refine (unhide DN).mono ?_
  rintro e w1 ⟨rfl, i1, hb1⟩
  have s1 := hb1.size
  have N1 := below_new w1 (.cells #[.bool false, .slice none 0 0, .bool false, .slice none 0 0] 43)
  have N2 := below_new (w1.alloc (.cells #[.bool false, .slice none 0 0, .bool false, .slice none 0 0] 43)) (.cells #[.bool false, .slice none 0 0, .bool false, .slice none 0 0] 43)
  have B2 := below_step N1 N2
  have z1 := (ZA.newR w1).below N2
  have z2 : ZA ((w1.alloc (.cells #[.bool false, .slice none 0 0, .bool false, .slice none 0 0] 43)).alloc (.cells #[.bool false, .slice none 0 0, .bool false, .slice none 0 0] 43)) (w1.heap.size + 1) 2 := by
    have := ZA.newR (w1.alloc (.cells #[.bool false, .slice none 0 0, .bool false, .slice none 0 0] 43))
    rwa [show (w1.alloc (.cells #[.bool false, .slice none 0 0, .bool false, .slice none 0 0] 43)).heap.size = w1.heap.size + 1 by simp] at this
  have SI := hide (rsetInt_any (w1.heap.size + 1) w.heap.size 0 q _ z2 (i1.below B2) (by omega))
  have HI := hide (i1.below B2)
  have HR2 := hide (((unhide HR).below hb1).below B2)
  have li := i1.place.low
  have HZ1 := hide z1
  have HZ2 := hide z2
  have HB := hide (below_step hb1 B2)
  clear i1 hb1 N1 N2 B2 z1 z2 DN HR
  go_wp2_with fail
  refine (unhide SI).mono ?_
  rintro e w2 ⟨rfl, r2, k2⟩
  have SU := hide (rsub_any w1.heap.size p (w1.heap.size + 1) N D q 1 w2 ((unhide HZ1).blk k2) ((unhide HR2).kept (Kept.blk' k2 (unhide HZ2) (unhide HR2).place.low (by omega))) r2 (by have := unhide HD; omega) (by omega) (by omega) (by omega) (by omega) (Nat.le_trans (Ln_small (by decide)) (by omega)))
  have HI2 := hide ((unhide HI).blk k2 (unhide HZ2) (by omega))
  have HZ3 := hide ((unhide HZ1).blk k2)
  have HB2 := hide ((unhide HB).trans (k2.below (by omega) (unhide HB).size))
  clear r2 k2 SI HI HZ1 HZ2 HR2 HB
  go_wp2_with fail
  refine (unhide SU).mono ?_
  rintro e w3 ⟨rfl, r3, k3⟩
  have s3 := k3.size
  have NR := hide (newRat_any 1 2 w3 (by omega) (by omega) (by omega) (by omega))
  have HI3 := hide ((unhide HI2).blk k3 (unhide HZ3) (by omega))
  have HB3 := hide ((unhide HB2).trans (k3.below (by omega) (unhide HB2).size))
  have HR3 := hide r3
  have lw3 := (unhide HB3).size
  clear r3 k3 SU HI2 HZ3 HB2
  go_wp2_with fail
  refine (unhide NR).mono ?_
  rintro e w4 ⟨rfl, r4, hb4⟩
  have CM := hide (rcmp_any w1.heap.size w3.heap.size (N * 1 + -(q * D)) (D * 1) 1 2 w4 ((unhide HR3).below hb4) r4 (by rw [Int.mul_one]; exact unhide HD) (by omega) (by omega) (by omega) (Nat.le_trans (Ln_small (by decide)) (by omega)) (Nat.le_trans (Ln_small (by decide)) (by omega)))
  obtain ⟨c, hc⟩ : ∃ c, icmp ((N * 1 + -(q * D)) * 2) (1 * (D * 1)) = c := ⟨_, rfl⟩
  rw [hc] at CM HC
  have HI4 := hide ((unhide HI3).below hb4)
  have HB4 := hide (below_step (unhide HB3) hb4)
  clear hc r4 hb4 NR HR3 HI3 HB3
  go_wp2_with fail
  refine (unhide CM).mono ?_
  rintro e w5 ⟨rfl, hb5⟩
  have N5 := below_new w5 (.cells #[.bool false, .slice none 0 0] 41)
  have HI5 := hide (((unhide HI4).below hb5).below N5)
  have lw5 := ((unhide HI4).below hb5).place.low
  have HB5 := hide (below_step (below_step (unhide HB4) hb5) N5)
  have HZ5 := hide (ZA.new w5)
  have N2 := hide (newInt_at 2 (w5.alloc (.cells #[.bool false, .slice none 0 0] 41)) (w5.heap.size + 1) (by simp) (by omega) (by omega))
  clear hb5 N5 CM HI4 HB4
  go_wp2_with fail
  refine (unhide N2).mono ?_
  rintro e w6 ⟨rfl, i6, hb6⟩
  have MO := hide (imod_any w5.heap.size 0 w.heap.size 0 (w5.heap.size + 1) 0 q 2 w6 ((unhide HZ5).below hb6) ((unhide HI5).below hb6) i6 (by omega) (by unfold Ln at lq lN; omega) (Nat.le_trans (Ln_small (x := 2) (by decide)) (by omega)))
  have HI6 := hide ((unhide HI5).below hb6)
  have HB6 := hide (below_step (unhide HB5) hb6)
  have HZ6 := hide ((unhide HZ5).below hb6)
  clear i6 hb6 N2 HI5 HB5 HZ5
  go_wp2_with fail
  refine (unhide MO).mono ?_
  rintro e w7 ⟨rfl, i7, k7⟩
  have SG := hide (isign_any w5.heap.size 0 (q % 2) w7 i7)
  have HI7 := hide ((unhide HI6).blk k7.blk (unhide HZ6) (by omega))
  have HB7 := hide ((unhide HB6).trans (k7.low (by omega) (by omega) (unhide HB6).size))
  clear i7 k7 MO HI6 HB6 HZ6
  go_wp2_with fail
  refine (unhide SG).mono ?_
  rintro e w8 ⟨rfl, rfl⟩
  have w9i := hide (newInt_any 1 w8 (by omega) (by omega))
  clear SG
  rcases unhide HC with ⟨-, rfl, hv⟩ | ⟨-, rfl, hv⟩ | ⟨-, rfl, hv⟩
  · have HV := hide hv
    clear hv
    go_wp2_with fail
    refine (unhide w9i).mono ?_
    rintro e w9 ⟨rfl, i9, hb9⟩
    have AD := hide (iadd_any w.heap.size 0 w.heap.size 0 w8.heap.size 0 q 1 w9 ((unhide HI7).place.below hb9) ((unhide HI7).below hb9) i9 (by unfold Ln at lq lN; omega) (len_small (by decide)))
    have HB9 := hide (below_step (unhide HB7) hb9)
    clear i9 hb9
    go_wp2_with fail
    refine (unhide AD).mono ?_
    rintro e w10 ⟨rfl, i10, ho10⟩
    have HI10 := hide i10
    have HB10 := hide ((unhide HB9).trans (ho10.below (Nat.le_refl _) (unhide HB9).size))
    clear i10 ho10
    go_wp2
    go_ret
    rw [unhide HV]
    exact ⟨rfl, unhide HI10, unhide HB10⟩
  · by_cases ho : q % 2 = 0
    · have g1 : (sgnZ (q % 2) != 0) = false := by rw [ho]; rfl
      have HV : Hid (Dm.nr N D = q) := hide (by rw [hv, if_neg (by omega)])
      clear hv ho
      go_wp2
      go_ret
      rw [unhide HV]
      exact ⟨rfl, unhide HI7, unhide HB7⟩
    · have g1 : (sgnZ (q % 2) != 0) = true := by
        have : q % 2 = 1 := by omega
        rw [this]; rfl
      have HV : Hid (Dm.nr N D = q + 1) := hide (by rw [hv, if_pos (by omega)])
      clear hv ho
      go_wp2_with fail
      refine (unhide w9i).mono ?_
      rintro e w9 ⟨rfl, i9, hb9⟩
      have AD := hide (iadd_any w.heap.size 0 w.heap.size 0 w8.heap.size 0 q 1 w9 ((unhide HI7).place.below hb9) ((unhide HI7).below hb9) i9 (by unfold Ln at lq lN; omega) (len_small (by decide)))
      have HB9 := hide (below_step (unhide HB7) hb9)
      clear i9 hb9
      go_wp2_with fail
      refine (unhide AD).mono ?_
      rintro e w10 ⟨rfl, i10, ho10⟩
      have HI10 := hide i10
      have HB10 := hide ((unhide HB9).trans (ho10.below (Nat.le_refl _) (unhide HB9).size))
      clear i10 ho10
      go_wp2
      go_ret
      rw [unhide HV]
      exact ⟨rfl, unhide HI10, unhide HB10⟩
  · have HV := hide hv
    clear hv
    go_wp2
    go_ret
    rw [unhide HV]
    exact ⟨rfl, unhide HI7, unhide HB7⟩
end Go.Proofs.Ytibkemolmpcdcaa
