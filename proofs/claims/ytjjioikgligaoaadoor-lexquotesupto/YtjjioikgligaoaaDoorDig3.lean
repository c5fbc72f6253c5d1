/- Plain facts: what can be told exactly is. No Go in sight. -/
import Derived.Test.YtjjioikgligaoaaDoorDig2
namespace Dm

theorem has_len : ∀ (m n : Nat), 1 ≤ n → n < 10 ^ m → ∃ L, 1 ≤ L ∧ L ≤ m ∧ 10 ^ (L - 1) ≤ n ∧ n < 10 ^ L
  | 0, n, h, l => by simp at l; omega
  | m + 1, n, h, l => by
    by_cases g : n < 10 ^ m
    · obtain ⟨L, a, b, c, d⟩ := has_len m n h g
      exact ⟨L, a, by omega, c, d⟩
    · exact ⟨m + 1, by omega, Nat.le_refl _, by simpa using g, l⟩
theorem nd_tens {n L j : Nat} (h1 : 1 ≤ L) (h2 : L + j ≤ 200) (h3 : 10 ^ (L - 1) ≤ n) (h4 : n < 10 ^ L) : nd (n * 10 ^ j) = L + j := by
  refine nd_at h2 ?_ (.inr ?_)
  · rw [Nat.pow_add]; exact Nat.mul_lt_mul_of_pos_right h4 (p10_pos j)
  · rw [show L + j - 1 = L - 1 + j by omega, Nat.pow_add]; exact Nat.mul_le_mul_right _ h3
theorem rnd_exact (m k : Nat) (R : Bool) (hR : R = false) : rnd (m * 10 ^ k) (10 ^ k) R = m := by
  subst hR
  have p := p10_pos k
  unfold rnd up
  rw [Nat.mul_mod_left, Nat.mul_div_cancel _ p, if_neg]
  simp
  omega
/-- what comes of a number with noughts at its end: the number times a power of ten -/
theorem sc_exact {n j k : Nat} {s : Int} (h : (j : Int) + s = (k : Int)) : sc (n * 10 ^ j) s false = n * 10 ^ k := by
  unfold sc
  by_cases g : 0 ≤ s
  · rw [if_pos g, Nat.mul_assoc, ← Nat.pow_add]
    congr 2
    omega
  · rw [if_neg g, show j = k + (-s).toNat by omega, Nat.pow_add, ← Nat.mul_assoc]
    exact rnd_exact _ _ _ rfl
theorem sg_tens {c : Int} (k : Nat) {S : Int} (j : Nat) (hS : S = tens c j) : sg (decide (S < 0)) (c.natAbs * 10 ^ k) = tens c k := by
  have a := tens_abs c k
  have b := tens_abs c j
  have p := p10_pos j
  unfold sg
  rcases Int.lt_trichotomy c 0 with g | g | g
  · have : S < 0 := by
      rw [hS, b.1 g]
      have := Nat.mul_pos (show 0 < c.natAbs by omega) p
      omega
    rw [decide_eq_true this, if_pos rfl, a.1 g]
  · subst g
    rw [a.2 (by omega)]
    simp
  · have : ¬ S < 0 := by rw [hS, b.2 (by omega)]; omega
    rw [decide_eq_false this, if_neg (by decide), a.2 (by omega)]

/-- what can be told exactly is -/
theorem exact_told {c x S : Int} {j : Nat} (h : wrongN c x = 0) (hj : j ≤ 100) (hS : S = tens c j) :
    fC (nearZ S (x - j) false) (nE S.natAbs (x - j)) = c ∧ fE (nearZ S (x - j) false) (nE S.natAbs (x - j)) = x ∧ fR (nearZ S (x - j) false) (nE S.natAbs (x - j)) = 0 := by
  obtain ⟨p1, p2, p3, p4, p5⟩ := wrong_ok h
  by_cases h0 : c = 0
  · have hx : x = 0 := (p5 (by rw [h0]; rfl)).2
    subst h0
    rw [tens_zero] at hS
    subst hS
    have e : nearZ 0 (x - j) false = 0 := by
      unfold nearZ
      rw [show Int.natAbs 0 = 0 by rfl, nQ_zero]
      rfl
    rw [e]
    subst hx
    simp [fC, fE, fR]
  · have hc : c.tmod 10 ≠ 0 := fun q => h0 (p5 q).1
    obtain ⟨L, l1, l2, l3, l4⟩ := has_len 18 c.natAbs (by omega) (by omega)
    have hN : S.natAbs = c.natAbs * 10 ^ j := by
      rcases Int.lt_trichotomy c 0 with g | g | g
      · rw [hS, (tens_abs c j).1 g]; omega
      · exact absurd g h0
      · rw [hS, (tens_abs c j).2 (by omega)]; omega
    have hE : nE S.natAbs (x - j) = max (-40) (x + L - 18) := by
      unfold nE
      rw [hN, nd_tens l1 (by omega) l3 l4]
      congr 1
      omega
    obtain ⟨k, hk⟩ : ∃ k : Nat, x - nE S.natAbs (x - j) = (k : Int) := ⟨(x - nE S.natAbs (x - j)).toNat, by rw [hE]; omega⟩
    have hkl : k + L ≤ 18 := by rw [hE] at hk; omega
    have hq : nQ S.natAbs (x - j) false = c.natAbs * 10 ^ k := by
      unfold nQ
      rw [hN] at hk ⊢
      exact sc_exact (by omega)
    have hZ : nearZ S (x - j) false = tens c k := by
      unfold nearZ
      rw [hq]
      exact sg_tens k j hS
    have hb : c.natAbs * 10 ^ k < 10 ^ 18 := by
      have a : c.natAbs * 10 ^ k < 10 ^ L * 10 ^ k := Nat.mul_lt_mul_of_pos_right l4 (p10_pos k)
      have b : 10 ^ L * 10 ^ k ≤ 10 ^ 18 := by rw [← Nat.pow_add]; exact Nat.pow_le_pow_right (by decide) (by omega)
      omega
    have hab : ((tens c k).natAbs : Int) ≤ 1000000000000000000 := by
      rcases Int.lt_trichotomy c 0 with g | g | g
      · rw [(tens_abs c k).1 g]; omega
      · exact absurd g h0
      · rw [(tens_abs c k).2 (by omega)]; omega
    obtain ⟨t1, t2⟩ := tz_at (c := tens c k) rfl hc hab
    have hne : tens c k ≠ 0 := by
      have p := p10_pos k
      have := Nat.mul_pos (show 0 < c.natAbs by omega) p
      rcases Int.lt_trichotomy c 0 with g | g | g
      · rw [(tens_abs c k).1 g]; omega
      · exact absurd g h0
      · rw [(tens_abs c k).2 (by omega)]; omega
    rw [hZ]
    unfold fC fE fR
    rw [if_neg hne, if_neg hne, if_neg hne, t1, t2]
    have g : ¬ 40 < nE S.natAbs (x - j) + (k : Int) := by omega
    rw [if_neg g, if_neg g, if_neg g]
    exact ⟨rfl, by omega, rfl⟩
end Dm
