/- Plain facts: what is more stays more. No Go in sight. -/
import Derived.Test.YthgiepppcpjpaaaDig3
namespace Dm

theorem rnd_mono {a b p : Nat} (R : Bool) (h : a ≤ b) : rnd a p R ≤ rnd b p R := by
  have hq : a / p ≤ b / p := Nat.div_le_div_right h
  rcases Nat.lt_or_ge (a / p) (b / p) with g | g
  · unfold rnd
    split <;> split <;> omega
  · have e : a / p = b / p := Nat.le_antisymm hq g
    have da := Nat.div_add_mod a p
    have db := Nat.div_add_mod b p
    rw [e] at da
    have hr : a % p ≤ b % p := by omega
    have hu : up a p R = true → up b p R = true := by
      unfold up
      rw [e]
      simp only [decide_eq_true_eq]
      intro q
      rcases q with q | ⟨q, t⟩
      · left; omega
      · rcases Nat.lt_or_ge p (2 * (b % p)) with z | z
        · left; exact z
        · right; exact ⟨by omega, t⟩
    unfold rnd
    by_cases u : up a p R = true
    · rw [if_pos u, if_pos (hu u)]; omega
    · rw [if_neg u]; split <;> omega
theorem rnd_scale (N q j : Nat) (R : Bool) : rnd (N * 10 ^ j) (q * 10 ^ j) R = rnd N q R := by
  have p := p10_pos j
  have u : up (N * 10 ^ j) (q * 10 ^ j) R = up N q R := by
    unfold up
    rw [Nat.mul_div_mul_right _ _ p, Nat.mul_mod_mul_right]
    congr 1
    have a : q * 10 ^ j < 2 * (N % q * 10 ^ j) ↔ q < 2 * (N % q) := by
      rw [← Nat.mul_assoc]; exact Nat.mul_lt_mul_right p
    have b : 2 * (N % q * 10 ^ j) = q * 10 ^ j ↔ 2 * (N % q) = q := by
      rw [← Nat.mul_assoc]; exact Nat.mul_right_cancel_iff p
    rw [a, b]
  unfold rnd
  rw [u, Nat.mul_div_mul_right _ _ p]
theorem sc_shift (N j : Nat) (s : Int) : sc (N * 10 ^ j) (s - j) false = sc N s false := by
  by_cases h : 0 ≤ s
  · obtain ⟨k, hk⟩ : ∃ k : Nat, s = (k : Int) := ⟨s.toNat, by omega⟩
    rw [sc_exact (k := k) (by omega)]
    unfold sc
    rw [if_pos h, hk, Int.toNat_natCast]
  · unfold sc
    rw [if_neg h, if_neg (by omega), show (-(s - j)).toNat = (-s).toNat + j by omega, Nat.pow_add]
    exact rnd_scale _ _ _ _

theorem p10_lt {a b : Nat} (h : 10 ^ a < 10 ^ b) : a < b := (Nat.pow_lt_pow_iff_right (by decide)).1 h
theorem p10_le {a b : Nat} (h : a ≤ b) : 10 ^ a ≤ 10 ^ b := Nat.pow_le_pow_right (by decide) h
theorem nd_spec {N : Nat} (h : 1 ≤ N) (hl : N < 10 ^ 200) : 1 ≤ nd N ∧ nd N ≤ 200 ∧ 10 ^ (nd N - 1) ≤ N ∧ N < 10 ^ nd N := by
  obtain ⟨L, a, b, c, d⟩ := has_len 200 N h hl
  have e : nd N = L := nd_at b d (.inr c)
  rw [e]
  exact ⟨a, b, c, d⟩
theorem nd_zero : nd 0 = 0 := by decide
theorem nd_mono {a b : Nat} (h : a ≤ b) (hb : b < 10 ^ 200) : nd a ≤ nd b := by
  rcases Nat.eq_zero_or_pos a with z | z
  · subst z; rw [nd_zero]; omega
  · obtain ⟨a1, a2, a3, a4⟩ := nd_spec z (by omega)
    obtain ⟨b1, b2, b3, b4⟩ := nd_spec (N := b) (by omega) hb
    have := p10_lt (a := nd a - 1) (b := nd b) (by omega)
    omega
theorem nd_shift {N j : Nat} (h : 1 ≤ N) (hl : N * 10 ^ j < 10 ^ 200) : nd (N * 10 ^ j) = nd N + j := by
  have p := p10_pos j
  have n : N ≤ N * 10 ^ j := Nat.le_mul_of_pos_right _ p
  obtain ⟨a1, a2, a3, a4⟩ := nd_spec h (by omega)
  have q : 10 ^ (nd N - 1 + j) ≤ N * 10 ^ j := by rw [Nat.pow_add]; exact Nat.mul_le_mul_right _ a3
  have := p10_lt (a := nd N - 1 + j) (b := 200) (by omega)
  exact nd_tens a1 (by omega) a3 a4

/-- what stands at 10^-80, told in units of 10^-40 -/
def uE (N : Nat) : Nat := (nE N (-80) + 40).toNat
def uQ (N : Nat) : Nat := nQ N (-80) false * 10 ^ uE N
theorem uE_eq {N : Nat} : (uE N : Int) = nE N (-80) + 40 ∧ nQ N (-80) false = rnd N (10 ^ (uE N + 40)) false := by
  have e : nE N (-80) = max (-40 : Int) (-80 + (nd N : Int) - 18) := rfl
  have a : (uE N : Int) = nE N (-80) + 40 := by unfold uE; omega
  refine ⟨a, ?_⟩
  unfold nQ sc
  rw [if_neg (by omega), show (-(-80 - nE N (-80))).toNat = uE N + 40 by omega]
theorem uQ_le {N : Nat} (hN : N < 10 ^ 200) : nQ N (-80) false ≤ 10 ^ 18 := by
  obtain ⟨a, b⟩ := @uE_eq N
  have e : nE N (-80) = max (-40 : Int) (-80 + (nd N : Int) - 18) := rfl
  rw [b]
  rcases Nat.eq_zero_or_pos N with z | z
  · subst z
    have := rnd_exact 0 (uE 0 + 40) false rfl
    rw [Nat.zero_mul] at this
    rw [this]
    exact Nat.zero_le _
  · obtain ⟨n1, n2, n3, n4⟩ := nd_spec z hN
    have hl : N < 10 ^ 18 * 10 ^ (uE N + 40) := by
      rw [← Nat.pow_add]
      exact Nat.lt_of_lt_of_le n4 (p10_le (by omega))
    have hq : N / 10 ^ (uE N + 40) < 10 ^ 18 := by
      rw [Nat.div_lt_iff_lt_mul (p10_pos _)]; exact hl
    unfold rnd
    split <;> omega
theorem uQ_mono {a b : Nat} (h : a ≤ b) (hb : b < 10 ^ 200) : uQ a ≤ uQ b := by
  obtain ⟨a1, a2⟩ := @uE_eq a
  obtain ⟨b1, b2⟩ := @uE_eq b
  have ea : nE a (-80) = max (-40 : Int) (-80 + (nd a : Int) - 18) := rfl
  have eb : nE b (-80) = max (-40 : Int) (-80 + (nd b : Int) - 18) := rfl
  have m := nd_mono h hb
  unfold uQ
  rcases Nat.lt_or_ge (uE a) (uE b) with g | g
  · have l := uQ_le (N := a) (by omega)
    have hb1 : 1 ≤ b := by
      rcases Nat.eq_zero_or_pos b with z | z
      · subst z; rw [nd_zero] at eb; omega
      · exact z
    obtain ⟨n1, n2, n3, n4⟩ := nd_spec hb1 hb
    have q : 10 ^ 17 ≤ nQ b (-80) false := by
      rw [b2]
      have r : 10 ^ 17 ≤ b / 10 ^ (uE b + 40) := by
        rw [Nat.le_div_iff_mul_le (p10_pos _), ← Nat.pow_add]
        exact Nat.le_trans (p10_le (by omega)) n3
      unfold rnd
      split <;> omega
    have s1 : nQ a (-80) false * 10 ^ uE a ≤ 10 ^ 18 * 10 ^ uE a := Nat.mul_le_mul_right _ l
    have s2 : 10 ^ 18 * 10 ^ uE a ≤ 10 ^ 17 * 10 ^ uE b := by
      rw [← Nat.pow_add, ← Nat.pow_add]; exact p10_le (by omega)
    have s3 : 10 ^ 17 * 10 ^ uE b ≤ nQ b (-80) false * 10 ^ uE b := Nat.mul_le_mul_right _ q
    omega
  · have e : uE a = uE b := by omega
    rw [a2, b2, e]
    exact Nat.mul_le_mul_right _ (rnd_mono _ h)

/-- told in units of 10^-40, with its sign -/
def uZ (A : Int) : Int := sg (decide (A < 0)) (uQ A.natAbs)
theorem uZ_mono {A B : Int} (h : A ≤ B) (hA : A.natAbs < 10 ^ 200) (hB : B.natAbs < 10 ^ 200) : uZ A ≤ uZ B := by
  unfold uZ sg
  by_cases a : A < 0
  · by_cases b : B < 0
    · have := uQ_mono (a := B.natAbs) (b := A.natAbs) (by omega) hA
      rw [decide_eq_true a, decide_eq_true b, if_pos rfl, if_pos rfl]
      omega
    · rw [decide_eq_true a, decide_eq_false b, if_pos rfl, if_neg (by decide)]
      omega
  · have b : ¬ B < 0 := by omega
    have := uQ_mono (a := A.natAbs) (b := B.natAbs) (by omega) hB
    rw [decide_eq_false a, decide_eq_false b, if_neg (by decide), if_neg (by decide)]
    omega

theorem V_fC {C e : Int} (h1 : -1000000000000000000 ≤ C) (h2 : C ≤ 1000000000000000000) (he : -40 ≤ e) (hr : fR C e = 0) : V (fC C e) (fE C e) = tens C (e + 40).toNat := by
  by_cases h0 : C = 0
  · subst h0
    rw [tens_zero]
    simp [fC, fE]
    exact V_zero 0
  · obtain ⟨a, b⟩ := tz_of h0 (by omega)
    have g : ¬ (40 : Int) < e + (tz C : Int) := by
      intro q
      unfold fR at hr
      rw [if_neg h0, if_pos q] at hr
      omega
    have eC : fC C e = tc C := by unfold fC; rw [if_neg h0, if_neg g]
    have eE : fE C e = e + (tz C : Int) := by unfold fE; rw [if_neg h0, if_neg g]
    rw [eC, eE]
    unfold V
    rw [show (e + (tz C : Int) + 40).toNat = tz C + (e + 40).toNat by omega, ← tens_add, ← a]

/-- what is told of S times 10^x is what is told of the same at 10^-80 -/
theorem told_V {S x : Int} (hx : -80 ≤ x) (hl : S.natAbs * 10 ^ (x + 80).toNat < 10 ^ 200) (hr : fR (nearZ S x false) (nE S.natAbs x) = 0) :
    wrongN (fC (nearZ S x false) (nE S.natAbs x)) (fE (nearZ S x false) (nE S.natAbs x)) = 0 ∧ V (fC (nearZ S x false) (nE S.natAbs x)) (fE (nearZ S x false) (nE S.natAbs x)) = uZ (tens S (x + 80).toNat) := by
  have he : -40 ≤ nE S.natAbs x := by unfold nE; omega
  by_cases h0 : S = 0
  · subst h0
    have e : nearZ 0 x false = 0 := by
      unfold nearZ
      rw [show Int.natAbs 0 = 0 by rfl, nQ_zero]
      rfl
    rw [e, tens_zero]
    refine ⟨by simp [fC, fE]; decide, ?_⟩
    have z : uZ 0 = 0 := by decide +kernel
    rw [z]
    simp only [fC, fE]
    exact V_zero 0
  · obtain ⟨j, hj⟩ : ∃ j : Nat, x + 80 = (j : Int) := ⟨(x + 80).toNat, by omega⟩
    rw [hj, Int.toNat_natCast] at hl ⊢
    have hN : 1 ≤ S.natAbs := by omega
    have hA : (tens S j).natAbs = S.natAbs * 10 ^ j := by
      rcases Int.lt_trichotomy S 0 with g | g | g
      · rw [(tens_abs S j).1 g]; omega
      · exact absurd g h0
      · rw [(tens_abs S j).2 (by omega)]; omega
    have hsg : (decide (tens S j < 0)) = decide (S < 0) := by
      have p := Nat.mul_pos (show 0 < S.natAbs by omega) (p10_pos j)
      rcases Int.lt_trichotomy S 0 with g | g | g
      · rw [(tens_abs S j).1 g, decide_eq_true g, decide_eq_true]; omega
      · exact absurd g h0
      · rw [(tens_abs S j).2 (by omega), decide_eq_false (show ¬ S < 0 by omega), decide_eq_false]; omega
    have nn := nd_shift hN hl
    have hE : nE (S.natAbs * 10 ^ j) (-80) = nE S.natAbs x := by
      unfold nE
      rw [nn]
      congr 1
      omega
    have hQ : nQ (S.natAbs * 10 ^ j) (-80) false = nQ S.natAbs x false := by
      unfold nQ
      rw [hE, show -80 - nE S.natAbs x = (x - nE S.natAbs x) - (j : Int) by omega]
      exact sc_shift _ _ _
    have bq := uQ_le hl
    rw [hQ] at bq
    have bC : -1000000000000000000 ≤ nearZ S x false ∧ nearZ S x false ≤ 1000000000000000000 := by
      unfold nearZ sg; split <;> omega
    refine ⟨(round_told bC.1 bC.2 he hr).1, ?_⟩
    rw [V_fC bC.1 bC.2 he hr]
    unfold uZ uQ uE
    rw [hA, hsg, hQ, hE]
    unfold nearZ
    generalize nQ S.natAbs x false = q
    generalize (nE S.natAbs x + 40).toNat = k
    unfold sg
    split
    · rw [tens_neg, tens_eq, Int.natCast_mul]; simp
    · rw [tens_eq, Int.natCast_mul]; simp
end Dm
