/- Plain facts: what is more stays more. No Go in sight. -/
import Derived.Test.YtdkgapapdjefdaaGreatDoorG02
namespace Dm

theorem rnd_mono {a b p : Nat} (R : Bool) (h : a ≤ b) : rnd a p R ≤ rnd b p R := by
  have hq : a / p ≤ b / p := Nat.div_le_div_right h
  rcases Nat.lt_or_ge (a / p) (b / p) with g | g
  · unfold rnd
    split <;> split <;> omega
  · have e : a / p = b / p := Nat.le_antisymm hq g
    have da := Nat.div_add_mod a p
    have db := Nat.div_add_mod b p
    rw [e] at da
    have hr : a % p ≤ b % p := by omega
    have hu : up a p R = true → up b p R = true := by
      unfold up
      rw [e]
      simp only [decide_eq_true_eq]
      intro q
      rcases q with q | ⟨q, t⟩
      · left; omega
      · rcases Nat.lt_or_ge p (2 * (b % p)) with z | z
        · left; exact z
        · right; exact ⟨by omega, t⟩
    unfold rnd
    by_cases u : up a p R = true
    · rw [if_pos u, if_pos (hu u)]; omega
    · rw [if_neg u]; split <;> omega
theorem rnd_scale (N q j : Nat) (R : Bool) : rnd (N * 10 ^ j) (q * 10 ^ j) R = rnd N q R := by
  have p := p10_pos j
  have u : up (N * 10 ^ j) (q * 10 ^ j) R = up N q R := by
    unfold up
    rw [Nat.mul_div_mul_right _ _ p, Nat.mul_mod_mul_right]
    congr 1
    have a : q * 10 ^ j < 2 * (N % q * 10 ^ j) ↔ q < 2 * (N % q) := by
      rw [← Nat.mul_assoc]; exact Nat.mul_lt_mul_right p
    have b : 2 * (N % q * 10 ^ j) = q * 10 ^ j ↔ 2 * (N % q) = q := by
      rw [← Nat.mul_assoc]; exact Nat.mul_right_cancel_iff p
    rw [a, b]
  unfold rnd
  rw [u, Nat.mul_div_mul_right _ _ p]
theorem sc_shift (N j : Nat) (s : Int) : sc (N * 10 ^ j) (s - j) false = sc N s false := by
  by_cases h : 0 ≤ s
  · obtain ⟨k, hk⟩ : ∃ k : Nat, s = (k : Int) := ⟨s.toNat, by omega⟩
    rw [sc_exact (k := k) (by omega)]
    unfold sc
    rw [if_pos h, hk, Int.toNat_natCast]
  · unfold sc
    rw [if_neg h, if_neg (by omega), show (-(s - j)).toNat = (-s).toNat + j by omega, Nat.pow_add]
    exact rnd_scale _ _ _ _

theorem p10_lt {a b : Nat} (h : 10 ^ a < 10 ^ b) : a < b := (Nat.pow_lt_pow_iff_right (by decide)).1 h
theorem p10_le {a b : Nat} (h : a ≤ b) : 10 ^ a ≤ 10 ^ b := Nat.pow_le_pow_right (by decide) h
theorem nd_spec {N : Nat} (h : 1 ≤ N) (hl : N < 10 ^ 200) : 1 ≤ nd N ∧ nd N ≤ 200 ∧ 10 ^ (nd N - 1) ≤ N ∧ N < 10 ^ nd N := by
  obtain ⟨L, a, b, c, d⟩ := has_len 200 N h hl
  have e : nd N = L := nd_at b d (.inr c)
  rw [e]
  exact ⟨a, b, c, d⟩
theorem nd_zero : nd 0 = 0 := by decide
theorem nd_mono {a b : Nat} (h : a ≤ b) (hb : b < 10 ^ 200) : nd a ≤ nd b := by
  rcases Nat.eq_zero_or_pos a with z | z
  · subst z; rw [nd_zero]; omega
  · obtain ⟨a1, a2, a3, a4⟩ := nd_spec z (by omega)
    obtain ⟨b1, b2, b3, b4⟩ := nd_spec (N := b) (by omega) hb
    have := p10_lt (a := nd a - 1) (b := nd b) (by omega)
    omega
theorem nd_shift {N j : Nat} (h : 1 ≤ N) (hl : N * 10 ^ j < 10 ^ 200) : nd (N * 10 ^ j) = nd N + j := by
  have p := p10_pos j
  have n : N ≤ N * 10 ^ j := Nat.le_mul_of_pos_right _ p
  obtain ⟨a1, a2, a3, a4⟩ := nd_spec h (by omega)
  have q : 10 ^ (nd N - 1 + j) ≤ N * 10 ^ j := by rw [Nat.pow_add]; exact Nat.mul_le_mul_right _ a3
  have := p10_lt (a := nd N - 1 + j) (b := 200) (by omega)
  exact nd_tens a1 (by omega) a3 a4

/-- what stands at 10^-80, ntold in units of 10^-40 -/
def uE (N : Nat) : Nat := (nE N (-80) + 40).toNat
def uQ (N : Nat) : Nat := nQ N (-80) false * 10 ^ uE N
theorem uE_eq {N : Nat} : (uE N : Int) = nE N (-80) + 40 ∧ nQ N (-80) false = rnd N (10 ^ (uE N + 40)) false := by
  have e : nE N (-80) = max (-40 : Int) (-80 + (nd N : Int) - 18) := rfl
  have a : (uE N : Int) = nE N (-80) + 40 := by unfold uE; omega
  refine ⟨a, ?_⟩
  unfold nQ sc
  rw [if_neg (by omega), show (-(-80 - nE N (-80))).toNat = uE N + 40 by omega]
theorem uQ_le {N : Nat} (hN : N < 10 ^ 200) : nQ N (-80) false ≤ 10 ^ 18 := by
  obtain ⟨a, b⟩ := @uE_eq N
  have e : nE N (-80) = max (-40 : Int) (-80 + (nd N : Int) - 18) := rfl
  rw [b]
  rcases Nat.eq_zero_or_pos N with z | z
  · subst z
    have := rnd_exact 0 (uE 0 + 40) false rfl
    rw [Nat.zero_mul] at this
    rw [this]
    exact Nat.zero_le _
  · obtain ⟨n1, n2, n3, n4⟩ := nd_spec z hN
    have hl : N < 10 ^ 18 * 10 ^ (uE N + 40) := by
      rw [← Nat.pow_add]
      exact Nat.lt_of_lt_of_le n4 (p10_le (by omega))
    have hq : N / 10 ^ (uE N + 40) < 10 ^ 18 := by
      rw [Nat.div_lt_iff_lt_mul (p10_pos _)]; exact hl
    unfold rnd
    split <;> omega
theorem uQ_mono {a b : Nat} (h : a ≤ b) (hb : b < 10 ^ 200) : uQ a ≤ uQ b := by
  obtain ⟨a1, a2⟩ := @uE_eq a
  obtain ⟨b1, b2⟩ := @uE_eq b
  have ea : nE a (-80) = max (-40 : Int) (-80 + (nd a : Int) - 18) := rfl
  have eb : nE b (-80) = max (-40 : Int) (-80 + (nd b : Int) - 18) := rfl
  have m := nd_mono h hb
  unfold uQ
  rcases Nat.lt_or_ge (uE a) (uE b) with g | g
  · have l := uQ_le (N := a) (by omega)
    have hb1 : 1 ≤ b := by
      rcases Nat.eq_zero_or_pos b with z | z
      · subst z; rw [nd_zero] at eb; omega
      · exact z
    obtain ⟨n1, n2, n3, n4⟩ := nd_spec hb1 hb
    have q : 10 ^ 17 ≤ nQ b (-80) false := by
      rw [b2]
      have r : 10 ^ 17 ≤ b / 10 ^ (uE b + 40) := by
        rw [Nat.le_div_iff_mul_le (p10_pos _), ← Nat.pow_add]
        exact Nat.le_trans (p10_le (by omega)) n3
      unfold rnd
      split <;> omega
    have s1 : nQ a (-80) false * 10 ^ uE a ≤ 10 ^ 18 * 10 ^ uE a := Nat.mul_le_mul_right _ l
    have s2 : 10 ^ 18 * 10 ^ uE a ≤ 10 ^ 17 * 10 ^ uE b := by
      rw [← Nat.pow_add, ← Nat.pow_add]; exact p10_le (by omega)
    have s3 : 10 ^ 17 * 10 ^ uE b ≤ nQ b (-80) false * 10 ^ uE b := Nat.mul_le_mul_right _ q
    omega
  · have e : uE a = uE b := by omega
    rw [a2, b2, e]
    exact Nat.mul_le_mul_right _ (rnd_mono _ h)

/-- ntold in units of 10^-40, with its sign -/
def uZ (A : Int) : Int := sg (decide (A < 0)) (uQ A.natAbs)
theorem uZ_mono {A B : Int} (h : A ≤ B) (hA : A.natAbs < 10 ^ 200) (hB : B.natAbs < 10 ^ 200) : uZ A ≤ uZ B := by
  unfold uZ sg
  by_cases a : A < 0
  · by_cases b : B < 0
    · have := uQ_mono (a := B.natAbs) (b := A.natAbs) (by omega) hA
      rw [decide_eq_true a, decide_eq_true b, if_pos rfl, if_pos rfl]
      omega
    · rw [decide_eq_true a, decide_eq_false b, if_pos rfl, if_neg (by decide)]
      omega
  · have b : ¬ B < 0 := by omega
    have := uQ_mono (a := A.natAbs) (b := B.natAbs) (by omega) hB
    rw [decide_eq_false a, decide_eq_false b, if_neg (by decide), if_neg (by decide)]
    omega

theorem V_fC {C e : Int} (h1 : -1000000000000000000 ≤ C) (h2 : C ≤ 1000000000000000000) (he : -40 ≤ e) (hr : fR C e = 0) : V (fC C e) (fE C e) = tens C (e + 40).toNat := by
  by_cases h0 : C = 0
  · subst h0
    rw [tens_zero]
    simp [fC, fE]
    exact V_zero 0
  · obtain ⟨a, b⟩ := tz_of h0 (by omega)
    have g : ¬ (40 : Int) < e + (tz C : Int) := by
      intro q
      unfold fR at hr
      rw [if_neg h0, if_pos q] at hr
      omega
    have eC : fC C e = tc C := by unfold fC; rw [if_neg h0, if_neg g]
    have eE : fE C e = e + (tz C : Int) := by unfold fE; rw [if_neg h0, if_neg g]
    rw [eC, eE]
    unfold V
    rw [show (e + (tz C : Int) + 40).toNat = tz C + (e + 40).toNat by omega, ← tens_add, ← a]

/-- what is ntold of S times 10^x is what is ntold of the same at 10^-80 -/
theorem told_V {S x : Int} (hx : -80 ≤ x) (hl : S.natAbs * 10 ^ (x + 80).toNat < 10 ^ 200) (hr : fR (nearZ S x false) (nE S.natAbs x) = 0) :
    wrongN (fC (nearZ S x false) (nE S.natAbs x)) (fE (nearZ S x false) (nE S.natAbs x)) = 0 ∧ V (fC (nearZ S x false) (nE S.natAbs x)) (fE (nearZ S x false) (nE S.natAbs x)) = uZ (tens S (x + 80).toNat) := by
  have he : -40 ≤ nE S.natAbs x := by unfold nE; omega
  by_cases h0 : S = 0
  · subst h0
    have e : nearZ 0 x false = 0 := by
      unfold nearZ
      rw [show Int.natAbs 0 = 0 by rfl, nQ_zero]
      rfl
    rw [e, tens_zero]
    refine ⟨by simp [fC, fE]; decide, ?_⟩
    have z : uZ 0 = 0 := by decide +kernel
    rw [z]
    simp only [fC, fE]
    exact V_zero 0
  · obtain ⟨j, hj⟩ : ∃ j : Nat, x + 80 = (j : Int) := ⟨(x + 80).toNat, by omega⟩
    rw [hj, Int.toNat_natCast] at hl ⊢
    have hN : 1 ≤ S.natAbs := by omega
    have hA : (tens S j).natAbs = S.natAbs * 10 ^ j := by
      rcases Int.lt_trichotomy S 0 with g | g | g
      · rw [(tens_abs S j).1 g]; omega
      · exact absurd g h0
      · rw [(tens_abs S j).2 (by omega)]; omega
    have hsg : (decide (tens S j < 0)) = decide (S < 0) := by
      have p := Nat.mul_pos (show 0 < S.natAbs by omega) (p10_pos j)
      rcases Int.lt_trichotomy S 0 with g | g | g
      · rw [(tens_abs S j).1 g, decide_eq_true g, decide_eq_true]; omega
      · exact absurd g h0
      · rw [(tens_abs S j).2 (by omega), decide_eq_false (show ¬ S < 0 by omega), decide_eq_false]; omega
    have nn := nd_shift hN hl
    have hE : nE (S.natAbs * 10 ^ j) (-80) = nE S.natAbs x := by
      unfold nE
      rw [nn]
      congr 1
      omega
    have hQ : nQ (S.natAbs * 10 ^ j) (-80) false = nQ S.natAbs x false := by
      unfold nQ
      rw [hE, show -80 - nE S.natAbs x = (x - nE S.natAbs x) - (j : Int) by omega]
      exact sc_shift _ _ _
    have bq := uQ_le hl
    rw [hQ] at bq
    have bC : -1000000000000000000 ≤ nearZ S x false ∧ nearZ S x false ≤ 1000000000000000000 := by
      unfold nearZ sg; split <;> omega
    refine ⟨(round_told bC.1 bC.2 he hr).1, ?_⟩
    rw [V_fC bC.1 bC.2 he hr]
    unfold uZ uQ uE
    rw [hA, hsg, hQ, hE]
    unfold nearZ
    generalize nQ S.natAbs x false = q
    generalize (nE S.natAbs x + 40).toNat = k
    unfold sg
    split
    · rw [tens_neg, tens_eq, Int.natCast_mul]; simp
    · rw [tens_eq, Int.natCast_mul]; simp
end Dm

/- Plain: what is nearest to a ratio, and the first exponent at which it has eighteen digits. -/
namespace Dm

/-- the whole number nearest to N over D, a half to the even one -/
def nr (N D : Int) : Int := if D < 2 * (N % D) ∨ (2 * (N % D) = D ∧ N / D % 2 ≠ 0) then N / D + 1 else N / D
theorem nr_nat (A B : Nat) : nr (A : Int) (B : Int) = (rnd A B false : Nat) := by
  unfold nr rnd up
  have e1 : (A : Int) % (B : Int) = ((A % B : Nat) : Int) := by simp
  have e2 : (A : Int) / (B : Int) = ((A / B : Nat) : Int) := by simp
  rw [e1, e2]
  by_cases h : B < 2 * (A % B) ∨ (2 * (A % B) = B ∧ A / B % 2 = 1)
  · rw [if_pos (by omega), if_pos (by simpa using h)]
    simp
  · rw [if_neg (by omega), if_neg (by simpa using h)]
theorem nr_neg (N : Int) {D : Int} (hD : 0 < D) : nr (-N) D = -nr N D := by
  have h1 := Int.mul_ediv_add_emod N D
  have h2 := Int.emod_nonneg N (show D ≠ 0 by omega)
  have h3 := Int.emod_lt_of_pos N hD
  have key : ∀ q r : Int, 0 ≤ r → r < D → -N = D * q + r → (-N) / D = q ∧ (-N) % D = r := fun q r g0 g1 g => by
    have a : (-N) % D = r := by rw [g, Int.mul_add_emod_self_left]; exact Int.emod_eq_of_lt g0 g1
    refine ⟨?_, a⟩
    have b := Int.mul_ediv_add_emod (-N) D
    rw [a] at b
    have c : D * (-N / D) = D * q := by omega
    exact Int.eq_of_mul_eq_mul_left (by omega) c
  unfold nr
  generalize hq : N / D = q at *
  generalize hr : N % D = r at *
  by_cases h0 : r = 0
  · obtain ⟨a, b⟩ := key (-q) 0 (by omega) hD (by rw [Int.mul_neg]; omega)
    rw [a, b]
    rw [if_neg (by omega), if_neg (by omega)]
  · obtain ⟨a, b⟩ := key (-q - 1) (D - r) (by omega) (by omega) (by rw [Int.mul_sub, Int.mul_neg, Int.mul_one]; omega)
    rw [a, b]
    by_cases c : D < 2 * r ∨ (2 * r = D ∧ q % 2 ≠ 0)
    · rw [if_neg (by omega), if_pos c]
      omega
    · rw [if_pos (by omega), if_neg c]
      omega
theorem nr_sg (b : Bool) (A B : Nat) (hB : 0 < B) : nr (sg b A) (B : Int) = sg b (rnd A B false) := by
  unfold sg
  cases b
  · simp [nr_nat]
  · simp only [if_true]
    rw [nr_neg _ (by omega), nr_nat]
theorem rnd_mul (A B k : Nat) (R : Bool) (hk : 0 < k) : rnd (A * k) (B * k) R = rnd A B R := by
  unfold rnd up
  have e1 : A * k / (B * k) = A / B := Nat.mul_div_mul_right _ _ hk
  have e2 : A * k % (B * k) = A % B * k := Nat.mul_mod_mul_right _ _ _
  rw [e1, e2]
  have e3 : (B * k < 2 * (A % B * k)) ↔ B < 2 * (A % B) := by
    rw [← Nat.mul_assoc]
    exact Nat.mul_lt_mul_right hk
  have e4 : (2 * (A % B * k) = B * k) ↔ 2 * (A % B) = B := by
    rw [← Nat.mul_assoc]
    exact ⟨fun h => Nat.eq_of_mul_eq_mul_right hk h, fun h => by rw [h]⟩
  simp only [e3, e4]
theorem rnd_ratio {A B C D : Nat} (hB : 0 < B) (hD : 0 < D) (h : A * D = C * B) : rnd A B false = rnd C D false := by
  rw [← rnd_mul A B D false hD, ← rnd_mul C D B false hB, h, Nat.mul_comm D B]
/-- what a rest says is what the whole says, where an even number is dropped -/
theorem rnd_rest (A B p : Nat) (hB : 0 < B) (hp : p % 2 = 0) (hp0 : 0 < p) : rnd A (B * p) false = rnd (A / B) p (decide (A % B ≠ 0)) := by
  have q1 : A / (B * p) = A / B / p := (Nat.div_div_eq_div_mul A B p).symm
  have q2 : A % (B * p) = B * (A / B % p) + A % B := by
    rw [Nat.mod_mul]
    omega
  unfold rnd up
  rw [q1, q2]
  have hr : A % B < B := Nat.mod_lt _ hB
  have ht : A / B % p < p := Nat.mod_lt _ hp0
  generalize A / B / p = Q at *
  generalize hT : A / B % p = t at *
  generalize hR : A % B = r at *
  obtain ⟨k, rfl⟩ : ∃ k, p = 2 * k := ⟨p / 2, by omega⟩
  have key : ((B * (2 * k) < 2 * (B * t + r) ∨ (2 * (B * t + r) = B * (2 * k) ∧ (Q % 2 = 1 ∨ false = true))) ↔ (2 * k < 2 * t ∨ (2 * t = 2 * k ∧ (Q % 2 = 1 ∨ decide (r ≠ 0) = true)))) := by
    have m1 : B * (2 * k) = 2 * (B * k) := by rw [Nat.mul_left_comm]
    rw [m1]
    rcases Nat.lt_trichotomy t k with h | h | h
    · have : B * (t + 1) ≤ B * k := Nat.mul_le_mul_left _ h
      rw [Nat.mul_add] at this
      constructor
      · intro g; omega
      · intro g; omega
    · subst h
      simp
      omega
    · have : B * (k + 1) ≤ B * t := Nat.mul_le_mul_left _ h
      rw [Nat.mul_add] at this
      constructor
      · intro _; left; omega
      · intro _; left; omega
  simp only [key]

/-- from e on, the first exponent at which what is nearest has eighteen digits at most; noughts taken away -/
def fitF (g : Int → Int) : Nat → Int → Int × Int × Int
  | 0, _ => (0, 0, 4)
  | k + 1, e => if (g e).natAbs ≤ 999999999999999999 then (fC (g e) e, fE (g e) e, fR (g e) e) else fitF g k (e + 1)
theorem fitF_skip (g : Int → Int) : ∀ (j k : Nat) (e : Int), (∀ i : Nat, i < j → 999999999999999999 < (g (e + i)).natAbs) → fitF g (j + k) e = fitF g k (e + j)
  | 0, k, e, _ => by simp
  | j + 1, k, e, h => by
    have h0 := h 0 (by omega)
    rw [show j + 1 + k = (j + k) + 1 by omega, fitF, if_neg (by simp at h0; omega), fitF_skip g j k (e + 1) (fun i hi => by
      have := h (i + 1) (by omega)
      rw [show e + ((i + 1 : Nat) : Int) = e + 1 + i by omega] at this
      exact this)]
    congr 1
    omega
theorem fitF_hit (g : Int → Int) (k : Nat) (e : Int) (h : (g e).natAbs ≤ 999999999999999999) : fitF g (k + 1) e = (fC (g e) e, fE (g e) e, fR (g e) e) := by rw [fitF, if_pos h]
theorem sg_abs (b : Bool) (q : Nat) : (sg b q).natAbs = q := by unfold sg; cases b <;> simp
theorem sg_zero {b : Bool} {q : Nat} : sg b q = 0 ↔ q = 0 := by unfold sg; cases b <;> simp
theorem tz_18 (b : Bool) : tz (sg b 1000000000000000000) = 18 ∧ tc (sg b 1000000000000000000) = sg b 1 := by cases b <;> exact ⟨by decide +kernel, by decide +kernel⟩
theorem tz_17 (b : Bool) : tz (sg b 100000000000000000) = 17 ∧ tc (sg b 100000000000000000) = sg b 1 := by cases b <;> exact ⟨by decide +kernel, by decide +kernel⟩
theorem f_18 (b : Bool) (e : Int) : (fC (sg b 100000000000000000) (e + 1), fE (sg b 100000000000000000) (e + 1), fR (sg b 100000000000000000) (e + 1)) = (fC (sg b 1000000000000000000) e, fE (sg b 1000000000000000000) e, fR (sg b 1000000000000000000) e) := by
  unfold fC fE fR
  rw [(tz_17 b).1, (tz_17 b).2, (tz_18 b).1, (tz_18 b).2]
  have n1 : ¬ sg b 100000000000000000 = 0 := by rw [sg_zero]; omega
  have n2 : ¬ sg b 1000000000000000000 = 0 := by rw [sg_zero]; omega
  simp only [if_neg n1, if_neg n2]
  rw [show e + 1 + ((17 : Nat) : Int) = e + ((18 : Nat) : Int) by omega]
theorem f_far {q e : Int} (hq : q ≠ 0) (he : 40 < e) : (fC q e, fE q e, fR q e) = (0, 0, 4) := by
  unfold fC fE fR
  rw [if_neg hq, if_neg hq, if_neg hq, if_pos (by omega), if_pos (by omega), if_pos (by omega)]
/-- one digit less of what is rounded up to a one with noughts -/
theorem rnd_next {S p : Nat} {R : Bool} (hp : 0 < p) (hS : S < 1000000000000000000 * p) (h : rnd S p R = 1000000000000000000) : rnd S (p * 10) R = 100000000000000000 := by
  have d : S / p < 1000000000000000000 := Nat.div_lt_of_lt_mul (by rw [Nat.mul_comm]; exact hS)
  have hm := Nat.mod_lt S hp
  unfold rnd at h
  split at h
  · rename_i hu
    have dq : S / p = 999999999999999999 := by omega
    have t2 : p ≤ 2 * (S % p) := by
      unfold up at hu
      simp only [decide_eq_true_eq] at hu
      omega
    have e := Nat.div_add_mod S p
    rw [dq] at e
    have d2 : S / (p * 10) = 99999999999999999 := by rw [← Nat.div_div_eq_div_mul, dq]
    have e2 := Nat.div_add_mod S (p * 10)
    rw [d2] at e2
    unfold rnd
    rw [d2, if_pos (by unfold up; simp only [decide_eq_true_eq]; left; omega)]
  · omega
theorem fit_zero (b : Bool) (f : Int → Nat) (h : f (-40) = 0) (x : Int) : fitF (fun e => sg b (f e)) 121 (-40) = (fC (sg b 0) x, fE (sg b 0) x, fR (sg b 0) x) := by
  have z : sg b 0 = 0 := sg_zero.2 rfl
  rw [fitF_hit _ 120 (-40) (by simp [h, sg_abs])]
  simp only [h, z]
  unfold fC fE fR
  simp
theorem nQ_big {S : Nat} {x : Int} {R : Bool} (h1 : 1 ≤ S) (hS : S < 10 ^ 200) (hE : -40 < nE S x) : nQ S x R ≠ 0 := by
  obtain ⟨a, _, c, _⟩ := nd_spec h1 hS
  have hx : nE S x = x + nd S - 18 := by unfold nE at *; omega
  unfold nQ sc
  split
  · have := p10_pos (x - nE S x).toNat
    exact Nat.pos_iff_ne_zero.1 (Nat.mul_pos (by omega) this)
  · rename_i hs
    have hn : (-(x - nE S x)).toNat = nd S - 18 := by omega
    rw [hn]
    have l : 10 ^ (nd S - 18) ≤ S := Nat.le_trans (p10_le (by omega)) c
    have : 1 ≤ S / 10 ^ (nd S - 18) := (Nat.le_div_iff_mul_le (p10_pos _)).2 (by omega)
    unfold rnd
    split <;> omega
theorem nQ_le {S : Nat} {x : Int} {R : Bool} (h1 : 1 ≤ S) (hS : S < 10 ^ 200) : nQ S x R ≤ 1000000000000000000 ∧ (nQ S x R = 1000000000000000000 → sc S (x - (nE S x + 1)) R = 100000000000000000) := by
  obtain ⟨a, _, c, d⟩ := nd_spec h1 hS
  have hx : x + nd S - 18 ≤ nE S x := by unfold nE; omega
  have e18 : (1000000000000000000 : Nat) = 10 ^ 18 := by decide
  unfold nQ
  by_cases hs : 0 ≤ x - nE S x
  · have l : S * 10 ^ (x - nE S x).toNat < 10 ^ 18 := by
      have l1 : S * 10 ^ (x - nE S x).toNat < 10 ^ nd S * 10 ^ (x - nE S x).toNat := Nat.mul_lt_mul_of_pos_right d (p10_pos _)
      rw [← Nat.pow_add] at l1
      exact Nat.lt_of_lt_of_le l1 (p10_le (by omega))
    have e : sc S (x - nE S x) R = S * 10 ^ (x - nE S x).toNat := by unfold sc; rw [if_pos hs]
    rw [e, e18]
    exact ⟨by omega, fun g => by omega⟩
  · have e : sc S (x - nE S x) R = rnd S (10 ^ (-(x - nE S x)).toNat) R := by unfold sc; rw [if_neg hs]
    have e2 : sc S (x - (nE S x + 1)) R = rnd S (10 ^ (-(x - nE S x)).toNat * 10) R := by
      unfold sc
      rw [if_neg (by omega), ← Nat.pow_succ]
      congr 2
      omega
    have l : S < 1000000000000000000 * 10 ^ (-(x - nE S x)).toNat := by
      rw [e18, ← Nat.pow_add]
      exact Nat.lt_of_lt_of_le d (p10_le (by omega))
    rw [e, e2]
    have pp := p10_pos (-(x - nE S x)).toNat
    generalize 10 ^ (-(x - nE S x)).toNat = p at *
    refine ⟨?_, rnd_next pp l⟩
    have dd : S / p < 1000000000000000000 := Nat.div_lt_of_lt_mul (by rw [Nat.mul_comm]; exact l)
    unfold rnd
    split <;> omega
theorem fit_told (b : Bool) (S : Nat) (x : Int) (R : Bool) (f : Int → Nat) (h1 : 1 ≤ S) (hS : S < 10 ^ 200)
    (h : ∀ e, nE S x ≤ e → f e = sc S (x - e) R) (low : ∀ e, -40 ≤ e → e < nE S x → 1000000000000000000 ≤ f e) :
    fitF (fun e => sg b (f e)) 121 (-40) = (fC (sg b (nQ S x R)) (nE S x), fE (sg b (nQ S x R)) (nE S x), fR (sg b (nQ S x R)) (nE S x)) := by
  have hE : -40 ≤ nE S x := by unfold nE; omega
  have hq : f (nE S x) = nQ S x R := h _ (Int.le_refl _)
  obtain ⟨q1, q2⟩ := nQ_le (x := x) (R := R) h1 hS
  have skip : ∀ (j k : Nat), j + k = 121 → (j : Int) ≤ nE S x + 40 → fitF (fun e => sg b (f e)) 121 (-40) = fitF (fun e => sg b (f e)) k (-40 + j) := fun j k hjk hj => by
    rw [← hjk]
    refine fitF_skip _ j k (-40) fun i hi => ?_
    simp only [sg_abs]
    have := low (-40 + i) (by omega) (by omega)
    omega
  by_cases hbig : 80 < nE S x
  · rw [skip 121 0 rfl (by omega), fitF, f_far (by rw [Ne, sg_zero]; exact nQ_big h1 hS (by omega)) (by omega)]
  · obtain ⟨j, hj⟩ : ∃ j : Nat, nE S x = -40 + j := ⟨(nE S x + 40).toNat, by omega⟩
    rw [skip j (121 - j) (by omega) (by omega), ← hj, show 121 - j = (120 - j) + 1 by omega]
    by_cases hl : nQ S x R ≤ 999999999999999999
    · rw [fitF_hit _ _ _ (by simp only [sg_abs, hq]; exact hl)]
      simp only [hq]
    · have e18 : nQ S x R = 1000000000000000000 := by omega
      rw [fitF, if_neg (by simp only [sg_abs, hq]; omega), e18]
      by_cases h80 : nE S x = 80
      · rw [show 120 - j = 0 by omega, fitF, f_far (by rw [Ne, sg_zero]; omega) (by omega)]
      · have e17 : f (nE S x + 1) = 100000000000000000 := (h _ (by omega)).trans (q2 e18)
        rw [show 120 - j = (119 - j) + 1 by omega, fitF_hit _ _ _ (by simp only [sg_abs, e17]; omega)]
        simp only [e17]
        exact f_18 b _
end Dm
