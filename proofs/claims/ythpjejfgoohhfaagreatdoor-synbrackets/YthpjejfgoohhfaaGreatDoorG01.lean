/- Plain facts on whole numbers that the walks over package dec want: no Go in sight. -/

namespace Dm

def bnd : Int := 999999999999999999
def wrongN (c e : Int) : Int := if c < -999999999999999999 ∨ 999999999999999999 < c ∨ e < -40 ∨ 40 < e then 3 else if c.tmod 10 = 0 ∧ ¬ (c = 0 ∧ e = 0) then 2 else 0

def sgn (x : Int) : Int := if x < 0 then -1 else if x = 0 then 0 else 1

def wrong2 (c1 x1 c2 x2 : Int) : Int := if wrongN c1 x1 = 0 then wrongN c2 x2 else wrongN c1 x1
theorem wrong2_ok {c1 x1 : Int} (h : wrongN c1 x1 = 0) (c2 x2 : Int) : wrong2 c1 x1 c2 x2 = wrongN c2 x2 := by unfold wrong2; rw [if_pos h]
theorem wrong2_no {c1 x1 : Int} (h : ¬ wrongN c1 x1 = 0) (c2 x2 : Int) : wrong2 c1 x1 c2 x2 = wrongN c1 x1 := by unfold wrong2; rw [if_neg h]

def okB (c e : Int) : Bool := decide (wrongN c e = 0)

def tens (n : Int) : Nat → Int
  | 0 => n
  | k + 1 => tens n k * 10
theorem tens_eq (n : Int) (k : Nat) : tens n k = n * 10 ^ k := by
  induction k with
  | zero => simp [tens]
  | succ k ih => rw [tens, ih, Int.pow_succ, Int.mul_assoc]
theorem tens_pos {n : Int} (h : 1 ≤ n) (k : Nat) : 1 ≤ tens n k := by
  induction k with
  | zero => exact h
  | succ k ih => rw [tens]; omega
theorem tens_mono {n : Int} (h : 1 ≤ n) {j k : Nat} (hjk : j ≤ k) : tens n j ≤ tens n k := by
  induction hjk with
  | refl => exact Int.le_refl _
  | step _ ih => have := tens_pos h; rw [tens]; rename_i m _; have := this m; omega
theorem tens_1_17 : tens 1 17 = 100000000000000000 := by decide
theorem tens_le {n : Int} (h : 1 ≤ n) (k : Nat) : tens 1 k ≤ tens n k := by
  induction k with
  | zero => exact h
  | succ k ih => rw [tens, tens]; omega
theorem tens_lt {n m : Int} {k : Nat} (e : m = tens n k) (h : 1 ≤ n) (hl : m < 100000000000000000) : k < 17 := by
  rcases Nat.lt_or_ge k 17 with g | g
  · exact g
  · have a := tens_mono (n := 1) (by omega) g
    have b := tens_le h k
    rw [tens_1_17] at a
    omega

/-- a number as a whole multiple of 10^-40 -/
def V (c e : Int) : Int := tens c (e + 40).toNat

theorem tens_add (n : Int) (j k : Nat) : tens (tens n j) k = tens n (j + k) := by
  rw [tens_eq, tens_eq, tens_eq, Int.mul_assoc, Int.pow_add]
theorem tens_mul (a b : Int) (k : Nat) : tens (a * b) k = a * tens b k := by
  rw [tens_eq, tens_eq, Int.mul_assoc]
theorem tens_sub (a b : Int) (k : Nat) : tens (a - b) k = tens a k - tens b k := by
  rw [tens_eq, tens_eq, tens_eq, Int.sub_mul]
theorem tens_lt_tens {a b : Int} (h : a < b) (k : Nat) : tens a k < tens b k := by
  induction k with
  | zero => exact h
  | succ k ih => rw [tens, tens]; omega
theorem tens_le_tens {a b : Int} (h : a ≤ b) (k : Nat) : tens a k ≤ tens b k := by
  induction k with
  | zero => exact h
  | succ k ih => rw [tens, tens]; omega
theorem sgn_tens {a b : Int} (k : Nat) : sgn (tens a k - tens b k) = sgn (a - b) := by
  have h1 := @tens_lt_tens a b
  have h2 := @tens_lt_tens b a
  unfold sgn
  rcases Int.lt_trichotomy a b with h | h | h
  · have := h1 h k; rw [if_pos (by omega), if_pos (by omega)]
  · subst h; simp
  · have := h2 h k; rw [if_neg (by omega), if_neg (by omega), if_neg (by omega), if_neg (by omega)]
theorem sgn_lt {a : Int} (h : a < 0) : sgn a = -1 := by unfold sgn; rw [if_pos h]
theorem sgn_gt {a : Int} (h : 0 < a) : sgn a = 1 := by unfold sgn; rw [if_neg (by omega), if_neg (by omega)]

/-- the digits stretched to eighteen: what stands at 10^-57 -/
theorem V_stretch {n m x : Int} {k : Nat} (hx : -40 ≤ x) (e : m = tens n k) (hk : k ≤ 17) : tens (V n x) 17 = tens m (x - k + 57).toNat := by
  unfold V
  rw [e, tens_add, tens_add]
  congr 1
  omega
theorem cmp_sizes {n1 n2 m1 m2 x1 x2 : Int} {k1 k2 : Nat} (hx1 : -40 ≤ x1) (hx2 : -40 ≤ x2) (e1 : m1 = tens n1 k1) (e2 : m2 = tens n2 k2)
    (l1 : 100000000000000000 ≤ m1) (u1 : m1 < 1000000000000000000) (l2 : 100000000000000000 ≤ m2) (u2 : m2 < 1000000000000000000) (hk1 : k1 ≤ 17) (hk2 : k2 ≤ 17) :
    (x1 - (k1 : Int) = x2 - (k2 : Int) → sgn (V n1 x1 - V n2 x2) = sgn (m1 - m2)) ∧ (¬ x1 - (k1 : Int) = x2 - (k2 : Int) → sgn (V n1 x1 - V n2 x2) = sgn (x1 - k1 - (x2 - k2))) := by
  rw [← sgn_tens 17, V_stretch hx1 e1 hk1, V_stretch hx2 e2 hk2]
  have key : ∀ {a b : Int} {i j : Nat}, 100000000000000000 ≤ a → b < 1000000000000000000 → j < i → tens b j < tens a i := by
    intro a b i j ha hb hij
    have h1 : tens b j < tens 1000000000000000000 j := tens_lt_tens hb j
    have h2 : tens 1000000000000000000 j = tens 100000000000000000 (1 + j) := by rw [← tens_add]; rfl
    have h3 : tens 100000000000000000 (1 + j) ≤ tens 100000000000000000 i := tens_mono (by omega) (by omega)
    have h4 : tens 100000000000000000 i ≤ tens a i := tens_le_tens ha i
    omega
  refine ⟨fun h => ?_, fun h => ?_⟩
  · rw [h, sgn_tens]
  · rcases Int.lt_trichotomy (x1 - (k1 : Int)) (x2 - (k2 : Int)) with g | g | g
    · have := key (a := m2) (b := m1) (i := (x2 - k2 + 57).toNat) (j := (x1 - k1 + 57).toNat) l2 u1 (by omega)
      rw [sgn_lt (by omega), sgn_lt (by omega)]
    · exact absurd g h
    · have := key (a := m1) (b := m2) (i := (x1 - k1 + 57).toNat) (j := (x2 - k2 + 57).toNat) l1 u2 (by omega)
      rw [sgn_gt (by omega), sgn_gt (by omega)]

theorem wrong_ok {c x : Int} (h : wrongN c x = 0) : -1000000000000000000 < c ∧ c < 1000000000000000000 ∧ -40 ≤ x ∧ x ≤ 40 ∧ (c.tmod 10 = 0 → c = 0 ∧ x = 0) := by
  unfold wrongN at h
  split at h
  · omega
  · split at h
    · omega
    · rename_i h1 h2
      refine ⟨by omega, by omega, by omega, by omega, fun g => ?_⟩
      rcases Classical.em (c = 0 ∧ x = 0) with q | q
      · exact q
      · exact absurd ⟨g, q⟩ h2
theorem tens_neg (n : Int) (k : Nat) : tens (-n) k = - tens n k := by
  rw [tens_eq, tens_eq, Int.neg_mul]
theorem tens_zero (k : Nat) : tens 0 k = 0 := by
  induction k with
  | zero => rfl
  | succ k ih => rw [tens, ih]; rfl
theorem V_pos {c : Int} (h : 0 < c) (x : Int) : 0 < V c x := by
  have := tens_pos (n := c) (by omega) (x + 40).toNat
  unfold V; omega
theorem V_neg {c : Int} (h : c < 0) (x : Int) : V c x < 0 := by
  have := tens_pos (n := -c) (by omega) (x + 40).toNat
  rw [tens_neg] at this
  unfold V; omega
theorem V_zero (x : Int) : V 0 x = 0 := tens_zero _
theorem V_opp (c x : Int) : V (-c) x = - V c x := tens_neg _ _
theorem sgn_pos {a : Int} (h : 0 < a) : sgn a = 1 := sgn_gt h
theorem sgn_zero : sgn 0 = 0 := rfl
theorem sgn_opp (a : Int) : sgn (-a) = - sgn a := by
  unfold sgn; (repeat' split) <;> omega
theorem sgn_bd (a : Int) : -1 ≤ sgn a ∧ sgn a ≤ 1 := by
  unfold sgn; (repeat' split) <;> omega

theorem sgn_cases (c : Int) : (c < 0 ∧ sgn c = -1) ∨ (c = 0 ∧ sgn c = 0) ∨ (0 < c ∧ sgn c = 1) := by
  unfold sgn; (repeat' split) <;> omega
theorem cmp_diff {c1 c2 : Int} (x1 x2 : Int) (h : sgn c1 ≠ sgn c2) : sgn (V c1 x1 - V c2 x2) = sgn (sgn c1 - sgn c2) := by
  have hv : ∀ {c : Int} (x : Int), (c < 0 → V c x < 0) ∧ (c = 0 → V c x = 0) ∧ (0 < c → 0 < V c x) := fun x => ⟨fun h => V_neg h x, fun h => by rw [h]; exact V_zero x, fun h => V_pos h x⟩
  have v1 := @hv c1 x1
  have v2 := @hv c2 x2
  rcases sgn_cases c1 with ⟨a, b⟩ | ⟨a, b⟩ | ⟨a, b⟩ <;> rcases sgn_cases c2 with ⟨c, d⟩ | ⟨c, d⟩ | ⟨c, d⟩ <;> rw [b, d] at h ⊢ <;> first
    | exact absurd rfl h
    | (have := v1.1 a; have := v2.2.1 c; rw [sgn_lt (by omega)]; rfl)
    | (have := v1.1 a; have := v2.2.2 c; rw [sgn_lt (by omega)]; rfl)
    | (have := v1.2.1 a; have := v2.1 c; rw [sgn_gt (by omega)]; rfl)
    | (have := v1.2.1 a; have := v2.2.2 c; rw [sgn_lt (by omega)]; rfl)
    | (have := v1.2.2 a; have := v2.1 c; rw [sgn_gt (by omega)]; rfl)
    | (have := v1.2.2 a; have := v2.2.1 c; rw [sgn_gt (by omega)]; rfl)
theorem cmp_zero {c1 c2 : Int} (x1 x2 : Int) (h : sgn c1 = sgn c2) (h0 : sgn c1 = 0) : sgn (V c1 x1 - V c2 x2) = 0 := by
  have a : c1 = 0 := by rcases sgn_cases c1 with ⟨a, b⟩ | ⟨a, b⟩ | ⟨a, b⟩ <;> omega
  have b : c2 = 0 := by rcases sgn_cases c2 with ⟨a, b⟩ | ⟨a, b⟩ | ⟨a, b⟩ <;> omega
  rw [a, b, V_zero, V_zero]; rfl
theorem cmp_same {c1 c2 : Int} (x1 x2 : Int) (h : sgn c1 = sgn c2) (h0 : sgn c1 ≠ 0) : 1 ≤ (c1.natAbs : Int) ∧ 1 ≤ (c2.natAbs : Int) ∧ sgn (V c1 x1 - V c2 x2) = sgn c1 * sgn (V (c1.natAbs : Int) x1 - V (c2.natAbs : Int) x2) := by
  rcases sgn_cases c1 with ⟨a, b⟩ | ⟨a, b⟩ | ⟨a, b⟩
  · have c : c2 < 0 := by rcases sgn_cases c2 with ⟨a, b⟩ | ⟨a, b⟩ | ⟨a, b⟩ <;> omega
    refine ⟨by omega, by omega, ?_⟩
    rw [b, show (c1.natAbs : Int) = -c1 by omega, show (c2.natAbs : Int) = -c2 by omega, V_opp, V_opp, show -V c1 x1 - -V c2 x2 = -(V c1 x1 - V c2 x2) by omega, sgn_opp]
    omega
  · exact absurd b h0
  · have c : 0 < c2 := by rcases sgn_cases c2 with ⟨a, b⟩ | ⟨a, b⟩ | ⟨a, b⟩ <;> omega
    refine ⟨by omega, by omega, ?_⟩
    rw [b, show (c1.natAbs : Int) = c1 by omega, show (c2.natAbs : Int) = c2 by omega]
    omega

end Dm
