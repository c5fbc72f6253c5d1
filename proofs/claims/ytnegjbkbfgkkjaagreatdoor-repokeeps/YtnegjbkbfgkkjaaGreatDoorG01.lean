/- Plain facts on whole numbers that the walks over package dec want: no Go in sight. -/

namespace Dm

def wrongN (c e : Int) : Int := if c < -999999999999999999 ∨ 999999999999999999 < c ∨ e < -40 ∨ 40 < e then 3 else if c.tmod 10 = 0 ∧ ¬ (c = 0 ∧ e = 0) then 2 else 0

def sgn (x : Int) : Int := if x < 0 then -1 else if x = 0 then 0 else 1

def wrong2 (c1 x1 c2 x2 : Int) : Int := if wrongN c1 x1 = 0 then wrongN c2 x2 else wrongN c1 x1
theorem wrong2_ok {c1 x1 : Int} (h : wrongN c1 x1 = 0) (c2 x2 : Int) : wrong2 c1 x1 c2 x2 = wrongN c2 x2 := by unfold wrong2; rw [if_pos h]
theorem wrong2_no {c1 x1 : Int} (h : ¬ wrongN c1 x1 = 0) (c2 x2 : Int) : wrong2 c1 x1 c2 x2 = wrongN c1 x1 := by unfold wrong2; rw [if_neg h]

def tens (n : Int) : Nat → Int
  | 0 => n
  | k + 1 => tens n k * 10
theorem tens_eq (n : Int) (k : Nat) : tens n k = n * 10 ^ k := by
  induction k with
  | zero => simp [tens]
  | succ k ih => rw [tens, ih, Int.pow_succ, Int.mul_assoc]
theorem tens_pos {n : Int} (h : 1 ≤ n) (k : Nat) : 1 ≤ tens n k := by
  induction k with
  | zero => exact h
  | succ k ih => rw [tens]; omega
theorem tens_mono {n : Int} (h : 1 ≤ n) {j k : Nat} (hjk : j ≤ k) : tens n j ≤ tens n k := by
  induction hjk with
  | refl => exact Int.le_refl _
  | step _ ih => have := tens_pos h; rw [tens]; rename_i m _; have := this m; omega
theorem tens_1_17 : tens 1 17 = 100000000000000000 := by decide
theorem tens_le {n : Int} (h : 1 ≤ n) (k : Nat) : tens 1 k ≤ tens n k := by
  induction k with
  | zero => exact h
  | succ k ih => rw [tens, tens]; omega
theorem tens_lt {n m : Int} {k : Nat} (e : m = tens n k) (h : 1 ≤ n) (hl : m < 100000000000000000) : k < 17 := by
  rcases Nat.lt_or_ge k 17 with g | g
  · exact g
  · have a := tens_mono (n := 1) (by omega) g
    have b := tens_le h k
    rw [tens_1_17] at a
    omega

/-- a number as a whole multiple of 10^-40 -/
def V (c e : Int) : Int := tens c (e + 40).toNat

theorem tens_add (n : Int) (j k : Nat) : tens (tens n j) k = tens n (j + k) := by
  rw [tens_eq, tens_eq, tens_eq, Int.mul_assoc, Int.pow_add]
theorem tens_lt_tens {a b : Int} (h : a < b) (k : Nat) : tens a k < tens b k := by
  induction k with
  | zero => exact h
  | succ k ih => rw [tens, tens]; omega
theorem tens_le_tens {a b : Int} (h : a ≤ b) (k : Nat) : tens a k ≤ tens b k := by
  induction k with
  | zero => exact h
  | succ k ih => rw [tens, tens]; omega
theorem sgn_tens {a b : Int} (k : Nat) : sgn (tens a k - tens b k) = sgn (a - b) := by
  have h1 := @tens_lt_tens a b
  have h2 := @tens_lt_tens b a
  unfold sgn
  rcases Int.lt_trichotomy a b with h | h | h
  · have := h1 h k; rw [if_pos (by omega), if_pos (by omega)]
  · subst h; simp
  · have := h2 h k; rw [if_neg (by omega), if_neg (by omega), if_neg (by omega), if_neg (by omega)]
theorem sgn_lt {a : Int} (h : a < 0) : sgn a = -1 := by unfold sgn; rw [if_pos h]
theorem sgn_gt {a : Int} (h : 0 < a) : sgn a = 1 := by unfold sgn; rw [if_neg (by omega), if_neg (by omega)]

/-- the digits stretched to eighteen: what stands at 10^-57 -/
theorem V_stretch {n m x : Int} {k : Nat} (hx : -40 ≤ x) (e : m = tens n k) (hk : k ≤ 17) : tens (V n x) 17 = tens m (x - k + 57).toNat := by
  unfold V
  rw [e, tens_add, tens_add]
  congr 1
  omega
theorem cmp_sizes {n1 n2 m1 m2 x1 x2 : Int} {k1 k2 : Nat} (hx1 : -40 ≤ x1) (hx2 : -40 ≤ x2) (e1 : m1 = tens n1 k1) (e2 : m2 = tens n2 k2)
    (l1 : 100000000000000000 ≤ m1) (u1 : m1 < 1000000000000000000) (l2 : 100000000000000000 ≤ m2) (u2 : m2 < 1000000000000000000) (hk1 : k1 ≤ 17) (hk2 : k2 ≤ 17) :
    (x1 - (k1 : Int) = x2 - (k2 : Int) → sgn (V n1 x1 - V n2 x2) = sgn (m1 - m2)) ∧ (¬ x1 - (k1 : Int) = x2 - (k2 : Int) → sgn (V n1 x1 - V n2 x2) = sgn (x1 - k1 - (x2 - k2))) := by
  rw [← sgn_tens 17, V_stretch hx1 e1 hk1, V_stretch hx2 e2 hk2]
  have key : ∀ {a b : Int} {i j : Nat}, 100000000000000000 ≤ a → b < 1000000000000000000 → j < i → tens b j < tens a i := by
    intro a b i j ha hb hij
    have h1 : tens b j < tens 1000000000000000000 j := tens_lt_tens hb j
    have h2 : tens 1000000000000000000 j = tens 100000000000000000 (1 + j) := by rw [← tens_add]; rfl
    have h3 : tens 100000000000000000 (1 + j) ≤ tens 100000000000000000 i := tens_mono (by omega) (by omega)
    have h4 : tens 100000000000000000 i ≤ tens a i := tens_le_tens ha i
    omega
  refine ⟨fun h => ?_, fun h => ?_⟩
  · rw [h, sgn_tens]
  · rcases Int.lt_trichotomy (x1 - (k1 : Int)) (x2 - (k2 : Int)) with g | g | g
    · have := key (a := m2) (b := m1) (i := (x2 - k2 + 57).toNat) (j := (x1 - k1 + 57).toNat) l2 u1 (by omega)
      rw [sgn_lt (by omega), sgn_lt (by omega)]
    · exact absurd g h
    · have := key (a := m1) (b := m2) (i := (x1 - k1 + 57).toNat) (j := (x2 - k2 + 57).toNat) l1 u2 (by omega)
      rw [sgn_gt (by omega), sgn_gt (by omega)]

theorem wrong_ok {c x : Int} (h : wrongN c x = 0) : -1000000000000000000 < c ∧ c < 1000000000000000000 ∧ -40 ≤ x ∧ x ≤ 40 ∧ (c.tmod 10 = 0 → c = 0 ∧ x = 0) := by
  unfold wrongN at h
  split at h
  · omega
  · split at h
    · omega
    · rename_i h1 h2
      refine ⟨by omega, by omega, by omega, by omega, fun g => ?_⟩
      rcases Classical.em (c = 0 ∧ x = 0) with q | q
      · exact q
      · exact absurd ⟨g, q⟩ h2
theorem tens_neg (n : Int) (k : Nat) : tens (-n) k = - tens n k := by
  rw [tens_eq, tens_eq, Int.neg_mul]
theorem tens_zero (k : Nat) : tens 0 k = 0 := by
  induction k with
  | zero => rfl
  | succ k ih => rw [tens, ih]; rfl
theorem V_pos {c : Int} (h : 0 < c) (x : Int) : 0 < V c x := by
  have := tens_pos (n := c) (by omega) (x + 40).toNat
  unfold V; omega
theorem V_neg {c : Int} (h : c < 0) (x : Int) : V c x < 0 := by
  have := tens_pos (n := -c) (by omega) (x + 40).toNat
  rw [tens_neg] at this
  unfold V; omega
theorem V_zero (x : Int) : V 0 x = 0 := tens_zero _
theorem V_opp (c x : Int) : V (-c) x = - V c x := tens_neg _ _
theorem sgn_opp (a : Int) : sgn (-a) = - sgn a := by
  unfold sgn; (repeat' split) <;> omega
theorem sgn_bd (a : Int) : -1 ≤ sgn a ∧ sgn a ≤ 1 := by
  unfold sgn; (repeat' split) <;> omega

theorem sgn_cases (c : Int) : (c < 0 ∧ sgn c = -1) ∨ (c = 0 ∧ sgn c = 0) ∨ (0 < c ∧ sgn c = 1) := by
  unfold sgn; (repeat' split) <;> omega
theorem cmp_diff {c1 c2 : Int} (x1 x2 : Int) (h : sgn c1 ≠ sgn c2) : sgn (V c1 x1 - V c2 x2) = sgn (sgn c1 - sgn c2) := by
  have hv : ∀ {c : Int} (x : Int), (c < 0 → V c x < 0) ∧ (c = 0 → V c x = 0) ∧ (0 < c → 0 < V c x) := fun x => ⟨fun h => V_neg h x, fun h => by rw [h]; exact V_zero x, fun h => V_pos h x⟩
  have v1 := @hv c1 x1
  have v2 := @hv c2 x2
  rcases sgn_cases c1 with ⟨a, b⟩ | ⟨a, b⟩ | ⟨a, b⟩ <;> rcases sgn_cases c2 with ⟨c, d⟩ | ⟨c, d⟩ | ⟨c, d⟩ <;> rw [b, d] at h ⊢ <;> first
    | exact absurd rfl h
    | (have := v1.1 a; have := v2.2.1 c; rw [sgn_lt (by omega)]; rfl)
    | (have := v1.1 a; have := v2.2.2 c; rw [sgn_lt (by omega)]; rfl)
    | (have := v1.2.1 a; have := v2.1 c; rw [sgn_gt (by omega)]; rfl)
    | (have := v1.2.1 a; have := v2.2.2 c; rw [sgn_lt (by omega)]; rfl)
    | (have := v1.2.2 a; have := v2.1 c; rw [sgn_gt (by omega)]; rfl)
    | (have := v1.2.2 a; have := v2.2.1 c; rw [sgn_gt (by omega)]; rfl)
theorem cmp_zero {c1 c2 : Int} (x1 x2 : Int) (h : sgn c1 = sgn c2) (h0 : sgn c1 = 0) : sgn (V c1 x1 - V c2 x2) = 0 := by
  have a : c1 = 0 := by rcases sgn_cases c1 with ⟨a, b⟩ | ⟨a, b⟩ | ⟨a, b⟩ <;> omega
  have b : c2 = 0 := by rcases sgn_cases c2 with ⟨a, b⟩ | ⟨a, b⟩ | ⟨a, b⟩ <;> omega
  rw [a, b, V_zero, V_zero]; rfl
theorem cmp_same {c1 c2 : Int} (x1 x2 : Int) (h : sgn c1 = sgn c2) (h0 : sgn c1 ≠ 0) : 1 ≤ (c1.natAbs : Int) ∧ 1 ≤ (c2.natAbs : Int) ∧ sgn (V c1 x1 - V c2 x2) = sgn c1 * sgn (V (c1.natAbs : Int) x1 - V (c2.natAbs : Int) x2) := by
  rcases sgn_cases c1 with ⟨a, b⟩ | ⟨a, b⟩ | ⟨a, b⟩
  · have c : c2 < 0 := by rcases sgn_cases c2 with ⟨a, b⟩ | ⟨a, b⟩ | ⟨a, b⟩ <;> omega
    refine ⟨by omega, by omega, ?_⟩
    rw [b, show (c1.natAbs : Int) = -c1 by omega, show (c2.natAbs : Int) = -c2 by omega, V_opp, V_opp, show -V c1 x1 - -V c2 x2 = -(V c1 x1 - V c2 x2) by omega, sgn_opp]
    omega
  · exact absurd b h0
  · have c : 0 < c2 := by rcases sgn_cases c2 with ⟨a, b⟩ | ⟨a, b⟩ | ⟨a, b⟩ <;> omega
    refine ⟨by omega, by omega, ?_⟩
    rw [b, show (c1.natAbs : Int) = c1 by omega, show (c2.natAbs : Int) = c2 by omega]
    omega

end Dm

/- Plain facts on digits, rounding and the noughts at a number's end: no Go in sight. -/
namespace Dm

/-- the whole number that the first k digits tell -/
def val (D : Nat → Nat) : Nat → Nat
  | 0 => 0
  | k + 1 => val D k * 10 + D k
/-- the whole number that the last k of n digits tell -/
def suf (D : Nat → Nat) (n : Nat) : Nat → Nat
  | 0 => 0
  | k + 1 => D (n - (k + 1)) * 10 ^ k + suf D n k

theorem p10_succ (k : Nat) : 10 ^ (k + 1) = 10 * 10 ^ k := by rw [Nat.pow_succ, Nat.mul_comm]
theorem p10_pos (k : Nat) : 0 < 10 ^ k := Nat.pow_pos (by decide)

theorem val_suf (D : Nat → Nat) (n : Nat) : ∀ k, k ≤ n → val D n = val D (n - k) * 10 ^ k + suf D n k
  | 0, _ => by simp [suf]
  | k + 1, h => by
    rw [val_suf D n k (by omega), show n - k = (n - (k + 1)) + 1 by omega, val, suf, p10_succ, Nat.add_mul, Nat.mul_assoc, Nat.add_assoc]
theorem val_lt {D : Nat → Nat} (h : ∀ j, D j < 10) : ∀ k, val D k < 10 ^ k
  | 0 => by simp [val]
  | k + 1 => by have := val_lt h k; have := h k; rw [val, p10_succ]; omega
theorem suf_lt {D : Nat → Nat} (h : ∀ j, D j < 10) (n : Nat) : ∀ k, suf D n k < 10 ^ k
  | 0 => by simp [suf]
  | k + 1 => by
    have := suf_lt h n k
    have h9 : D (n - (k + 1)) * 10 ^ k ≤ 9 * 10 ^ k := Nat.mul_le_mul_right _ (by have := h (n - (k + 1)); omega)
    rw [suf, p10_succ]; omega
theorem val_zeros {D : Nat → Nat} : ∀ k, (∀ j, j < k → D j = 0) → val D k = 0
  | 0, _ => rfl
  | k + 1, h => by rw [val, val_zeros k (fun j hj => h j (by omega)), h k (by omega)]
theorem val_drop (D : Nat → Nat) (z : Nat) : ∀ k, val D (z + k) = val D z * 10 ^ k + val (fun j => D (z + j)) k
  | 0 => by simp [val]
  | k + 1 => by
    rw [show z + (k + 1) = z + k + 1 by omega, val, val_drop D z k, val, p10_succ, Nat.add_mul, ← Nat.add_assoc, Nat.mul_assoc, Nat.mul_comm (10 ^ k) 10]
theorem val_pos {D : Nat → Nat} {k : Nat} (h : D 0 ≠ 0) (hk : 0 < k) : 10 ^ (k - 1) ≤ val D k := by
  have := val_drop D 1 (k - 1)
  rw [show 1 + (k - 1) = k by omega] at this
  rw [this, show val D 1 = D 0 by simp [val]]
  have h1 : 1 * 10 ^ (k - 1) ≤ D 0 * 10 ^ (k - 1) := Nat.mul_le_mul_right _ (by omega)
  omega

def upd (R : Nat → Nat) (i d : Nat) : Nat → Nat := fun j => if j = i then d else R j
theorem upd_same (R : Nat → Nat) (i d : Nat) : upd R i d i = d := by simp [upd]
theorem upd_other {R : Nat → Nat} {i d j : Nat} (h : j ≠ i) : upd R i d j = R j := by simp [upd, h]
/-- the digits of N, W of them -/
def pd (N W : Nat) : Nat → Nat := fun j => N / 10 ^ (W - 1 - j) % 10
/-- N divided by p, to the nearest, a half to the even one, or up where more follows -/
def up (N p : Nat) (rest : Bool) : Bool := decide (p < 2 * (N % p) ∨ (2 * (N % p) = p ∧ (N / p % 2 = 1 ∨ rest = true)))
def rnd (N p : Nat) (rest : Bool) : Nat := if up N p rest = true then N / p + 1 else N / p
/-- N times 10^s, to the nearest -/
def sc (N : Nat) (s : Int) (rest : Bool) : Nat := if 0 ≤ s then N * 10 ^ s.toNat else rnd N (10 ^ (-s).toNat) rest

theorem mod_suf {D : Nat → Nat} (h : ∀ j, D j < 10) {n k : Nat} (hk : k ≤ n) : val D n % 10 ^ k = suf D n k ∧ val D n / 10 ^ k = val D (n - k) := by
  have e := val_suf D n k hk
  have l := suf_lt h n k
  constructor
  · rw [e, Nat.mul_comm, Nat.mul_add_mod, Nat.mod_eq_of_lt l]
  · rw [e, Nat.mul_comm, Nat.mul_add_div (p10_pos k), Nat.div_eq_of_lt l, Nat.add_zero]

/-- what the digit behind the kept ones says -/
theorem up_digit {D : Nat → Nat} (h : ∀ j, D j < 10) {n k : Nat} (hk : k < n) (rest : Bool) :
    (D k < 5 → up (val D n) (10 ^ (n - k)) rest = false) ∧ (5 < D k → up (val D n) (10 ^ (n - k)) rest = true) ∧
    (D k = 5 → up (val D n) (10 ^ (n - k)) rest = (decide (val D k % 2 = 1) || rest || decide (0 < suf D n (n - k - 1)))) := by
  obtain ⟨m, hm⟩ : ∃ m, n - k = m + 1 := ⟨n - k - 1, by omega⟩
  have a := (mod_suf h (n := n) (k := n - k) (by omega)).1
  have b := (mod_suf h (n := n) (k := n - k) (by omega)).2
  rw [show n - (n - k) = k by omega] at b
  have l := suf_lt h n m
  have e : suf D n (m + 1) = D k * 10 ^ m + suf D n m := by rw [suf, show n - (m + 1) = k by omega]
  have pp := p10_pos m
  unfold up
  rw [a, b, hm, e, p10_succ, show m + 1 - 1 = m by omega]
  generalize 10 ^ m = p at *
  generalize suf D n m = s at *
  generalize val D k = q at *
  generalize hd : D k = d at *
  refine ⟨fun g => ?_, fun g => ?_, fun g => ?_⟩
  · have : d * p ≤ 4 * p := Nat.mul_le_mul_right _ (by omega)
    simp only [decide_eq_false_iff_not]
    omega
  · have : 6 * p ≤ d * p := Nat.mul_le_mul_right _ (by omega)
    simp only [decide_eq_true_eq]
    omega
  · subst g
    cases rest
    · by_cases hq : q % 2 = 1
      · simp only [hq, true_or, and_true, decide_true, Bool.true_or, decide_eq_true_eq]; omega
      · by_cases hs : 0 < s
        · simp only [hs, decide_true, Bool.or_true, decide_eq_true_eq]; omega
        · simp [hq]; omega
    · simp; omega
/-- with too many digits dropped nothing is left -/
theorem up_far {D : Nat → Nat} (h : ∀ j, D j < 10) {n k : Nat} (hk : n < k) (rest : Bool) : rnd (val D n) (10 ^ k) rest = 0 := by
  have l := val_lt h n
  have m : 10 ^ (n + 1) ≤ 10 ^ k := Nat.pow_le_pow_right (by decide) (by omega)
  rw [p10_succ] at m
  have u : up (val D n) (10 ^ k) rest = false := by
    unfold up
    rw [Nat.mod_eq_of_lt (by omega)]
    simp only [decide_eq_false_iff_not]
    omega
  unfold rnd
  rw [u, Nat.div_eq_of_lt (by omega)]
  simp

/-- how many noughts are at the end -/
def tzs : Nat → Int → Nat
  | 0, _ => 0
  | f + 1, c => if c.tmod 10 = 0 then tzs f (c.tdiv 10) + 1 else 0
/-- the number without them -/
def tco : Nat → Int → Int
  | 0, c => c
  | f + 1, c => if c.tmod 10 = 0 then tco f (c.tdiv 10) else c
theorem td10 (c : Int) : 10 * c.tdiv 10 + c.tmod 10 = c := Int.mul_tdiv_add_tmod c 10
theorem tm10 (c : Int) : (c * 10).tmod 10 = 0 := Int.mul_tmod_left c 10
theorem tz_spec : ∀ (f : Nat) (c : Int), c ≠ 0 → (c.natAbs : Int) < 10 ^ f → c = tens (tco f c) (tzs f c) ∧ (tco f c).tmod 10 ≠ 0
  | 0, c, h, l => by simp at l; omega
  | f + 1, c, h, l => by
    have t := td10 c
    by_cases g : c.tmod 10 = 0
    · have l' : ((c.tdiv 10).natAbs : Int) < 10 ^ f := by
        rw [Int.pow_succ] at l
        have : (c.tdiv 10).natAbs * 10 = c.natAbs := by omega
        omega
      obtain ⟨a, b⟩ := tz_spec f (c.tdiv 10) (by omega) l'
      rw [tco, tzs, if_pos g, if_pos g]
      refine ⟨?_, b⟩
      rw [tens, ← a]; omega
    · rw [tco, tzs, if_neg g, if_neg g]
      exact ⟨rfl, g⟩
theorem tens_uniq {a b : Int} (ha : a.tmod 10 ≠ 0) (hb : b.tmod 10 ≠ 0) : ∀ {j k : Nat}, tens a j = tens b k → a = b ∧ j = k
  | 0, 0, h => ⟨h, rfl⟩
  | 0, k + 1, h => by rw [tens, tens] at h; exact absurd (by rw [h]; exact tm10 _) ha
  | j + 1, 0, h => by rw [tens, tens] at h; exact absurd (by rw [← h]; exact tm10 _) hb
  | j + 1, k + 1, h => by
    rw [tens, tens] at h
    obtain ⟨x, y⟩ := tens_uniq ha hb (j := j) (k := k) (by omega)
    exact ⟨x, by omega⟩

theorem tdiv_facts {m : Int} (h0 : m ≠ 0) (h : m.tmod 10 = 0) : m = m.tdiv 10 * 10 ∧ m.tdiv 10 ≠ 0 ∧ (m.tdiv 10).natAbs < m.natAbs ∧ (0 ≤ m → 0 ≤ m.tdiv 10 ∧ m.tdiv 10 ≤ m) ∧ (m ≤ 0 → m ≤ m.tdiv 10 ∧ m.tdiv 10 ≤ 0) := by
  have := td10 m
  omega
theorem tens_1_19 : tens 1 19 = 10000000000000000000 := by decide
theorem tens_k {c m : Int} {k : Nat} (e : c = tens m k) (h : m.tmod 10 = 0) (h0 : m ≠ 0) (h1 : -1000000000000000000 ≤ c) (h2 : c ≤ 1000000000000000000) : k < 18 := by
  have t := td10 m
  rcases Nat.lt_or_ge k 18 with g | g
  · exact g
  · exfalso
    have a := tens_mono (n := 1) (by omega) (show 19 ≤ k + 1 by omega)
    rw [tens_1_19] at a
    have e2 : c = tens (m.tdiv 10) (k + 1) := by rw [show k + 1 = 1 + k by omega, ← tens_add, e]; congr 1; simp only [tens]; omega
    rcases Int.lt_trichotomy (m.tdiv 10) 0 with q | q | q
    · have b := tens_le (n := -(m.tdiv 10)) (by omega) (k + 1)
      rw [tens_neg] at b
      omega
    · omega
    · have b := tens_le (n := m.tdiv 10) (by omega) (k + 1)
      omega

theorem tens_step {c m q : Int} {k : Nat} (H : c = tens m k) (h : m = q * 10) : c = tens q (k + 1) := by
  rw [show k + 1 = 1 + k by omega, ← tens_add, H]; congr 1

def fuel : Nat := 64
def tz (c : Int) : Nat := tzs fuel c
def tc (c : Int) : Int := tco fuel c
theorem tz_at {c m : Int} {k : Nat} (h : c = tens m k) (hm : m.tmod 10 ≠ 0) (hl : (c.natAbs : Int) ≤ 1000000000000000000) : tz c = k ∧ tc c = m := by
  have hc : c ≠ 0 := by
    intro h0
    have hm0 : m ≠ 0 := by intro z; rw [z] at hm; exact hm rfl
    rcases Int.lt_trichotomy m 0 with g | g | g
    · have := tens_pos (n := -m) (by omega) k; rw [tens_neg] at this; omega
    · exact hm0 g
    · have := tens_pos (n := m) (by omega) k; omega
  have hf : (1000000000000000000 : Int) < 10 ^ fuel := by decide
  obtain ⟨a, b⟩ := tz_spec fuel c hc (by omega)
  obtain ⟨x, y⟩ := tens_uniq b hm (a.symm.trans h)
  exact ⟨y, x⟩
/-- what is ntold of c times 10^x, its noughts taken away -/
def fC (c x : Int) : Int := if c = 0 then 0 else if 40 < x + tz c then 0 else tc c
def fE (c x : Int) : Int := if c = 0 then 0 else if 40 < x + tz c then 0 else x + tz c
def fR (c x : Int) : Int := if c = 0 then 0 else if 40 < x + tz c then 4 else 0

/-- how many digits N has -/
def ndf : Nat → Nat → Nat
  | 0, _ => 0
  | f + 1, N => if N = 0 then 0 else ndf f (N / 10) + 1
def nd (N : Nat) : Nat := ndf 200 N
theorem ndf_at : ∀ (f N L : Nat), L ≤ f → N < 10 ^ L → (L = 0 ∨ 10 ^ (L - 1) ≤ N) → ndf f N = L
  | 0, N, L, h, _, _ => by simp [ndf]; omega
  | f + 1, N, 0, h, l, _ => by simp at l; simp [ndf, l]
  | f + 1, N, L + 1, h, l, g => by
    have g' : 10 ^ L ≤ N := by rcases g with g | g; · omega
                               · simpa using g
    have := p10_pos L
    rw [p10_succ] at l
    rw [ndf, if_neg (by omega), ndf_at f (N / 10) L (by omega) (by omega) ?_]
    rcases Nat.eq_zero_or_pos L with z | z
    · exact .inl z
    · right
      rw [show L = (L - 1) + 1 by omega, p10_succ] at g'
      omega
theorem nd_at {N L : Nat} (h : L ≤ 200) (l : N < 10 ^ L) (g : L = 0 ∨ 10 ^ (L - 1) ≤ N) : nd N = L := ndf_at 200 N L h l g

/-- the exponent at which N times 10^x has eighteen digits at most, and the whole number there -/
def nE (N : Nat) (x : Int) : Int := max (-40) (x + nd N - 18)
def nQ (N : Nat) (x : Int) (rest : Bool) : Nat := sc N (x - nE N x) rest
def sg (b : Bool) (q : Nat) : Int := if b = true then -(q : Int) else q

/-- does what stands behind the kept digits make one more? -/
def gu (D : Nat → Nat) (n : Nat) (kept : Int) (odd R : Bool) : Bool :=
  if kept < 0 ∨ (n : Int) ≤ kept then false else if D kept.toNat = 5 then odd || R || decide (0 < suf D n (n - kept.toNat - 1)) else decide (5 < D kept.toNat)
theorem gu_out {D : Nat → Nat} {n : Nat} {kept : Int} (odd R : Bool) (h : kept < 0 ∨ (n : Int) ≤ kept) : gu D n kept odd R = false := by unfold gu; rw [if_pos h]
theorem gu_in {D : Nat → Nat} {n k : Nat} (odd R : Bool) (h : k < n) (h5 : D k ≠ 5) : gu D n (k : Int) odd R = decide (5 < D k) := by
  unfold gu; rw [if_neg (by omega), Int.toNat_natCast, if_neg h5]
theorem gu_5 {D : Nat → Nat} {n k : Nat} (odd R : Bool) (h : k < n) (h5 : D k = 5) : gu D n (k : Int) odd R = (odd || R || decide (0 < suf D n (n - k - 1))) := by
  unfold gu; rw [if_neg (by omega), Int.toNat_natCast, if_pos h5]
theorem suf_val (D : Nat → Nat) {n k : Nat} (h : k ≤ n) : suf D n (n - k) = val (fun j => D (k + j)) (n - k) := by
  have a := val_drop D k (n - k)
  have b := val_suf D n (n - k) (by omega)
  rw [show k + (n - k) = n by omega] at a
  rw [show n - (n - k) = k by omega] at b
  omega
/-- noughts alone, or not -/
theorem val_z {E : Nat → Nat} {m z : Nat} (hz : z ≤ m) (h0 : ∀ j, j < z → E j = 0) (h1 : z < m → E z ≠ 0) : decide (0 < val E m) = decide (z < m) := by
  rcases Nat.lt_or_ge z m with g | g
  · have a := val_drop E z (m - z)
    rw [show z + (m - z) = m by omega] at a
    have b := val_pos (D := fun j => E (z + j)) (k := m - z) (h1 g) (by omega)
    have c := p10_pos (m - z - 1)
    simp only [decide_eq_decide]
    omega
  · rw [val_zeros m (fun j hj => h0 j (by omega))]
    simp; omega

theorem suf_z (D : Nat → Nat) {n k z : Nat} (hk : k < n) (hz : z ≤ n - (k + 1)) (h0 : ∀ j, j < z → D (k + 1 + j) = 0) (h1 : z < n - (k + 1) → D (k + 1 + z) ≠ 0) : decide (0 < suf D n (n - k - 1)) = decide (z < n - (k + 1)) := by
  rw [show n - k - 1 = n - (k + 1) by omega, suf_val D (by omega)]
  exact val_z (E := fun j => D (k + 1 + j)) hz h0 h1

/-- the first k digits as a whole number, with noughts where there are no more -/
def vx (D : Nat → Nat) (n k : Nat) : Nat := if k ≤ n then val D k else val D n * 10 ^ (k - n)
theorem vx_zero (D : Nat → Nat) (n : Nat) : vx D n 0 = 0 := by simp [vx, val]
theorem vx_in {D : Nat → Nat} {n k : Nat} (h : k < n) : vx D n (k + 1) = vx D n k * 10 + D k := by
  unfold vx; rw [if_pos (by omega), if_pos (by omega), val]
theorem vx_out {D : Nat → Nat} {n k : Nat} (h : n ≤ k) : vx D n (k + 1) = vx D n k * 10 := by
  unfold vx
  rw [if_neg (by omega)]
  split
  · rw [show k = n by omega, show n + 1 - n = 1 by omega]
  · rw [show k + 1 - n = (k - n) + 1 by omega, p10_succ, Nat.mul_assoc, Nat.mul_comm 10 (10 ^ (k - n))]
theorem vx_lt {D : Nat → Nat} (h : ∀ j, D j < 10) (n : Nat) : ∀ k, vx D n k < 10 ^ k
  | 0 => by rw [vx_zero]; decide
  | k + 1 => by
    have := vx_lt h n k
    have := h k
    rw [p10_succ]
    rcases Nat.lt_or_ge k n with g | g
    · rw [vx_in g]; omega
    · rw [vx_out g]; omega
theorem p10_17 {k : Nat} (h : k ≤ 17) : 10 ^ k ≤ 100000000000000000 := Nat.le_trans (Nat.pow_le_pow_right (by decide) h) (by decide)
theorem p10_18 {k : Nat} (h : k ≤ 18) : 10 ^ k ≤ 1000000000000000000 := Nat.le_trans (Nat.pow_le_pow_right (by decide) h) (by decide)

def one (b : Bool) : Nat := if b = true then 1 else 0
theorem whole_eq {D : Nat → Nat} (h : ∀ j, D j < 10) (n : Nat) (x y : Int) (R : Bool) :
    vx D n ((n : Int) + x - y).toNat + one (gu D n ((n : Int) + x - y) (decide (vx D n ((n : Int) + x - y).toNat % 2 = 1)) R) = sc (val D n) (x - y) R := by
  rcases Int.lt_trichotomy ((n : Int) + x - y) 0 with g | g | g
  · rw [gu_out _ _ (.inl g), show ((n : Int) + x - y).toNat = 0 by omega, vx_zero]
    unfold sc
    rw [if_neg (by omega), up_far h (by omega)]
    rfl
  all_goals
    obtain ⟨k, hk⟩ : ∃ k : Nat, (n : Int) + x - y = (k : Int) := ⟨((n : Int) + x - y).toNat, by omega⟩
    rw [hk, Int.toNat_natCast]
    rcases Nat.lt_or_ge k n with q | q
    · have u := up_digit h q R
      have e : vx D n k = val D n / 10 ^ (n - k) := by rw [(mod_suf h (n := n) (k := n - k) (by omega)).2, show n - (n - k) = k by omega]; unfold vx; rw [if_pos (by omega)]
      have e2 : vx D n k = val D k := by unfold vx; rw [if_pos (by omega)]
      have gg : gu D n (k : Int) (decide (vx D n k % 2 = 1)) R = up (val D n) (10 ^ (n - k)) R := by
        rcases Nat.lt_trichotomy (D k) 5 with d | d | d
        · rw [gu_in _ _ q (by omega), u.1 d]; simp; omega
        · rw [gu_5 _ _ q d, u.2.2 d, e2]
        · rw [gu_in _ _ q (by omega), u.2.1 d]; simp; omega
      rw [gg]
      unfold sc
      rw [if_neg (by omega), show (-(x - y)).toNat = n - k by omega]
      unfold rnd one
      rw [← e]
      split <;> rfl
    · rw [gu_out _ _ (.inr (by omega))]
      have e1 : sc (val D n) (x - y) R = val D n * 10 ^ (k - n) := by unfold sc; rw [if_pos (by omega), show (x - y).toNat = k - n by omega]
      rw [e1]
      unfold vx
      split
      · rw [show k = n by omega]; simp [one]
      · rfl

theorem sc_le {D : Nat → Nat} (h : ∀ j, D j < 10) {n : Nat} {x y : Int} (R : Bool) (hk : (n : Int) + x - y ≤ 18) : sc (val D n) (x - y) R ≤ 1000000000000000000 := by
  have a := whole_eq h n x y R
  have b := vx_lt h n ((n : Int) + x - y).toNat
  have c := p10_18 (k := ((n : Int) + x - y).toNat) (by omega)
  have d : ∀ b, one b ≤ 1 := fun b => by unfold one; split <;> omega
  have := d (gu D n ((n : Int) + x - y) (decide (vx D n ((n : Int) + x - y).toNat % 2 = 1)) R)
  omega
theorem nd_val {D : Nat → Nat} (h : ∀ j, D j < 10) {n z : Nat} (hn : n ≤ 100) (hz : z ≤ n) (h0 : ∀ j, j < z → D j = 0) (h1 : z < n → D z ≠ 0) : val D n = val (fun j => D (z + j)) (n - z) ∧ nd (val D n) = n - z := by
  have a := val_drop D z (n - z)
  rw [show z + (n - z) = n by omega, val_zeros z h0] at a
  have e : val D n = val (fun j => D (z + j)) (n - z) := by omega
  refine ⟨e, ?_⟩
  rw [e]
  refine nd_at (by omega) (val_lt (fun j => h _) _) ?_
  rcases Nat.lt_or_ge z n with g | g
  · right; exact val_pos (D := fun j => D (z + j)) (h1 g) (by omega)
  · left; omega
theorem near_facts {D : Nat → Nat} (h : ∀ j, D j < 10) {n z : Nat} {x y : Int} (R : Bool) {q : Nat} (hn : n ≤ 100) (hx1 : -200 ≤ x) (hx2 : x ≤ 100) (hz : z ≤ n) (h0 : ∀ j, j < z → D j = 0) (h1 : z < n → D z ≠ 0)
    (hy : (if -40 < x + ((n - z : Nat) : Int) - 18 then x + ((n - z : Nat) : Int) - 18 else -40) = y) (hq : q = sc (val (fun j => D (z + j)) (n - z)) (x - y) R) :
    -200 ≤ y ∧ y ≤ 200 ∧ ((n - z : Nat) : Int) + x - y ≤ 18 ∧ (q : Int) ≤ 1000000000000000000 ∧ y = nE (val D n) x ∧ q = nQ (val D n) x R := by
  obtain ⟨e1, e2⟩ := nd_val h hn hz h0 h1
  have ey : y = nE (val D n) x := by
    unfold nE
    rw [e2, ← hy]
    split <;> omega
  have yk : ((n - z : Nat) : Int) + x - y ≤ 18 := by rw [← hy]; split <;> omega
  refine ⟨by rw [← hy]; split <;> omega, by rw [← hy]; split <;> omega, yk, ?_, ey, ?_⟩
  · have := sc_le (D := fun j => D (z + j)) (fun j => h _) R yk
    rw [hq]; omega
  · unfold nQ
    rw [hq, ← ey, e1]

end Dm

/- Plain facts on cutting digits off, and on what is rounded: no Go in sight. -/
namespace Dm

end Dm

/- Plain facts: what can be ntold exactly is. No Go in sight. -/
namespace Dm

end Dm

/- Tables in versions, in plain words (chapter 12): what commands make. Names are ordered by lt; a table has a name (nm) and what is wrong with it (wr). -/
namespace Go.Proofs.YtnegjbkbfgkkjaaGreatDoor.Rp

/-- an order of names -/
structure NameOrd {Nm : Type} (lt : Nm → Nm → Bool) : Prop where
  irr : ∀ a, lt a a = false
  trans : ∀ a b c, lt a b = true → lt b c = true → lt a c = true
  tri : ∀ a b, lt a b = true ∨ a = b ∨ lt b a = true
structure Ver (Tb : Type) where
  number : Int
  table : Tb
structure Ent (Nm Tb : Type) where
  name : Nm
  next : Int
  now : Int
  kept : List (Ver Tb)
structure Reply where
  err : Int
  version : Int
structure Seat where
  session : Int
  seq : Int
  reply : Reply
structure Repo (Nm Tb : Type) where
  entries : List (Ent Nm Tb)
  seats : List Seat
  applied : Int
structure Cmd (Nm Tb : Type) where
  session : Int
  seq : Int
  kind : Int
  table : Tb
  name : Nm
  back : Int

section
variable {Nm Tb : Type} [DecidableEq Nm] (lt : Nm → Nm → Bool) (wr : Tb → Int) (nm : Tb → Nm)
/-- one more at the end; the first one goes, if there are too many -/
def pushed {α : Type} (l : List α) (x : α) (most : Nat) : List α := if most < l.length + 1 then (l ++ [x]).drop 1 else l ++ [x]
def findE (l : List (Ent Nm Tb)) (n : Nm) : Option (Ent Nm Tb) := l.find? (fun e => decide (e.name = n))
/-- an entry in its place -/
def putE : List (Ent Nm Tb) → Ent Nm Tb → List (Ent Nm Tb)
  | [], e => [e]
  | x :: l, e => if x.name = e.name then e :: l else if lt x.name e.name = true then x :: putE l e else e :: x :: l
def delE (l : List (Ent Nm Tb)) (n : Nm) : List (Ent Nm Tb) := l.filter (fun e => decide (e.name ≠ n))
def findV (l : List (Ver Tb)) (n : Int) : Option (Ver Tb) := l.find? (fun v => decide (v.number = n))
def withNext (e : Ent Nm Tb) (t : Tb) : Ent Nm Tb := { e with kept := pushed e.kept ⟨e.next, t⟩ 3, now := e.next, next := e.next + 1 }
def done (l : List (Ent Nm Tb)) (c : Cmd Nm Tb) : List (Ent Nm Tb) × Reply :=
  if c.kind = 1 then
    (if wr c.table ≠ 0 then (l, ⟨wr c.table, 0⟩) else match findE l (nm c.table) with
      | some e => (putE lt l (withNext e c.table), ⟨0, e.next⟩)
      | none => if 6 ≤ l.length then (l, ⟨5, 0⟩) else (putE lt l (withNext ⟨nm c.table, 1, 0, []⟩ c.table), ⟨0, 1⟩))
  else if c.kind = 2 then
    (match findE l c.name with
      | some e => (match findV e.kept c.back with | some _ => (putE lt l { e with now := c.back }, ⟨0, c.back⟩) | none => (l, ⟨12, 0⟩))
      | none => (l, ⟨6, 0⟩))
  else if c.kind = 3 then (match findE l c.name with | some _ => (delE l c.name, ⟨0, 0⟩) | none => (l, ⟨6, 0⟩))
  else (l, ⟨1, 0⟩)
def findS (l : List Seat) (s : Int) : Option Seat := l.find? (fun x => decide (x.session = s))
def seated (l : List Seat) (s : Seat) : List Seat := pushed (l.filter (fun x => decide (x.session ≠ s.session))) s 4
/-- the command is done -/
def doneR (r : Repo Nm Tb) (c : Cmd Nm Tb) : Repo Nm Tb × Reply :=
  ({ entries := (done lt wr nm r.entries c).1, seats := seated r.seats ⟨c.session, c.seq, (done lt wr nm r.entries c).2⟩, applied := r.applied + 1 }, (done lt wr nm r.entries c).2)
def apply (r : Repo Nm Tb) (c : Cmd Nm Tb) : Repo Nm Tb × Reply :=
  if c.session < 1 ∨ c.seq < 1 then (r, ⟨3, 0⟩) else match findS r.seats c.session with
    | some s => if c.seq = s.seq then (r, s.reply) else if c.seq < s.seq then (r, ⟨12, 0⟩) else doneR lt wr nm r c
    | none => doneR lt wr nm r c
def empty : Repo Nm Tb := ⟨[], [], 0⟩
def run (l : List (Cmd Nm Tb)) : Repo Nm Tb := l.foldl (fun r c => (apply lt wr nm r c).1) empty
def find (r : Repo Nm Tb) (n : Nm) (v : Int) : Option Tb × Int := match findE r.entries n with
  | none => (none, 6)
  | some e => match findV e.kept (if v = 0 then e.now else v) with | none => (none, 12) | some x => (some x.table, 0)
end

section
variable {Nm Tb : Type} [DecidableEq Nm] {lt : Nm → Nm → Bool} {wr : Tb → Int} {nm : Tb → Nm}
/-- what holds of an entry -/
structure EInv (wr : Tb → Int) (nm : Tb → Nm) (e : Ent Nm Tb) : Prop where
  any1 : 1 ≤ e.kept.length
  few : e.kept.length ≤ 3
  num : ∀ (i : Nat) v, e.kept[i]? = some v → v.number = e.next - (e.kept.length : Int) + i
  now : ∃ v ∈ e.kept, v.number = e.now
  tab : ∀ v ∈ e.kept, nm v.table = e.name ∧ wr v.table = 0
  pos : (e.kept.length : Int) < e.next
structure RInv (lt : Nm → Nm → Bool) (wr : Tb → Int) (nm : Tb → Nm) (r : Repo Nm Tb) : Prop where
  rise : r.entries.Pairwise (fun a b => lt a.name b.name = true)
  few : r.entries.length ≤ 6
  ent : ∀ e ∈ r.entries, EInv wr nm e
  one : r.seats.Pairwise (fun a b => a.session ≠ b.session)
  seats : r.seats.length ≤ 4

theorem pushed_len {α : Type} (l : List α) (x : α) {most : Nat} (h : l.length ≤ most) : (pushed l x most).length ≤ most ∧ (pushed l x most).length = min (l.length + 1) most ∨ most = 0 := by
  unfold pushed
  by_cases h0 : most = 0
  · exact .inr h0
  · left
    split
    · rw [List.length_drop, List.length_append]; simp; omega
    · rw [List.length_append]; simp; omega
theorem pushed_mem {α : Type} {l : List α} {x y : α} {most : Nat} (h : y ∈ pushed l x most) : y ∈ l ∨ y = x := by
  unfold pushed at h
  split at h
  · have := List.mem_of_mem_drop h
    simpa using this
  · simpa using h
theorem pushed_last {α : Type} (l : List α) (x : α) {most : Nat} (h : l.length ≤ most) (h1 : 1 ≤ most) : x ∈ pushed l x most := by
  unfold pushed
  split
  · rw [List.mem_iff_getElem?]
    refine ⟨l.length - 1, ?_⟩
    rw [List.getElem?_drop, show 1 + (l.length - 1) = l.length by omega, List.getElem?_append_right (Nat.le_refl _), Nat.sub_self]
    rfl
  · simp
theorem pushed_pair {α : Type} {R : α → α → Prop} {l : List α} {x : α} {most : Nat} (h : l.Pairwise R) (hx : ∀ a ∈ l, R a x) : (pushed l x most).Pairwise R := by
  have : (l ++ [x]).Pairwise R := by
    rw [List.pairwise_append]
    exact ⟨h, by simp, fun a ha b hb => by rw [List.mem_singleton.1 hb]; exact hx a ha⟩
  unfold pushed
  split
  · exact this.drop
  · exact this

theorem findE_some {l : List (Ent Nm Tb)} {n : Nm} {e : Ent Nm Tb} (h : findE l n = some e) : e ∈ l ∧ e.name = n := ⟨List.mem_of_find?_eq_some h, by simpa using List.find?_some h⟩
theorem findE_none {l : List (Ent Nm Tb)} {n : Nm} : findE l n = none ↔ ∀ e ∈ l, e.name ≠ n := by unfold findE; rw [List.find?_eq_none]; simp
theorem putE_mem {l : List (Ent Nm Tb)} {e y : Ent Nm Tb} : y ∈ putE lt l e → y ∈ l ∨ y = e := by
  induction l with
  | nil => intro h; exact .inr (by simpa [putE] using h)
  | cons x l ih =>
    intro h
    rw [putE] at h
    split at h
    · rcases List.mem_cons.1 h with q | q
      · exact .inr q
      · exact .inl (by simp [q])
    · split at h
      · rcases List.mem_cons.1 h with q | q
        · exact .inl (by simp [q])
        · rcases ih q with r | r
          · exact .inl (by simp [r])
          · exact .inr r
      · rcases List.mem_cons.1 h with q | q
        · exact .inr q
        · exact .inl q
theorem putE_find {l : List (Ent Nm Tb)} (hl : l.Pairwise (fun a b => lt a.name b.name = true)) (e : Ent Nm Tb) (n : Nm) : findE (putE lt l e) n = if e.name = n then some e else findE l n := by
  induction l with
  | nil => simp only [putE, findE, List.find?_cons, List.find?_nil]; by_cases h : e.name = n <;> simp [h]
  | cons x l ih =>
    obtain ⟨h1, h2⟩ := List.pairwise_cons.1 hl
    rw [putE]
    split
    · rename_i hx
      unfold findE
      rw [List.find?_cons, List.find?_cons, hx]
      by_cases h : e.name = n <;> simp [h]
    · rename_i hx
      split
      · have := ih h2
        unfold findE at *
        rw [List.find?_cons, List.find?_cons, this]
        by_cases h : x.name = n
        · subst h
          simp [Ne.symm hx]
        · simp [h]
      · unfold findE
        rw [List.find?_cons]
        by_cases h : e.name = n <;> simp [h]
theorem putE_rise (O : NameOrd lt) {l : List (Ent Nm Tb)} (hl : l.Pairwise (fun a b => lt a.name b.name = true)) (e : Ent Nm Tb) : (putE lt l e).Pairwise (fun a b => lt a.name b.name = true) := by
  induction l with
  | nil => simp [putE]
  | cons x l ih =>
    obtain ⟨h1, h2⟩ := List.pairwise_cons.1 hl
    rw [putE]
    split
    · rename_i hx
      rw [List.pairwise_cons]
      exact ⟨fun y hy => by rw [← hx]; exact h1 y hy, h2⟩
    · rename_i hx
      split
      · rename_i hlt
        rw [List.pairwise_cons]
        refine ⟨fun y hy => ?_, ih h2⟩
        rcases putE_mem hy with q | rfl
        · exact h1 y q
        · exact hlt
      · rename_i hlt
        have hex : lt e.name x.name = true := by
          rcases O.tri x.name e.name with q | q | q
          · exact absurd q hlt
          · exact absurd q hx
          · exact q
        rw [List.pairwise_cons]
        refine ⟨fun y hy => ?_, hl⟩
        rcases List.mem_cons.1 hy with rfl | hy
        · exact hex
        · exact O.trans _ _ _ hex (h1 y hy)
theorem putE_len {l : List (Ent Nm Tb)} {e : Ent Nm Tb} : (putE lt l e).length ≤ l.length + 1 := by
  induction l with
  | nil => simp [putE]
  | cons x l ih =>
    rw [putE]
    split
    · simp
    · split
      · simp; exact ih
      · simp
theorem putE_len_old {l : List (Ent Nm Tb)} (hl : l.Pairwise (fun a b => lt a.name b.name = true)) {e x : Ent Nm Tb} (hx : findE l e.name = some x) : (putE lt l e).length = l.length := by
  induction l with
  | nil => cases hx
  | cons y l ih =>
    obtain ⟨h1, h2⟩ := List.pairwise_cons.1 hl
    rw [putE]
    split
    · simp
    · rename_i hy
      have hx' : findE l e.name = some x := by
        unfold findE at hx ⊢
        rw [List.find?_cons] at hx
        simpa [hy] using hx
      split
      · simp [ih h2 hx']
      · rename_i hlt
        exfalso
        obtain ⟨m1, m2⟩ := findE_some hx'
        have := h1 x m1
        rw [m2] at this
        exact hlt this
theorem delE_find {l : List (Ent Nm Tb)} (a n : Nm) : findE (delE l a) n = if a = n then none else findE l n := by
  unfold findE delE
  rw [List.find?_filter]
  by_cases h : a = n
  · subst h
    rw [if_pos rfl, List.find?_eq_none]
    intro x _
    simp
  · rw [if_neg h]
    congr 1
    funext x
    by_cases hx : x.name = n
    · have : x.name ≠ a := fun q => h (by rw [← q, hx])
      simp [hx]
      exact fun q => h q.symm
    · simp [hx]

omit [DecidableEq Nm] in
/-- a version more -/
theorem next_inv {e : Ent Nm Tb} {t : Tb} (h : (e.kept = [] ∧ e.next = 1) ∨ EInv wr nm e) (hw : wr t = 0) (hn : nm t = e.name) : EInv wr nm (withNext e t) := by
  have hlen : e.kept.length ≤ 3 := by
    rcases h with ⟨q, _⟩ | q
    · rw [q]; simp
    · exact q.few
  have hnum : ∀ (i : Nat) v, e.kept[i]? = some v → v.number = e.next - (e.kept.length : Int) + i := by
    rcases h with ⟨q, _⟩ | q
    · intro i v hv; rw [q] at hv; cases hv
    · exact q.num
  have hpos : (e.kept.length : Int) < e.next := by
    rcases h with ⟨q, q2⟩ | q
    · rw [q, q2]; simp
    · exact q.pos
  have pl : (pushed e.kept ⟨e.next, t⟩ 3).length = min (e.kept.length + 1) 3 := by
    rcases pushed_len e.kept ⟨e.next, t⟩ hlen with q | q
    · exact q.2
    · cases q
  refine ⟨?_, ?_, ?_, ?_, ?_, ?_⟩
  · show 1 ≤ (pushed e.kept ⟨e.next, t⟩ 3).length
    omega
  · show (pushed e.kept ⟨e.next, t⟩ 3).length ≤ 3
    omega
  · intro i v hv
    replace hv : (pushed e.kept ⟨e.next, t⟩ 3)[i]? = some v := hv
    show v.number = e.next + 1 - ((pushed e.kept ⟨e.next, t⟩ 3).length : Int) + i
    rw [pl]
    unfold pushed at hv
    split at hv
    · rename_i h3
      rw [List.getElem?_drop] at hv
      rcases Nat.lt_or_ge (1 + i) e.kept.length with q | q
      · rw [List.getElem?_append_left q] at hv
        have := hnum _ v hv
        omega
      · rw [List.getElem?_append_right q] at hv
        have hi : 1 + i - e.kept.length = 0 := by
          have := (List.getElem?_eq_some_iff.1 hv).1
          simp at this
          omega
        rw [hi] at hv
        cases hv
        show e.next = _
        omega
    · rename_i h3
      rcases Nat.lt_or_ge i e.kept.length with q | q
      · rw [List.getElem?_append_left q] at hv
        have := hnum _ v hv
        omega
      · rw [List.getElem?_append_right q] at hv
        have hi : i - e.kept.length = 0 := by
          have := (List.getElem?_eq_some_iff.1 hv).1
          simp at this
          omega
        rw [hi] at hv
        cases hv
        show e.next = _
        omega
  · exact ⟨⟨e.next, t⟩, pushed_last _ _ hlen (by omega), rfl⟩
  · intro v hv
    rcases pushed_mem hv with q | q
    · rcases h with ⟨q0, _⟩ | q1
      · rw [q0] at q; cases q
      · exact q1.tab v q
    · rw [q]
      exact ⟨hn, hw⟩
  · show ((pushed e.kept ⟨e.next, t⟩ 3).length : Int) < e.next + 1
    rw [pl]
    omega
theorem done_inv (O : NameOrd lt) {l : List (Ent Nm Tb)} (hr : l.Pairwise (fun a b => lt a.name b.name = true)) (hf : l.length ≤ 6) (he : ∀ e ∈ l, EInv wr nm e) (c : Cmd Nm Tb) :
    (done lt wr nm l c).1.Pairwise (fun a b => lt a.name b.name = true) ∧ (done lt wr nm l c).1.length ≤ 6 ∧ ∀ e ∈ (done lt wr nm l c).1, EInv wr nm e := by
  unfold done
  split
  · split
    · exact ⟨hr, hf, he⟩
    · rename_i hw
      have hw : wr c.table = 0 := Classical.byContradiction hw
      split
      · rename_i e hfe
        obtain ⟨m1, m2⟩ := findE_some hfe
        refine ⟨putE_rise O hr _, ?_, fun y hy => ?_⟩
        · show (putE lt l (withNext e c.table)).length ≤ 6
          rw [putE_len_old hr (e := withNext e c.table) (x := e) (by show findE l e.name = _; rw [m2]; exact hfe)]
          exact hf
        · rcases putE_mem hy with q | rfl
          · exact he y q
          · exact next_inv (.inr (he e m1)) hw m2.symm
      · split
        · exact ⟨hr, hf, he⟩
        · rename_i h6
          refine ⟨putE_rise O hr _, ?_, fun y hy => ?_⟩
          · have := putE_len (lt := lt) (l := l) (e := withNext ⟨nm c.table, 1, 0, []⟩ c.table)
            show (putE lt l (withNext ⟨nm c.table, 1, 0, []⟩ c.table)).length ≤ 6
            omega
          · rcases putE_mem hy with q | rfl
            · exact he y q
            · exact next_inv (.inl ⟨rfl, rfl⟩) hw rfl
  · split
    · split
      · rename_i e hfe
        split
        · rename_i v hv
          obtain ⟨m1, m2⟩ := findE_some hfe
          refine ⟨putE_rise O hr _, ?_, fun y hy => ?_⟩
          · show (putE lt l { e with now := c.back }).length ≤ 6
            rw [putE_len_old hr (e := { e with now := c.back }) (x := e) (by show findE l e.name = _; rw [m2]; exact hfe)]
            exact hf
          · rcases putE_mem hy with q | rfl
            · exact he y q
            · have q := he e m1
              exact ⟨q.any1, q.few, q.num, ⟨v, List.mem_of_find?_eq_some hv, by simpa using List.find?_some hv⟩, q.tab, q.pos⟩
        · exact ⟨hr, hf, he⟩
      · exact ⟨hr, hf, he⟩
    · split
      · split
        · exact ⟨hr.filter _, Nat.le_trans (List.length_filter_le _ _) hf, fun y hy => he y (List.mem_filter.1 hy).1⟩
        · exact ⟨hr, hf, he⟩
      · exact ⟨hr, hf, he⟩
theorem seated_inv {l : List Seat} (h1 : l.Pairwise (fun a b => a.session ≠ b.session)) (h2 : l.length ≤ 4) (s : Seat) : (seated l s).Pairwise (fun a b => a.session ≠ b.session) ∧ (seated l s).length ≤ 4 := by
  have hl : (l.filter (fun x => decide (x.session ≠ s.session))).length ≤ 4 := Nat.le_trans (List.length_filter_le _ _) h2
  refine ⟨pushed_pair (h1.filter _) (fun a ha => by simpa using (List.mem_filter.1 ha).2), ?_⟩
  rcases pushed_len _ s hl with q | q
  · exact q.1
  · cases q
theorem doneR_inv (O : NameOrd lt) {r : Repo Nm Tb} (h : RInv lt wr nm r) (c : Cmd Nm Tb) : RInv lt wr nm (doneR lt wr nm r c).1 := by
  obtain ⟨d1, d2, d3⟩ := done_inv O h.rise h.few h.ent c
  obtain ⟨s1, s2⟩ := seated_inv h.one h.seats ⟨c.session, c.seq, (done lt wr nm r.entries c).2⟩
  exact ⟨d1, d2, d3, s1, s2⟩
theorem apply_inv (O : NameOrd lt) {r : Repo Nm Tb} (h : RInv lt wr nm r) (c : Cmd Nm Tb) : RInv lt wr nm (apply lt wr nm r c).1 := by
  unfold apply
  split
  · exact h
  · split
    · split
      · exact h
      · split
        · exact h
        · exact doneR_inv O h c
    · exact doneR_inv O h c
theorem findS_seated {l : List Seat} (h2 : l.length ≤ 4) (h1 : l.Pairwise (fun a b => a.session ≠ b.session)) (s : Seat) : findS (seated l s) s.session = some s := by
  have hl : (l.filter (fun x => decide (x.session ≠ s.session))).length ≤ 4 := Nat.le_trans (List.length_filter_le _ _) h2
  obtain ⟨p1, _⟩ := seated_inv h1 h2 s
  have hm : s ∈ seated l s := pushed_last _ _ hl (by omega)
  unfold findS
  cases e : (seated l s).find? (fun x => decide (x.session = s.session)) with
  | none =>
    have := List.find?_eq_none.1 e s hm
    simp at this
  | some y =>
    have y1 := List.mem_of_find?_eq_some e
    have y2 : y.session = s.session := by simpa using List.find?_some e
    rcases pushed_mem y1 with q | q
    · have := (List.mem_filter.1 q).2
      simp [y2] at this
    · rw [q]
/-- RepoOnce: a command that comes again at once is replied to as it was, and changes nothing -/
theorem once (r : Repo Nm Tb) (h : RInv lt wr nm r) (c : Cmd Nm Tb) : apply lt wr nm (apply lt wr nm r c).1 c = ((apply lt wr nm r c).1, (apply lt wr nm r c).2) := by
  by_cases hb : c.session < 1 ∨ c.seq < 1
  · have e : apply lt wr nm r c = (r, ⟨3, 0⟩) := by unfold apply; rw [if_pos hb]
    rw [e]
    exact e
  · have again : apply lt wr nm (doneR lt wr nm r c).1 c = ((doneR lt wr nm r c).1, (doneR lt wr nm r c).2) := by
      have fs : findS (doneR lt wr nm r c).1.seats c.session = some ⟨c.session, c.seq, (done lt wr nm r.entries c).2⟩ := findS_seated h.seats h.one ⟨c.session, c.seq, (done lt wr nm r.entries c).2⟩
      unfold apply
      rw [if_neg hb, fs]
      simp only [if_true]
      rfl
    cases hs : findS r.seats c.session with
    | none =>
      have e : apply lt wr nm r c = doneR lt wr nm r c := by unfold apply; rw [if_neg hb, hs]
      rw [e]
      exact again
    | some s =>
      by_cases h1 : c.seq = s.seq
      · have e : apply lt wr nm r c = (r, s.reply) := by unfold apply; rw [if_neg hb, hs]; simp only []; rw [if_pos h1]
        rw [e]
        exact e
      · by_cases h2 : c.seq < s.seq
        · have e : apply lt wr nm r c = (r, ⟨12, 0⟩) := by unfold apply; rw [if_neg hb, hs]; simp only []; rw [if_neg h1, if_pos h2]
          rw [e]
          exact e
        · have e : apply lt wr nm r c = doneR lt wr nm r c := by unfold apply; rw [if_neg hb, hs]; simp only []; rw [if_neg h1, if_neg h2]
          rw [e]
          exact again
/-- RepoOthers: what is done to one name leaves the others' -/
theorem done_others {l : List (Ent Nm Tb)} (hr : l.Pairwise (fun a b => lt a.name b.name = true)) (c : Cmd Nm Tb) {n : Nm} (hn : (if c.kind = 1 then nm c.table else c.name) ≠ n) : findE (done lt wr nm l c).1 n = findE l n := by
  unfold done
  split
  · rename_i hk
    rw [if_pos hk] at hn
    split
    · rfl
    · split
      · rename_i e hfe
        obtain ⟨_, m2⟩ := findE_some hfe
        rw [putE_find hr, if_neg (by show e.name ≠ n; rw [m2]; exact hn)]
      · split
        · rfl
        · rw [putE_find hr, if_neg (by show nm c.table ≠ n; exact hn)]
  · rename_i hk
    rw [if_neg hk] at hn
    split
    · split
      · rename_i e hfe
        obtain ⟨_, m2⟩ := findE_some hfe
        split
        · rw [putE_find hr, if_neg (by show e.name ≠ n; rw [m2]; exact hn)]
        · rfl
      · rfl
    · split
      · split
        · rw [delE_find, if_neg hn]
        · rfl
      · rfl
theorem others {r : Repo Nm Tb} (h : RInv lt wr nm r) (c : Cmd Nm Tb) {n : Nm} (hn : (if c.kind = 1 then nm c.table else c.name) ≠ n) (v : Int) : find (apply lt wr nm r c).1 n v = find r n v := by
  have key : find (doneR lt wr nm r c).1 n v = find r n v := by
    unfold find
    show (match findE (done lt wr nm r.entries c).1 n with | none => _ | some e => _) = _
    rw [done_others h.rise c hn]
  unfold apply
  split
  · rfl
  · split
    · split
      · rfl
      · split
        · rfl
        · exact key
    · exact key
/-- RepoBack: a version that is kept counts again, whole -/
theorem back {r : Repo Nm Tb} (h : RInv lt wr nm r) {n : Nm} {v : Int} (hv : v ≠ 0) {t : Tb} (hf : find r n v = (some t, 0)) (c : Cmd Nm Tb) (hc : c.kind = 2 ∧ c.name = n ∧ c.back = v) : (doneR lt wr nm r c).2 = ⟨0, v⟩ ∧ find (doneR lt wr nm r c).1 n 0 = (some t, 0) := by
  obtain ⟨c1, c2, c3⟩ := hc
  unfold find at hf
  cases he : findE r.entries n with
  | none => rw [he] at hf; cases hf
  | some e =>
    rw [he] at hf
    simp only [if_neg hv] at hf
    cases hw : findV e.kept v with
    | none => rw [hw] at hf; cases hf
    | some x =>
      rw [hw] at hf
      simp only [] at hf
      have dn : done lt wr nm r.entries c = (putE lt r.entries { e with now := v }, ⟨0, v⟩) := by
        unfold done
        rw [if_neg (by omega), if_pos c1, c2, he]
        simp only []
        rw [c3, hw]
      obtain ⟨_, m2⟩ := findE_some he
      refine ⟨by show (done lt wr nm r.entries c).2 = _; rw [dn], ?_⟩
      unfold find
      show (match findE (done lt wr nm r.entries c).1 n with | none => _ | some e => _) = _
      rw [dn, putE_find h.rise, if_pos (show e.name = n from m2)]
      simp only [if_pos]
      rw [hw]
      exact hf
end
end Go.Proofs.YtnegjbkbfgkkjaaGreatDoor.Rp
