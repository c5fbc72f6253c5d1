/- Plain facts on digits, rounding and the noughts at a number's end: no Go in sight. -/
import Derived.Test.YthpjejfgoohhfaaGreatDoorG01
namespace Dm

/-- the whole number that the first k digits tell -/
def val (D : Nat → Nat) : Nat → Nat
  | 0 => 0
  | k + 1 => val D k * 10 + D k
/-- the whole number that the last k of n digits tell -/
def suf (D : Nat → Nat) (n : Nat) : Nat → Nat
  | 0 => 0
  | k + 1 => D (n - (k + 1)) * 10 ^ k + suf D n k

theorem p10_succ (k : Nat) : 10 ^ (k + 1) = 10 * 10 ^ k := by rw [Nat.pow_succ, Nat.mul_comm]
theorem p10_pos (k : Nat) : 0 < 10 ^ k := Nat.pow_pos (by decide)

theorem val_suf (D : Nat → Nat) (n : Nat) : ∀ k, k ≤ n → val D n = val D (n - k) * 10 ^ k + suf D n k
  | 0, _ => by simp [suf]
  | k + 1, h => by
    rw [val_suf D n k (by omega), show n - k = (n - (k + 1)) + 1 by omega, val, suf, p10_succ, Nat.add_mul, Nat.mul_assoc, Nat.add_assoc]
theorem val_suf_all (D : Nat → Nat) (n : Nat) : val D n = suf D n n := by
  rw [val_suf D n n (Nat.le_refl n)]; simp [val]
theorem val_lt {D : Nat → Nat} (h : ∀ j, D j < 10) : ∀ k, val D k < 10 ^ k
  | 0 => by simp [val]
  | k + 1 => by have := val_lt h k; have := h k; rw [val, p10_succ]; omega
theorem suf_lt {D : Nat → Nat} (h : ∀ j, D j < 10) (n : Nat) : ∀ k, suf D n k < 10 ^ k
  | 0 => by simp [suf]
  | k + 1 => by
    have := suf_lt h n k
    have h9 : D (n - (k + 1)) * 10 ^ k ≤ 9 * 10 ^ k := Nat.mul_le_mul_right _ (by have := h (n - (k + 1)); omega)
    rw [suf, p10_succ]; omega
theorem val_congr {D E : Nat → Nat} : ∀ k, (∀ j, j < k → D j = E j) → val D k = val E k
  | 0, _ => rfl
  | k + 1, h => by rw [val, val, val_congr k (fun j hj => h j (by omega)), h k (by omega)]
theorem suf_congr {D E : Nat → Nat} (n : Nat) : ∀ k, k ≤ n → (∀ j, n - k ≤ j → j < n → D j = E j) → suf D n k = suf E n k
  | 0, _, _ => rfl
  | k + 1, hk, h => by rw [suf, suf, suf_congr n k (by omega) (fun j a b => h j (by omega) b), h (n - (k + 1)) (by omega) (by omega)]
theorem val_zeros {D : Nat → Nat} : ∀ k, (∀ j, j < k → D j = 0) → val D k = 0
  | 0, _ => rfl
  | k + 1, h => by rw [val, val_zeros k (fun j hj => h j (by omega)), h k (by omega)]
theorem val_drop (D : Nat → Nat) (z : Nat) : ∀ k, val D (z + k) = val D z * 10 ^ k + val (fun j => D (z + j)) k
  | 0 => by simp [val]
  | k + 1 => by
    rw [show z + (k + 1) = z + k + 1 by omega, val, val_drop D z k, val, p10_succ, Nat.add_mul, ← Nat.add_assoc, Nat.mul_assoc, Nat.mul_comm (10 ^ k) 10]
theorem val_pos {D : Nat → Nat} {k : Nat} (h : D 0 ≠ 0) (hk : 0 < k) : 10 ^ (k - 1) ≤ val D k := by
  have := val_drop D 1 (k - 1)
  rw [show 1 + (k - 1) = k by omega] at this
  rw [this, show val D 1 = D 0 by simp [val]]
  have h1 : 1 * 10 ^ (k - 1) ≤ D 0 * 10 ^ (k - 1) := Nat.mul_le_mul_right _ (by omega)
  omega

def upd (R : Nat → Nat) (i d : Nat) : Nat → Nat := fun j => if j = i then d else R j
theorem upd_same (R : Nat → Nat) (i d : Nat) : upd R i d i = d := by simp [upd]
theorem upd_other {R : Nat → Nat} {i d j : Nat} (h : j ≠ i) : upd R i d j = R j := by simp [upd, h]
theorem upd_lt {R : Nat → Nat} (h : ∀ j, R j < 10) {d : Nat} (hd : d < 10) (i : Nat) : ∀ j, upd R i d j < 10 := by
  intro j; unfold upd; split
  · exact hd
  · exact h j
/-- the digit at which one more from the right begins is written -/
theorem suf_upd (R : Nat → Nat) {n m : Nat} (d : Nat) (h : m < n) : suf (upd R m d) n (n - m) = d * 10 ^ (n - m - 1) + suf R n (n - m - 1) := by
  obtain ⟨k, hk⟩ : ∃ k, n - m = k + 1 := ⟨n - m - 1, by omega⟩
  rw [hk, suf, show n - (k + 1) = m by omega, upd_same, show k + 1 - 1 = k by omega]
  congr 1
  exact suf_congr n k (by omega) (fun j a b => upd_other (by omega))

/-- the digits of N, W of them -/
def pd (N W : Nat) : Nat → Nat := fun j => N / 10 ^ (W - 1 - j) % 10
theorem pd_lt (N W : Nat) : ∀ j, pd N W j < 10 := fun _ => Nat.mod_lt _ (by decide)
theorem suf_pd (N W : Nat) : ∀ k, k ≤ W → suf (pd N W) W k = N % 10 ^ k
  | 0, _ => by simp [suf, Nat.mod_one]
  | k + 1, h => by
    rw [suf, suf_pd N W k (by omega), Nat.mod_pow_succ, pd, show W - 1 - (W - (k + 1)) = k by omega, Nat.mul_comm (10 ^ k), Nat.add_comm]
theorem val_pd {N W : Nat} (h : N < 10 ^ W) : val (pd N W) W = N := by
  rw [val_suf_all, suf_pd N W W (Nat.le_refl _), Nat.mod_eq_of_lt h]

/-- the digits of N, and z noughts behind them: W in all -/
def cl (N W z : Nat) : Nat → Nat := fun j => if j < W - z then pd N (W - z) j else 0
theorem cl_lt (N W z : Nat) : ∀ j, cl N W z j < 10 := by
  intro j; unfold cl; split
  · exact pd_lt _ _ _
  · omega
theorem val_cl {N W z : Nat} (hz : z ≤ W) (h : N < 10 ^ (W - z)) : val (cl N W z) W = N * 10 ^ z := by
  have := val_drop (cl N W z) (W - z) z
  rw [show W - z + z = W by omega] at this
  rw [this, val_congr (D := cl N W z) (E := pd N (W - z)) (W - z) (fun j hj => by unfold cl; rw [if_pos hj]), val_pd h, val_zeros z (fun j _ => by simp only [cl]; rw [if_neg (by omega)])]
  rfl

/-- N divided by p, to the nearest, a half to the even one, or up where more follows -/
def up (N p : Nat) (rest : Bool) : Bool := decide (p < 2 * (N % p) ∨ (2 * (N % p) = p ∧ (N / p % 2 = 1 ∨ rest = true)))
def rnd (N p : Nat) (rest : Bool) : Nat := if up N p rest = true then N / p + 1 else N / p
/-- N times 10^s, to the nearest -/
def sc (N : Nat) (s : Int) (rest : Bool) : Nat := if 0 ≤ s then N * 10 ^ s.toNat else rnd N (10 ^ (-s).toNat) rest

theorem mod_suf {D : Nat → Nat} (h : ∀ j, D j < 10) {n k : Nat} (hk : k ≤ n) : val D n % 10 ^ k = suf D n k ∧ val D n / 10 ^ k = val D (n - k) := by
  have e := val_suf D n k hk
  have l := suf_lt h n k
  constructor
  · rw [e, Nat.mul_comm, Nat.mul_add_mod, Nat.mod_eq_of_lt l]
  · rw [e, Nat.mul_comm, Nat.mul_add_div (p10_pos k), Nat.div_eq_of_lt l, Nat.add_zero]

/-- what the digit behind the kept ones says -/
theorem up_digit {D : Nat → Nat} (h : ∀ j, D j < 10) {n k : Nat} (hk : k < n) (rest : Bool) :
    (D k < 5 → up (val D n) (10 ^ (n - k)) rest = false) ∧ (5 < D k → up (val D n) (10 ^ (n - k)) rest = true) ∧
    (D k = 5 → up (val D n) (10 ^ (n - k)) rest = (decide (val D k % 2 = 1) || rest || decide (0 < suf D n (n - k - 1)))) := by
  obtain ⟨m, hm⟩ : ∃ m, n - k = m + 1 := ⟨n - k - 1, by omega⟩
  have a := (mod_suf h (n := n) (k := n - k) (by omega)).1
  have b := (mod_suf h (n := n) (k := n - k) (by omega)).2
  rw [show n - (n - k) = k by omega] at b
  have l := suf_lt h n m
  have e : suf D n (m + 1) = D k * 10 ^ m + suf D n m := by rw [suf, show n - (m + 1) = k by omega]
  have pp := p10_pos m
  unfold up
  rw [a, b, hm, e, p10_succ, show m + 1 - 1 = m by omega]
  generalize 10 ^ m = p at *
  generalize suf D n m = s at *
  generalize val D k = q at *
  generalize hd : D k = d at *
  refine ⟨fun g => ?_, fun g => ?_, fun g => ?_⟩
  · have : d * p ≤ 4 * p := Nat.mul_le_mul_right _ (by omega)
    simp only [decide_eq_false_iff_not]
    omega
  · have : 6 * p ≤ d * p := Nat.mul_le_mul_right _ (by omega)
    simp only [decide_eq_true_eq]
    omega
  · subst g
    cases rest
    · by_cases hq : q % 2 = 1
      · simp only [hq, true_or, and_true, decide_true, Bool.true_or, decide_eq_true_eq]; omega
      · by_cases hs : 0 < s
        · simp only [hs, decide_true, Bool.or_true, decide_eq_true_eq]; omega
        · simp [hq]; omega
    · simp; omega
/-- with too many digits dropped nothing is left -/
theorem up_far {D : Nat → Nat} (h : ∀ j, D j < 10) {n k : Nat} (hk : n < k) (rest : Bool) : rnd (val D n) (10 ^ k) rest = 0 := by
  have l := val_lt h n
  have m : 10 ^ (n + 1) ≤ 10 ^ k := Nat.pow_le_pow_right (by decide) (by omega)
  rw [p10_succ] at m
  have u : up (val D n) (10 ^ k) rest = false := by
    unfold up
    rw [Nat.mod_eq_of_lt (by omega)]
    simp only [decide_eq_false_iff_not]
    omega
  unfold rnd
  rw [u, Nat.div_eq_of_lt (by omega)]
  simp

/-- how many noughts are at the end -/
def tzs : Nat → Int → Nat
  | 0, _ => 0
  | f + 1, c => if c.tmod 10 = 0 then tzs f (c.tdiv 10) + 1 else 0
/-- the number without them -/
def tco : Nat → Int → Int
  | 0, c => c
  | f + 1, c => if c.tmod 10 = 0 then tco f (c.tdiv 10) else c
theorem td10 (c : Int) : 10 * c.tdiv 10 + c.tmod 10 = c := Int.mul_tdiv_add_tmod c 10
theorem tm10 (c : Int) : (c * 10).tmod 10 = 0 := Int.mul_tmod_left c 10
theorem tz_spec : ∀ (f : Nat) (c : Int), c ≠ 0 → (c.natAbs : Int) < 10 ^ f → c = tens (tco f c) (tzs f c) ∧ (tco f c).tmod 10 ≠ 0
  | 0, c, h, l => by simp at l; omega
  | f + 1, c, h, l => by
    have t := td10 c
    by_cases g : c.tmod 10 = 0
    · have l' : ((c.tdiv 10).natAbs : Int) < 10 ^ f := by
        rw [Int.pow_succ] at l
        have : (c.tdiv 10).natAbs * 10 = c.natAbs := by omega
        omega
      obtain ⟨a, b⟩ := tz_spec f (c.tdiv 10) (by omega) l'
      rw [tco, tzs, if_pos g, if_pos g]
      refine ⟨?_, b⟩
      rw [tens, ← a]; omega
    · rw [tco, tzs, if_neg g, if_neg g]
      exact ⟨rfl, g⟩
theorem tens_uniq {a b : Int} (ha : a.tmod 10 ≠ 0) (hb : b.tmod 10 ≠ 0) : ∀ {j k : Nat}, tens a j = tens b k → a = b ∧ j = k
  | 0, 0, h => ⟨h, rfl⟩
  | 0, k + 1, h => by rw [tens, tens] at h; exact absurd (by rw [h]; exact tm10 _) ha
  | j + 1, 0, h => by rw [tens, tens] at h; exact absurd (by rw [← h]; exact tm10 _) hb
  | j + 1, k + 1, h => by
    rw [tens, tens] at h
    obtain ⟨x, y⟩ := tens_uniq ha hb (j := j) (k := k) (by omega)
    exact ⟨x, by omega⟩

theorem tdiv_facts {m : Int} (h0 : m ≠ 0) (h : m.tmod 10 = 0) : m = m.tdiv 10 * 10 ∧ m.tdiv 10 ≠ 0 ∧ (m.tdiv 10).natAbs < m.natAbs ∧ (0 ≤ m → 0 ≤ m.tdiv 10 ∧ m.tdiv 10 ≤ m) ∧ (m ≤ 0 → m ≤ m.tdiv 10 ∧ m.tdiv 10 ≤ 0) := by
  have := td10 m
  omega
theorem tens_1_19 : tens 1 19 = 10000000000000000000 := by decide
theorem tens_k {c m : Int} {k : Nat} (e : c = tens m k) (h : m.tmod 10 = 0) (h0 : m ≠ 0) (h1 : -1000000000000000000 ≤ c) (h2 : c ≤ 1000000000000000000) : k < 18 := by
  have t := td10 m
  rcases Nat.lt_or_ge k 18 with g | g
  · exact g
  · exfalso
    have a := tens_mono (n := 1) (by omega) (show 19 ≤ k + 1 by omega)
    rw [tens_1_19] at a
    have e2 : c = tens (m.tdiv 10) (k + 1) := by rw [show k + 1 = 1 + k by omega, ← tens_add, e]; congr 1; simp only [tens]; omega
    rcases Int.lt_trichotomy (m.tdiv 10) 0 with q | q | q
    · have b := tens_le (n := -(m.tdiv 10)) (by omega) (k + 1)
      rw [tens_neg] at b
      omega
    · omega
    · have b := tens_le (n := m.tdiv 10) (by omega) (k + 1)
      omega

theorem tens_step {c m q : Int} {k : Nat} (H : c = tens m k) (h : m = q * 10) : c = tens q (k + 1) := by
  rw [show k + 1 = 1 + k by omega, ← tens_add, H]; congr 1

theorem V_inj {c1 x1 c2 x2 : Int} (h1 : wrongN c1 x1 = 0) (h2 : wrongN c2 x2 = 0) (h : V c1 x1 = V c2 x2) : c1 = c2 ∧ x1 = x2 := by
  obtain ⟨_, _, a3, _, a5⟩ := wrong_ok h1
  obtain ⟨_, _, b3, _, b5⟩ := wrong_ok h2
  have z : ∀ {c : Int} (x : Int), V c x = 0 → c = 0 := by
    intro c x hv
    rcases Int.lt_trichotomy c 0 with g | g | g
    · have := V_neg g x; omega
    · exact g
    · have := V_pos g x; omega
  by_cases g1 : c1 = 0
  · subst g1
    rw [V_zero] at h
    have g2 := z x2 h.symm
    subst g2
    have := a5 rfl
    have := b5 rfl
    omega
  · by_cases g2 : c2 = 0
    · subst g2
      rw [V_zero] at h
      exact absurd (z x1 h) g1
    · obtain ⟨a, b⟩ := tens_uniq (fun q => g1 (a5 q).1) (fun q => g2 (b5 q).1) h
      exact ⟨a, by omega⟩
theorem order_facts {c1 x1 c2 x2 c3 x3 : Int} (h1 : wrongN c1 x1 = 0) (h2 : wrongN c2 x2 = 0) :
    (sgn (V c1 x1 - V c2 x2) = 0 ∧ sgn (V c2 x2 - V c1 x1) = 0 ∧ c1 = c2 ∧ x1 = x2 ∧ sgn (V c1 x1 - V c3 x3) = sgn (V c2 x2 - V c3 x3)) ∨
    (sgn (V c1 x1 - V c2 x2) = 1 ∧ sgn (V c2 x2 - V c1 x1) = -1 ∧ ¬ (c1 = c2 ∧ x1 = x2)) ∨
    (sgn (V c1 x1 - V c2 x2) = -1 ∧ sgn (V c2 x2 - V c1 x1) = 1 ∧ ¬ (c1 = c2 ∧ x1 = x2) ∧ (0 < sgn (V c2 x2 - V c3 x3) ∨ sgn (V c1 x1 - V c3 x3) ≤ 0)) := by
  have inj := @V_inj c1 x1 c2 x2 h1 h2
  have ne : ¬ V c1 x1 = V c2 x2 → ¬ (c1 = c2 ∧ x1 = x2) := fun a b => a (by rw [b.1, b.2])
  rcases Int.lt_trichotomy (V c1 x1) (V c2 x2) with g | g | g
  · refine .inr (.inr ⟨sgn_lt (by omega), sgn_gt (by omega), ne (by omega), ?_⟩)
    rcases sgn_cases (V c2 x2 - V c3 x3) with ⟨a, b⟩ | ⟨a, b⟩ | ⟨a, b⟩
    · right; rw [sgn_lt (by omega)]; omega
    · right; rw [sgn_lt (by omega)]; omega
    · left; omega
  · refine .inl ⟨by rw [g, Int.sub_self]; rfl, by rw [g, Int.sub_self]; rfl, (inj g).1, (inj g).2, by rw [g]⟩
  · exact .inr (.inl ⟨sgn_gt (by omega), sgn_lt (by omega), ne (by omega)⟩)

def fuel : Nat := 64
def tz (c : Int) : Nat := tzs fuel c
def tc (c : Int) : Int := tco fuel c
theorem tz_at {c m : Int} {k : Nat} (h : c = tens m k) (hm : m.tmod 10 ≠ 0) (hl : (c.natAbs : Int) ≤ 1000000000000000000) : tz c = k ∧ tc c = m := by
  have hc : c ≠ 0 := by
    intro h0
    have hm0 : m ≠ 0 := by intro z; rw [z] at hm; exact hm rfl
    rcases Int.lt_trichotomy m 0 with g | g | g
    · have := tens_pos (n := -m) (by omega) k; rw [tens_neg] at this; omega
    · exact hm0 g
    · have := tens_pos (n := m) (by omega) k; omega
  have hf : (1000000000000000000 : Int) < 10 ^ fuel := by decide
  obtain ⟨a, b⟩ := tz_spec fuel c hc (by omega)
  obtain ⟨x, y⟩ := tens_uniq b hm (a.symm.trans h)
  exact ⟨y, x⟩
theorem tz_of {c : Int} (hc : c ≠ 0) (hl : (c.natAbs : Int) ≤ 1000000000000000000) : c = tens (tc c) (tz c) ∧ (tc c).tmod 10 ≠ 0 := by
  have hf : (1000000000000000000 : Int) < 10 ^ fuel := by decide
  exact tz_spec fuel c hc (by omega)

/-- what is ntold of c times 10^x, its noughts taken away -/
def fC (c x : Int) : Int := if c = 0 then 0 else if 40 < x + tz c then 0 else tc c
def fE (c x : Int) : Int := if c = 0 then 0 else if 40 < x + tz c then 0 else x + tz c
def fR (c x : Int) : Int := if c = 0 then 0 else if 40 < x + tz c then 4 else 0

/-- how many digits N has -/
def ndf : Nat → Nat → Nat
  | 0, _ => 0
  | f + 1, N => if N = 0 then 0 else ndf f (N / 10) + 1
def nd (N : Nat) : Nat := ndf 200 N
theorem ndf_at : ∀ (f N L : Nat), L ≤ f → N < 10 ^ L → (L = 0 ∨ 10 ^ (L - 1) ≤ N) → ndf f N = L
  | 0, N, L, h, _, _ => by simp [ndf]; omega
  | f + 1, N, 0, h, l, _ => by simp at l; simp [ndf, l]
  | f + 1, N, L + 1, h, l, g => by
    have g' : 10 ^ L ≤ N := by rcases g with g | g; · omega
                               · simpa using g
    have := p10_pos L
    rw [p10_succ] at l
    rw [ndf, if_neg (by omega), ndf_at f (N / 10) L (by omega) (by omega) ?_]
    rcases Nat.eq_zero_or_pos L with z | z
    · exact .inl z
    · right
      rw [show L = (L - 1) + 1 by omega, p10_succ] at g'
      omega
theorem nd_at {N L : Nat} (h : L ≤ 200) (l : N < 10 ^ L) (g : L = 0 ∨ 10 ^ (L - 1) ≤ N) : nd N = L := ndf_at 200 N L h l g

/-- the exponent at which N times 10^x has eighteen digits at most, and the whole number there -/
def nE (N : Nat) (x : Int) : Int := max (-40) (x + nd N - 18)
def nQ (N : Nat) (x : Int) (rest : Bool) : Nat := sc N (x - nE N x) rest
def sg (b : Bool) (q : Nat) : Int := if b = true then -(q : Int) else q

/-- does what stands behind the kept digits make one more? -/
def gu (D : Nat → Nat) (n : Nat) (kept : Int) (odd R : Bool) : Bool :=
  if kept < 0 ∨ (n : Int) ≤ kept then false else if D kept.toNat = 5 then odd || R || decide (0 < suf D n (n - kept.toNat - 1)) else decide (5 < D kept.toNat)
theorem gu_out {D : Nat → Nat} {n : Nat} {kept : Int} (odd R : Bool) (h : kept < 0 ∨ (n : Int) ≤ kept) : gu D n kept odd R = false := by unfold gu; rw [if_pos h]
theorem gu_in {D : Nat → Nat} {n k : Nat} (odd R : Bool) (h : k < n) (h5 : D k ≠ 5) : gu D n (k : Int) odd R = decide (5 < D k) := by
  unfold gu; rw [if_neg (by omega), Int.toNat_natCast, if_neg h5]
theorem gu_5 {D : Nat → Nat} {n k : Nat} (odd R : Bool) (h : k < n) (h5 : D k = 5) : gu D n (k : Int) odd R = (odd || R || decide (0 < suf D n (n - k - 1))) := by
  unfold gu; rw [if_neg (by omega), Int.toNat_natCast, if_pos h5]
theorem suf_val (D : Nat → Nat) {n k : Nat} (h : k ≤ n) : suf D n (n - k) = val (fun j => D (k + j)) (n - k) := by
  have a := val_drop D k (n - k)
  have b := val_suf D n (n - k) (by omega)
  rw [show k + (n - k) = n by omega] at a
  rw [show n - (n - k) = k by omega] at b
  omega
/-- noughts alone, or not -/
theorem val_z {E : Nat → Nat} {m z : Nat} (hz : z ≤ m) (h0 : ∀ j, j < z → E j = 0) (h1 : z < m → E z ≠ 0) : decide (0 < val E m) = decide (z < m) := by
  rcases Nat.lt_or_ge z m with g | g
  · have a := val_drop E z (m - z)
    rw [show z + (m - z) = m by omega] at a
    have b := val_pos (D := fun j => E (z + j)) (k := m - z) (h1 g) (by omega)
    have c := p10_pos (m - z - 1)
    simp only [decide_eq_decide]
    omega
  · rw [val_zeros m (fun j hj => h0 j (by omega))]
    simp; omega

theorem suf_z (D : Nat → Nat) {n k z : Nat} (hk : k < n) (hz : z ≤ n - (k + 1)) (h0 : ∀ j, j < z → D (k + 1 + j) = 0) (h1 : z < n - (k + 1) → D (k + 1 + z) ≠ 0) : decide (0 < suf D n (n - k - 1)) = decide (z < n - (k + 1)) := by
  rw [show n - k - 1 = n - (k + 1) by omega, suf_val D (by omega)]
  exact val_z (E := fun j => D (k + 1 + j)) hz h0 h1

/-- the first k digits as a whole number, with noughts where there are no more -/
def vx (D : Nat → Nat) (n k : Nat) : Nat := if k ≤ n then val D k else val D n * 10 ^ (k - n)
theorem vx_zero (D : Nat → Nat) (n : Nat) : vx D n 0 = 0 := by simp [vx, val]
theorem vx_in {D : Nat → Nat} {n k : Nat} (h : k < n) : vx D n (k + 1) = vx D n k * 10 + D k := by
  unfold vx; rw [if_pos (by omega), if_pos (by omega), val]
theorem vx_out {D : Nat → Nat} {n k : Nat} (h : n ≤ k) : vx D n (k + 1) = vx D n k * 10 := by
  unfold vx
  rw [if_neg (by omega)]
  split
  · rw [show k = n by omega, show n + 1 - n = 1 by omega]
  · rw [show k + 1 - n = (k - n) + 1 by omega, p10_succ, Nat.mul_assoc, Nat.mul_comm 10 (10 ^ (k - n))]
theorem vx_lt {D : Nat → Nat} (h : ∀ j, D j < 10) (n : Nat) : ∀ k, vx D n k < 10 ^ k
  | 0 => by rw [vx_zero]; decide
  | k + 1 => by
    have := vx_lt h n k
    have := h k
    rw [p10_succ]
    rcases Nat.lt_or_ge k n with g | g
    · rw [vx_in g]; omega
    · rw [vx_out g]; omega
theorem p10_17 {k : Nat} (h : k ≤ 17) : 10 ^ k ≤ 100000000000000000 := Nat.le_trans (Nat.pow_le_pow_right (by decide) h) (by decide)
theorem p10_18 {k : Nat} (h : k ≤ 18) : 10 ^ k ≤ 1000000000000000000 := Nat.le_trans (Nat.pow_le_pow_right (by decide) h) (by decide)

def one (b : Bool) : Nat := if b = true then 1 else 0
theorem whole_eq {D : Nat → Nat} (h : ∀ j, D j < 10) (n : Nat) (x y : Int) (R : Bool) :
    vx D n ((n : Int) + x - y).toNat + one (gu D n ((n : Int) + x - y) (decide (vx D n ((n : Int) + x - y).toNat % 2 = 1)) R) = sc (val D n) (x - y) R := by
  rcases Int.lt_trichotomy ((n : Int) + x - y) 0 with g | g | g
  · rw [gu_out _ _ (.inl g), show ((n : Int) + x - y).toNat = 0 by omega, vx_zero]
    unfold sc
    rw [if_neg (by omega), up_far h (by omega)]
    rfl
  all_goals
    obtain ⟨k, hk⟩ : ∃ k : Nat, (n : Int) + x - y = (k : Int) := ⟨((n : Int) + x - y).toNat, by omega⟩
    rw [hk, Int.toNat_natCast]
    rcases Nat.lt_or_ge k n with q | q
    · have u := up_digit h q R
      have e : vx D n k = val D n / 10 ^ (n - k) := by rw [(mod_suf h (n := n) (k := n - k) (by omega)).2, show n - (n - k) = k by omega]; unfold vx; rw [if_pos (by omega)]
      have e2 : vx D n k = val D k := by unfold vx; rw [if_pos (by omega)]
      have gg : gu D n (k : Int) (decide (vx D n k % 2 = 1)) R = up (val D n) (10 ^ (n - k)) R := by
        rcases Nat.lt_trichotomy (D k) 5 with d | d | d
        · rw [gu_in _ _ q (by omega), u.1 d]; simp; omega
        · rw [gu_5 _ _ q d, u.2.2 d, e2]
        · rw [gu_in _ _ q (by omega), u.2.1 d]; simp; omega
      rw [gg]
      unfold sc
      rw [if_neg (by omega), show (-(x - y)).toNat = n - k by omega]
      unfold rnd one
      rw [← e]
      split <;> rfl
    · rw [gu_out _ _ (.inr (by omega))]
      have e1 : sc (val D n) (x - y) R = val D n * 10 ^ (k - n) := by unfold sc; rw [if_pos (by omega), show (x - y).toNat = k - n by omega]
      rw [e1]
      unfold vx
      split
      · rw [show k = n by omega]; simp [one]
      · rfl

theorem sc_le {D : Nat → Nat} (h : ∀ j, D j < 10) {n : Nat} {x y : Int} (R : Bool) (hk : (n : Int) + x - y ≤ 18) : sc (val D n) (x - y) R ≤ 1000000000000000000 := by
  have a := whole_eq h n x y R
  have b := vx_lt h n ((n : Int) + x - y).toNat
  have c := p10_18 (k := ((n : Int) + x - y).toNat) (by omega)
  have d : ∀ b, one b ≤ 1 := fun b => by unfold one; split <;> omega
  have := d (gu D n ((n : Int) + x - y) (decide (vx D n ((n : Int) + x - y).toNat % 2 = 1)) R)
  omega
theorem nd_val {D : Nat → Nat} (h : ∀ j, D j < 10) {n z : Nat} (hn : n ≤ 100) (hz : z ≤ n) (h0 : ∀ j, j < z → D j = 0) (h1 : z < n → D z ≠ 0) : val D n = val (fun j => D (z + j)) (n - z) ∧ nd (val D n) = n - z := by
  have a := val_drop D z (n - z)
  rw [show z + (n - z) = n by omega, val_zeros z h0] at a
  have e : val D n = val (fun j => D (z + j)) (n - z) := by omega
  refine ⟨e, ?_⟩
  rw [e]
  refine nd_at (by omega) (val_lt (fun j => h _) _) ?_
  rcases Nat.lt_or_ge z n with g | g
  · right; exact val_pos (D := fun j => D (z + j)) (h1 g) (by omega)
  · left; omega
theorem near_facts {D : Nat → Nat} (h : ∀ j, D j < 10) {n z : Nat} {x y : Int} (R : Bool) {q : Nat} (hn : n ≤ 100) (hx1 : -200 ≤ x) (hx2 : x ≤ 100) (hz : z ≤ n) (h0 : ∀ j, j < z → D j = 0) (h1 : z < n → D z ≠ 0)
    (hy : (if -40 < x + ((n - z : Nat) : Int) - 18 then x + ((n - z : Nat) : Int) - 18 else -40) = y) (hq : q = sc (val (fun j => D (z + j)) (n - z)) (x - y) R) :
    -200 ≤ y ∧ y ≤ 200 ∧ ((n - z : Nat) : Int) + x - y ≤ 18 ∧ (q : Int) ≤ 1000000000000000000 ∧ y = nE (val D n) x ∧ q = nQ (val D n) x R := by
  obtain ⟨e1, e2⟩ := nd_val h hn hz h0 h1
  have ey : y = nE (val D n) x := by
    unfold nE
    rw [e2, ← hy]
    split <;> omega
  have yk : ((n - z : Nat) : Int) + x - y ≤ 18 := by rw [← hy]; split <;> omega
  refine ⟨by rw [← hy]; split <;> omega, by rw [← hy]; split <;> omega, yk, ?_, ey, ?_⟩
  · have := sc_le (D := fun j => D (z + j)) (fun j => h _) R yk
    rw [hq]; omega
  · unfold nQ
    rw [hq, ← ey, e1]

/-- one digit more of a sum, from the right -/
theorem plus_step {X Y R : Nat → Nat} {n m cy : Nat} (h : m < n) (H : suf X n (n - (m + 1)) + suf Y n (n - (m + 1)) = suf R n (n - (m + 1)) + cy * 10 ^ (n - (m + 1))) :
    suf X n (n - m) + suf Y n (n - m) = suf (upd R m ((X m + Y m + cy) % 10)) n (n - m) + (X m + Y m + cy) / 10 * 10 ^ (n - m) := by
  rw [suf_upd R _ h]
  obtain ⟨k, hk⟩ : ∃ k, n - m = k + 1 := ⟨n - m - 1, by omega⟩
  rw [show n - (m + 1) = k by omega] at H
  rw [hk, suf, suf, show n - (k + 1) = m by omega, show k + 1 - 1 = k by omega, p10_succ]
  generalize suf X n k = a at *
  generalize suf Y n k = b at *
  generalize suf R n k = r at *
  generalize 10 ^ k = p at *
  generalize X m = x at *
  generalize Y m = y at *
  have e : (x + y + cy) * p = ((x + y + cy) / 10 * 10 + (x + y + cy) % 10) * p := by rw [Nat.div_add_mod']
  rw [Nat.add_mul, Nat.add_mul, Nat.add_mul ((x + y + cy) / 10 * 10), Nat.mul_assoc] at e
  omega
theorem minus_step {X Y R : Nat → Nat} {n m bw : Nat} (h : m < n) (hy : Y m < 10) (hb : bw ≤ 1) (H : suf X n (n - (m + 1)) + bw * 10 ^ (n - (m + 1)) = suf Y n (n - (m + 1)) + suf R n (n - (m + 1))) (hx : X m < 10) :
    suf X n (n - m) + (1 - (10 + X m - Y m - bw) / 10) * 10 ^ (n - m) = suf Y n (n - m) + suf (upd R m ((10 + X m - Y m - bw) % 10)) n (n - m) := by
  rw [suf_upd R _ h]
  obtain ⟨k, hk⟩ : ∃ k, n - m = k + 1 := ⟨n - m - 1, by omega⟩
  rw [show n - (m + 1) = k by omega] at H
  rw [hk, suf, suf, show n - (k + 1) = m by omega, show k + 1 - 1 = k by omega, p10_succ]
  generalize suf X n k = a at *
  generalize suf Y n k = b at *
  generalize suf R n k = r at *
  generalize 10 ^ k = p at *
  generalize X m = x at *
  generalize Y m = y at *
  rcases Nat.lt_or_ge x (y + bw) with g | g
  · have e1 : (10 + x - y - bw) / 10 = 0 := by omega
    have e2 : (10 + x - y - bw) % 10 = 10 + x - y - bw := by omega
    rw [e1, e2]
    have e : (10 + x - y - bw) * p + (y + bw) * p = (10 + x) * p := by rw [← Nat.add_mul]; congr 1; omega
    rw [Nat.add_mul, Nat.add_mul] at e
    omega
  · have e1 : (10 + x - y - bw) / 10 = 1 := by omega
    have e2 : (10 + x - y - bw) % 10 = x - y - bw := by omega
    rw [e1, e2]
    have e : (x - y - bw) * p + (y + bw) * p = x * p := by rw [← Nat.add_mul]; congr 1; omega
    rw [Nat.add_mul] at e
    omega

/-- the sum of two numbers, the lesser exponent's unit -/
def addS (c1 x1 c2 x2 : Int) : Int := tens c1 (x1 - min x1 x2).toNat + tens c2 (x2 - min x1 x2).toNat

theorem tens_abs (c : Int) (z : Nat) : (c < 0 → tens c z = -((c.natAbs * 10 ^ z : Nat) : Int)) ∧ (0 ≤ c → tens c z = ((c.natAbs * 10 ^ z : Nat) : Int)) := by
  rw [tens_eq]
  have p : ((10 : Int) ^ z) = ((10 ^ z : Nat) : Int) := by simp
  rw [p]
  refine ⟨fun h => ?_, fun h => ?_⟩
  · rw [Int.natCast_mul, show (c.natAbs : Int) = -c by omega, Int.neg_mul, Int.neg_neg]
  · rw [Int.natCast_mul, show (c.natAbs : Int) = c by omega]
theorem col_lt {N z W : Nat} (h : N < 1000000000000000000) (hz : z + 18 < W) : N * 10 ^ z < 10 ^ (W - 1) ∧ N < 10 ^ (W - z) := by
  have e : (1000000000000000000 : Nat) = 10 ^ 18 := by decide
  rw [e] at h
  refine ⟨?_, ?_⟩
  · have a : N * 10 ^ z < 10 ^ 18 * 10 ^ z := Nat.mul_lt_mul_of_pos_right h (p10_pos z)
    have b : 10 ^ 18 * 10 ^ z ≤ 10 ^ (W - 1) := by rw [← Nat.pow_add]; exact Nat.pow_le_pow_right (by decide) (by omega)
    omega
  · have b : 10 ^ 18 ≤ 10 ^ (W - z) := Nat.pow_le_pow_right (by decide) (by omega)
    omega
theorem p10_W {W : Nat} (h : 0 < W) : 10 ^ W = 10 * 10 ^ (W - 1) := by
  rw [← p10_succ]; congr 1; omega

theorem addS_eq {c1 x1 c2 x2 low : Int} {z1 z2 : Nat} (l3 : low = min x1 x2) (e1 : x1 - low = (z1 : Int)) (e2 : x2 - low = (z2 : Int)) : addS c1 x1 c2 x2 = tens c1 z1 + tens c2 z2 := by
  unfold addS
  rw [← l3, e1, e2, Int.toNat_natCast, Int.toNat_natCast]
theorem sum_plus {c1 c2 S : Int} {z1 z2 v : Nat} (h : S = tens c1 z1 + tens c2 z2) (hv : v = c1.natAbs * 10 ^ z1 + c2.natAbs * 10 ^ z2) : (c1 < 0 → c2 < 0 → sg true v = S) ∧ (¬ c1 < 0 → ¬ c2 < 0 → sg false v = S) := by
  have a := tens_abs c1 z1
  have b := tens_abs c2 z2
  unfold sg
  refine ⟨fun p q => ?_, fun p q => ?_⟩
  · rw [if_pos rfl, h, a.1 p, b.1 q, hv]; omega
  · rw [if_neg (by decide), h, a.2 (by omega), b.2 (by omega), hv]; omega
theorem sum_minus {c1 c2 S : Int} {z1 z2 v : Nat} (h : S = tens c1 z1 + tens c2 z2) (hl : c2.natAbs * 10 ^ z2 ≤ c1.natAbs * 10 ^ z1) (hv : v = c1.natAbs * 10 ^ z1 - c2.natAbs * 10 ^ z2) : (c1 < 0 → ¬ c2 < 0 → sg true v = S) ∧ (¬ c1 < 0 → c2 < 0 → sg false v = S) := by
  have a := tens_abs c1 z1
  have b := tens_abs c2 z2
  unfold sg
  refine ⟨fun p q => ?_, fun p q => ?_⟩
  · rw [if_pos rfl, h, a.1 p, b.2 (by omega), hv]; omega
  · rw [if_neg (by decide), h, a.2 (by omega), b.1 q, hv]; omega

def nearZ (S x : Int) (R : Bool) : Int := sg (decide (S < 0)) (nQ S.natAbs x R)
theorem nQ_zero (x : Int) : nQ 0 x false = 0 := by
  unfold nQ sc
  split
  · simp
  · unfold rnd up
    rw [Nat.zero_mod, Nat.zero_div]
    rw [if_neg (by simp)]
theorem sg_nat {B : Bool} {N : Nat} {S : Int} (h : sg B N = S) : N = S.natAbs ∧ (S ≠ 0 → B = decide (S < 0)) := by
  unfold sg at h
  cases B
  · simp at h
    refine ⟨by omega, fun g => ?_⟩
    simp; omega
  · simp at h
    refine ⟨by omega, fun g => ?_⟩
    simp; omega
theorem sg_near {B : Bool} {N : Nat} {S : Int} (h : sg B N = S) (x : Int) : sg B (nQ N x false) = nearZ S x false ∧ nE N x = nE S.natAbs x := by
  obtain ⟨a, b⟩ := sg_nat h
  rw [a]
  refine ⟨?_, rfl⟩
  unfold nearZ
  by_cases g : S = 0
  · subst g
    rw [show Int.natAbs 0 = 0 by rfl, nQ_zero x]
    cases B <;> rfl
  · rw [b g]

end Dm
