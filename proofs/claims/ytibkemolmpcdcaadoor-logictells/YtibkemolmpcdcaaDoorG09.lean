/- Plain facts on digits, rounding and the noughts at a number's end: no Go in sight. -/
import Derived.Test.YtibkemolmpcdcaaDoorG01
namespace Dm

/-- the whole number that the first k digits tell -/
def val (D : Nat → Nat) : Nat → Nat
  | 0 => 0
  | k + 1 => val D k * 10 + D k
/-- the whole number that the last k of n digits tell -/
def suf (D : Nat → Nat) (n : Nat) : Nat → Nat
  | 0 => 0
  | k + 1 => D (n - (k + 1)) * 10 ^ k + suf D n k

theorem p10_succ (k : Nat) : 10 ^ (k + 1) = 10 * 10 ^ k := by rw [Nat.pow_succ, Nat.mul_comm]
theorem p10_pos (k : Nat) : 0 < 10 ^ k := Nat.pow_pos (by decide)

theorem val_suf (D : Nat → Nat) (n : Nat) : ∀ k, k ≤ n → val D n = val D (n - k) * 10 ^ k + suf D n k
  | 0, _ => by simp [suf]
  | k + 1, h => by
    rw [val_suf D n k (by omega), show n - k = (n - (k + 1)) + 1 by omega, val, suf, p10_succ, Nat.add_mul, Nat.mul_assoc, Nat.add_assoc]
theorem val_suf_all (D : Nat → Nat) (n : Nat) : val D n = suf D n n := by
  rw [val_suf D n n (Nat.le_refl n)]; simp [val]
theorem val_lt {D : Nat → Nat} (h : ∀ j, D j < 10) : ∀ k, val D k < 10 ^ k
  | 0 => by simp [val]
  | k + 1 => by have := val_lt h k; have := h k; rw [val, p10_succ]; omega
theorem suf_lt {D : Nat → Nat} (h : ∀ j, D j < 10) (n : Nat) : ∀ k, suf D n k < 10 ^ k
  | 0 => by simp [suf]
  | k + 1 => by
    have := suf_lt h n k
    have h9 : D (n - (k + 1)) * 10 ^ k ≤ 9 * 10 ^ k := Nat.mul_le_mul_right _ (by have := h (n - (k + 1)); omega)
    rw [suf, p10_succ]; omega
theorem val_congr {D E : Nat → Nat} : ∀ k, (∀ j, j < k → D j = E j) → val D k = val E k
  | 0, _ => rfl
  | k + 1, h => by rw [val, val, val_congr k (fun j hj => h j (by omega)), h k (by omega)]
theorem suf_congr {D E : Nat → Nat} (n : Nat) : ∀ k, k ≤ n → (∀ j, n - k ≤ j → j < n → D j = E j) → suf D n k = suf E n k
  | 0, _, _ => rfl
  | k + 1, hk, h => by rw [suf, suf, suf_congr n k (by omega) (fun j a b => h j (by omega) b), h (n - (k + 1)) (by omega) (by omega)]
theorem val_zeros {D : Nat → Nat} : ∀ k, (∀ j, j < k → D j = 0) → val D k = 0
  | 0, _ => rfl
  | k + 1, h => by rw [val, val_zeros k (fun j hj => h j (by omega)), h k (by omega)]
theorem val_drop (D : Nat → Nat) (z : Nat) : ∀ k, val D (z + k) = val D z * 10 ^ k + val (fun j => D (z + j)) k
  | 0 => by simp [val]
  | k + 1 => by
    rw [show z + (k + 1) = z + k + 1 by omega, val, val_drop D z k, val, p10_succ, Nat.add_mul, ← Nat.add_assoc, Nat.mul_assoc, Nat.mul_comm (10 ^ k) 10]
theorem val_pos {D : Nat → Nat} {k : Nat} (h : D 0 ≠ 0) (hk : 0 < k) : 10 ^ (k - 1) ≤ val D k := by
  have := val_drop D 1 (k - 1)
  rw [show 1 + (k - 1) = k by omega] at this
  rw [this, show val D 1 = D 0 by simp [val]]
  have h1 : 1 * 10 ^ (k - 1) ≤ D 0 * 10 ^ (k - 1) := Nat.mul_le_mul_right _ (by omega)
  omega

def upd (R : Nat → Nat) (i d : Nat) : Nat → Nat := fun j => if j = i then d else R j
theorem upd_same (R : Nat → Nat) (i d : Nat) : upd R i d i = d := by simp [upd]
theorem upd_other {R : Nat → Nat} {i d j : Nat} (h : j ≠ i) : upd R i d j = R j := by simp [upd, h]
theorem upd_lt {R : Nat → Nat} (h : ∀ j, R j < 10) {d : Nat} (hd : d < 10) (i : Nat) : ∀ j, upd R i d j < 10 := by
  intro j; unfold upd; split
  · exact hd
  · exact h j
/-- the digit at which one more from the right begins is written -/
theorem suf_upd (R : Nat → Nat) {n m : Nat} (d : Nat) (h : m < n) : suf (upd R m d) n (n - m) = d * 10 ^ (n - m - 1) + suf R n (n - m - 1) := by
  obtain ⟨k, hk⟩ : ∃ k, n - m = k + 1 := ⟨n - m - 1, by omega⟩
  rw [hk, suf, show n - (k + 1) = m by omega, upd_same, show k + 1 - 1 = k by omega]
  congr 1
  exact suf_congr n k (by omega) (fun j a b => upd_other (by omega))

/-- the digits of N, W of them -/
def pd (N W : Nat) : Nat → Nat := fun j => N / 10 ^ (W - 1 - j) % 10
theorem pd_lt (N W : Nat) : ∀ j, pd N W j < 10 := fun _ => Nat.mod_lt _ (by decide)
theorem suf_pd (N W : Nat) : ∀ k, k ≤ W → suf (pd N W) W k = N % 10 ^ k
  | 0, _ => by simp [suf, Nat.mod_one]
  | k + 1, h => by
    rw [suf, suf_pd N W k (by omega), Nat.mod_pow_succ, pd, show W - 1 - (W - (k + 1)) = k by omega, Nat.mul_comm (10 ^ k), Nat.add_comm]
theorem val_pd {N W : Nat} (h : N < 10 ^ W) : val (pd N W) W = N := by
  rw [val_suf_all, suf_pd N W W (Nat.le_refl _), Nat.mod_eq_of_lt h]

/-- the digits of N, and z noughts behind them: W in all -/
def cl (N W z : Nat) : Nat → Nat := fun j => if j < W - z then pd N (W - z) j else 0
theorem cl_lt (N W z : Nat) : ∀ j, cl N W z j < 10 := by
  intro j; unfold cl; split
  · exact pd_lt _ _ _
  · omega
theorem val_cl {N W z : Nat} (hz : z ≤ W) (h : N < 10 ^ (W - z)) : val (cl N W z) W = N * 10 ^ z := by
  have := val_drop (cl N W z) (W - z) z
  rw [show W - z + z = W by omega] at this
  rw [this, val_congr (D := cl N W z) (E := pd N (W - z)) (W - z) (fun j hj => by unfold cl; rw [if_pos hj]), val_pd h, val_zeros z (fun j _ => by simp only [cl]; rw [if_neg (by omega)])]
  rfl

/-- N divided by p, to the nearest, a half to the even one, or up where more follows -/
def up (N p : Nat) (rest : Bool) : Bool := decide (p < 2 * (N % p) ∨ (2 * (N % p) = p ∧ (N / p % 2 = 1 ∨ rest = true)))
def rnd (N p : Nat) (rest : Bool) : Nat := if up N p rest = true then N / p + 1 else N / p
/-- N times 10^s, to the nearest -/
def sc (N : Nat) (s : Int) (rest : Bool) : Nat := if 0 ≤ s then N * 10 ^ s.toNat else rnd N (10 ^ (-s).toNat) rest

theorem mod_suf {D : Nat → Nat} (h : ∀ j, D j < 10) {n k : Nat} (hk : k ≤ n) : val D n % 10 ^ k = suf D n k ∧ val D n / 10 ^ k = val D (n - k) := by
  have e := val_suf D n k hk
  have l := suf_lt h n k
  constructor
  · rw [e, Nat.mul_comm, Nat.mul_add_mod, Nat.mod_eq_of_lt l]
  · rw [e, Nat.mul_comm, Nat.mul_add_div (p10_pos k), Nat.div_eq_of_lt l, Nat.add_zero]

/-- what the digit behind the kept ones says -/
theorem up_digit {D : Nat → Nat} (h : ∀ j, D j < 10) {n k : Nat} (hk : k < n) (rest : Bool) :
    (D k < 5 → up (val D n) (10 ^ (n - k)) rest = false) ∧ (5 < D k → up (val D n) (10 ^ (n - k)) rest = true) ∧
    (D k = 5 → up (val D n) (10 ^ (n - k)) rest = (decide (val D k % 2 = 1) || rest || decide (0 < suf D n (n - k - 1)))) := by
  obtain ⟨m, hm⟩ : ∃ m, n - k = m + 1 := ⟨n - k - 1, by omega⟩
  have a := (mod_suf h (n := n) (k := n - k) (by omega)).1
  have b := (mod_suf h (n := n) (k := n - k) (by omega)).2
  rw [show n - (n - k) = k by omega] at b
  have l := suf_lt h n m
  have e : suf D n (m + 1) = D k * 10 ^ m + suf D n m := by rw [suf, show n - (m + 1) = k by omega]
  have pp := p10_pos m
  unfold up
  rw [a, b, hm, e, p10_succ, show m + 1 - 1 = m by omega]
  generalize 10 ^ m = p at *
  generalize suf D n m = s at *
  generalize val D k = q at *
  generalize hd : D k = d at *
  refine ⟨fun g => ?_, fun g => ?_, fun g => ?_⟩
  · have : d * p ≤ 4 * p := Nat.mul_le_mul_right _ (by omega)
    simp only [decide_eq_false_iff_not]
    omega
  · have : 6 * p ≤ d * p := Nat.mul_le_mul_right _ (by omega)
    simp only [decide_eq_true_eq]
    omega
  · subst g
    cases rest
    · by_cases hq : q % 2 = 1
      · simp only [hq, true_or, and_true, decide_true, Bool.true_or, decide_eq_true_eq]; omega
      · by_cases hs : 0 < s
        · simp only [hs, decide_true, Bool.or_true, decide_eq_true_eq]; omega
        · simp [hq]; omega
    · simp; omega
/-- with too many digits dropped nothing is left -/
theorem up_far {D : Nat → Nat} (h : ∀ j, D j < 10) {n k : Nat} (hk : n < k) (rest : Bool) : rnd (val D n) (10 ^ k) rest = 0 := by
  have l := val_lt h n
  have m : 10 ^ (n + 1) ≤ 10 ^ k := Nat.pow_le_pow_right (by decide) (by omega)
  rw [p10_succ] at m
  have u : up (val D n) (10 ^ k) rest = false := by
    unfold up
    rw [Nat.mod_eq_of_lt (by omega)]
    simp only [decide_eq_false_iff_not]
    omega
  unfold rnd
  rw [u, Nat.div_eq_of_lt (by omega)]
  simp

/-- how many noughts are at the end -/
def tzs : Nat → Int → Nat
  | 0, _ => 0
  | f + 1, c => if c.tmod 10 = 0 then tzs f (c.tdiv 10) + 1 else 0
/-- the number without them -/
def tco : Nat → Int → Int
  | 0, c => c
  | f + 1, c => if c.tmod 10 = 0 then tco f (c.tdiv 10) else c
theorem td10 (c : Int) : 10 * c.tdiv 10 + c.tmod 10 = c := Int.mul_tdiv_add_tmod c 10
theorem tm10 (c : Int) : (c * 10).tmod 10 = 0 := Int.mul_tmod_left c 10
theorem tz_spec : ∀ (f : Nat) (c : Int), c ≠ 0 → (c.natAbs : Int) < 10 ^ f → c = tens (tco f c) (tzs f c) ∧ (tco f c).tmod 10 ≠ 0
  | 0, c, h, l => by simp at l; omega
  | f + 1, c, h, l => by
    have t := td10 c
    by_cases g : c.tmod 10 = 0
    · have l' : ((c.tdiv 10).natAbs : Int) < 10 ^ f := by
        rw [Int.pow_succ] at l
        have : (c.tdiv 10).natAbs * 10 = c.natAbs := by omega
        omega
      obtain ⟨a, b⟩ := tz_spec f (c.tdiv 10) (by omega) l'
      rw [tco, tzs, if_pos g, if_pos g]
      refine ⟨?_, b⟩
      rw [tens, ← a]; omega
    · rw [tco, tzs, if_neg g, if_neg g]
      exact ⟨rfl, g⟩
theorem tens_uniq {a b : Int} (ha : a.tmod 10 ≠ 0) (hb : b.tmod 10 ≠ 0) : ∀ {j k : Nat}, tens a j = tens b k → a = b ∧ j = k
  | 0, 0, h => ⟨h, rfl⟩
  | 0, k + 1, h => by rw [tens, tens] at h; exact absurd (by rw [h]; exact tm10 _) ha
  | j + 1, 0, h => by rw [tens, tens] at h; exact absurd (by rw [← h]; exact tm10 _) hb
  | j + 1, k + 1, h => by
    rw [tens, tens] at h
    obtain ⟨x, y⟩ := tens_uniq ha hb (j := j) (k := k) (by omega)
    exact ⟨x, by omega⟩

theorem tdiv_facts {m : Int} (h0 : m ≠ 0) (h : m.tmod 10 = 0) : m = m.tdiv 10 * 10 ∧ m.tdiv 10 ≠ 0 ∧ (m.tdiv 10).natAbs < m.natAbs ∧ (0 ≤ m → 0 ≤ m.tdiv 10 ∧ m.tdiv 10 ≤ m) ∧ (m ≤ 0 → m ≤ m.tdiv 10 ∧ m.tdiv 10 ≤ 0) := by
  have := td10 m
  omega
theorem tens_1_19 : tens 1 19 = 10000000000000000000 := by decide
theorem tens_k {c m : Int} {k : Nat} (e : c = tens m k) (h : m.tmod 10 = 0) (h0 : m ≠ 0) (h1 : -1000000000000000000 ≤ c) (h2 : c ≤ 1000000000000000000) : k < 18 := by
  have t := td10 m
  rcases Nat.lt_or_ge k 18 with g | g
  · exact g
  · exfalso
    have a := tens_mono (n := 1) (by omega) (show 19 ≤ k + 1 by omega)
    rw [tens_1_19] at a
    have e2 : c = tens (m.tdiv 10) (k + 1) := by rw [show k + 1 = 1 + k by omega, ← tens_add, e]; congr 1; simp only [tens]; omega
    rcases Int.lt_trichotomy (m.tdiv 10) 0 with q | q | q
    · have b := tens_le (n := -(m.tdiv 10)) (by omega) (k + 1)
      rw [tens_neg] at b
      omega
    · omega
    · have b := tens_le (n := m.tdiv 10) (by omega) (k + 1)
      omega

theorem tens_step {c m q : Int} {k : Nat} (H : c = tens m k) (h : m = q * 10) : c = tens q (k + 1) := by
  rw [show k + 1 = 1 + k by omega, ← tens_add, H]; congr 1

theorem V_inj {c1 x1 c2 x2 : Int} (h1 : wrongN c1 x1 = 0) (h2 : wrongN c2 x2 = 0) (h : V c1 x1 = V c2 x2) : c1 = c2 ∧ x1 = x2 := by
  obtain ⟨_, _, a3, _, a5⟩ := wrong_ok h1
  obtain ⟨_, _, b3, _, b5⟩ := wrong_ok h2
  have z : ∀ {c : Int} (x : Int), V c x = 0 → c = 0 := by
    intro c x hv
    rcases Int.lt_trichotomy c 0 with g | g | g
    · have := V_neg g x; omega
    · exact g
    · have := V_pos g x; omega
  by_cases g1 : c1 = 0
  · subst g1
    rw [V_zero] at h
    have g2 := z x2 h.symm
    subst g2
    have := a5 rfl
    have := b5 rfl
    omega
  · by_cases g2 : c2 = 0
    · subst g2
      rw [V_zero] at h
      exact absurd (z x1 h) g1
    · obtain ⟨a, b⟩ := tens_uniq (fun q => g1 (a5 q).1) (fun q => g2 (b5 q).1) h
      exact ⟨a, by omega⟩
theorem order_facts {c1 x1 c2 x2 c3 x3 : Int} (h1 : wrongN c1 x1 = 0) (h2 : wrongN c2 x2 = 0) :
    (sgn (V c1 x1 - V c2 x2) = 0 ∧ sgn (V c2 x2 - V c1 x1) = 0 ∧ c1 = c2 ∧ x1 = x2 ∧ sgn (V c1 x1 - V c3 x3) = sgn (V c2 x2 - V c3 x3)) ∨
    (sgn (V c1 x1 - V c2 x2) = 1 ∧ sgn (V c2 x2 - V c1 x1) = -1 ∧ ¬ (c1 = c2 ∧ x1 = x2)) ∨
    (sgn (V c1 x1 - V c2 x2) = -1 ∧ sgn (V c2 x2 - V c1 x1) = 1 ∧ ¬ (c1 = c2 ∧ x1 = x2) ∧ (0 < sgn (V c2 x2 - V c3 x3) ∨ sgn (V c1 x1 - V c3 x3) ≤ 0)) := by
  have inj := @V_inj c1 x1 c2 x2 h1 h2
  have ne : ¬ V c1 x1 = V c2 x2 → ¬ (c1 = c2 ∧ x1 = x2) := fun a b => a (by rw [b.1, b.2])
  rcases Int.lt_trichotomy (V c1 x1) (V c2 x2) with g | g | g
  · refine .inr (.inr ⟨sgn_lt (by omega), sgn_gt (by omega), ne (by omega), ?_⟩)
    rcases sgn_cases (V c2 x2 - V c3 x3) with ⟨a, b⟩ | ⟨a, b⟩ | ⟨a, b⟩
    · right; rw [sgn_lt (by omega)]; omega
    · right; rw [sgn_lt (by omega)]; omega
    · left; omega
  · refine .inl ⟨by rw [g, Int.sub_self]; rfl, by rw [g, Int.sub_self]; rfl, (inj g).1, (inj g).2, by rw [g]⟩
  · exact .inr (.inl ⟨sgn_gt (by omega), sgn_lt (by omega), ne (by omega)⟩)

def fuel : Nat := 64
def tz (c : Int) : Nat := tzs fuel c
def tc (c : Int) : Int := tco fuel c
theorem tz_at {c m : Int} {k : Nat} (h : c = tens m k) (hm : m.tmod 10 ≠ 0) (hl : (c.natAbs : Int) ≤ 1000000000000000000) : tz c = k ∧ tc c = m := by
  have hc : c ≠ 0 := by
    intro h0
    have hm0 : m ≠ 0 := by intro z; rw [z] at hm; exact hm rfl
    rcases Int.lt_trichotomy m 0 with g | g | g
    · have := tens_pos (n := -m) (by omega) k; rw [tens_neg] at this; omega
    · exact hm0 g
    · have := tens_pos (n := m) (by omega) k; omega
  have hf : (1000000000000000000 : Int) < 10 ^ fuel := by decide
  obtain ⟨a, b⟩ := tz_spec fuel c hc (by omega)
  obtain ⟨x, y⟩ := tens_uniq b hm (a.symm.trans h)
  exact ⟨y, x⟩
theorem tz_of {c : Int} (hc : c ≠ 0) (hl : (c.natAbs : Int) ≤ 1000000000000000000) : c = tens (tc c) (tz c) ∧ (tc c).tmod 10 ≠ 0 := by
  have hf : (1000000000000000000 : Int) < 10 ^ fuel := by decide
  exact tz_spec fuel c hc (by omega)

/-- what is told of c times 10^x, its noughts taken away -/
def fC (c x : Int) : Int := if c = 0 then 0 else if 40 < x + tz c then 0 else tc c
def fE (c x : Int) : Int := if c = 0 then 0 else if 40 < x + tz c then 0 else x + tz c
def fR (c x : Int) : Int := if c = 0 then 0 else if 40 < x + tz c then 4 else 0

/-- how many digits N has -/
def ndf : Nat → Nat → Nat
  | 0, _ => 0
  | f + 1, N => if N = 0 then 0 else ndf f (N / 10) + 1
def nd (N : Nat) : Nat := ndf 200 N
theorem ndf_at : ∀ (f N L : Nat), L ≤ f → N < 10 ^ L → (L = 0 ∨ 10 ^ (L - 1) ≤ N) → ndf f N = L
  | 0, N, L, h, _, _ => by simp [ndf]; omega
  | f + 1, N, 0, h, l, _ => by simp at l; simp [ndf, l]
  | f + 1, N, L + 1, h, l, g => by
    have g' : 10 ^ L ≤ N := by rcases g with g | g; · omega
                               · simpa using g
    have := p10_pos L
    rw [p10_succ] at l
    rw [ndf, if_neg (by omega), ndf_at f (N / 10) L (by omega) (by omega) ?_]
    rcases Nat.eq_zero_or_pos L with z | z
    · exact .inl z
    · right
      rw [show L = (L - 1) + 1 by omega, p10_succ] at g'
      omega
theorem nd_at {N L : Nat} (h : L ≤ 200) (l : N < 10 ^ L) (g : L = 0 ∨ 10 ^ (L - 1) ≤ N) : nd N = L := ndf_at 200 N L h l g

/-- the exponent at which N times 10^x has eighteen digits at most, and the whole number there -/
def nE (N : Nat) (x : Int) : Int := max (-40) (x + nd N - 18)
def nQ (N : Nat) (x : Int) (rest : Bool) : Nat := sc N (x - nE N x) rest
def sg (b : Bool) (q : Nat) : Int := if b = true then -(q : Int) else q

/-- does what stands behind the kept digits make one more? -/
def gu (D : Nat → Nat) (n : Nat) (kept : Int) (odd R : Bool) : Bool :=
  if kept < 0 ∨ (n : Int) ≤ kept then false else if D kept.toNat = 5 then odd || R || decide (0 < suf D n (n - kept.toNat - 1)) else decide (5 < D kept.toNat)
theorem gu_out {D : Nat → Nat} {n : Nat} {kept : Int} (odd R : Bool) (h : kept < 0 ∨ (n : Int) ≤ kept) : gu D n kept odd R = false := by unfold gu; rw [if_pos h]
theorem gu_in {D : Nat → Nat} {n k : Nat} (odd R : Bool) (h : k < n) (h5 : D k ≠ 5) : gu D n (k : Int) odd R = decide (5 < D k) := by
  unfold gu; rw [if_neg (by omega), Int.toNat_natCast, if_neg h5]
theorem gu_5 {D : Nat → Nat} {n k : Nat} (odd R : Bool) (h : k < n) (h5 : D k = 5) : gu D n (k : Int) odd R = (odd || R || decide (0 < suf D n (n - k - 1))) := by
  unfold gu; rw [if_neg (by omega), Int.toNat_natCast, if_pos h5]
theorem suf_val (D : Nat → Nat) {n k : Nat} (h : k ≤ n) : suf D n (n - k) = val (fun j => D (k + j)) (n - k) := by
  have a := val_drop D k (n - k)
  have b := val_suf D n (n - k) (by omega)
  rw [show k + (n - k) = n by omega] at a
  rw [show n - (n - k) = k by omega] at b
  omega
/-- noughts alone, or not -/
theorem val_z {E : Nat → Nat} {m z : Nat} (hz : z ≤ m) (h0 : ∀ j, j < z → E j = 0) (h1 : z < m → E z ≠ 0) : decide (0 < val E m) = decide (z < m) := by
  rcases Nat.lt_or_ge z m with g | g
  · have a := val_drop E z (m - z)
    rw [show z + (m - z) = m by omega] at a
    have b := val_pos (D := fun j => E (z + j)) (k := m - z) (h1 g) (by omega)
    have c := p10_pos (m - z - 1)
    simp only [decide_eq_decide]
    omega
  · rw [val_zeros m (fun j hj => h0 j (by omega))]
    simp; omega

theorem suf_z (D : Nat → Nat) {n k z : Nat} (hk : k < n) (hz : z ≤ n - (k + 1)) (h0 : ∀ j, j < z → D (k + 1 + j) = 0) (h1 : z < n - (k + 1) → D (k + 1 + z) ≠ 0) : decide (0 < suf D n (n - k - 1)) = decide (z < n - (k + 1)) := by
  rw [show n - k - 1 = n - (k + 1) by omega, suf_val D (by omega)]
  exact val_z (E := fun j => D (k + 1 + j)) hz h0 h1

/-- the first k digits as a whole number, with noughts where there are no more -/
def vx (D : Nat → Nat) (n k : Nat) : Nat := if k ≤ n then val D k else val D n * 10 ^ (k - n)
theorem vx_zero (D : Nat → Nat) (n : Nat) : vx D n 0 = 0 := by simp [vx, val]
theorem vx_in {D : Nat → Nat} {n k : Nat} (h : k < n) : vx D n (k + 1) = vx D n k * 10 + D k := by
  unfold vx; rw [if_pos (by omega), if_pos (by omega), val]
theorem vx_out {D : Nat → Nat} {n k : Nat} (h : n ≤ k) : vx D n (k + 1) = vx D n k * 10 := by
  unfold vx
  rw [if_neg (by omega)]
  split
  · rw [show k = n by omega, show n + 1 - n = 1 by omega]
  · rw [show k + 1 - n = (k - n) + 1 by omega, p10_succ, Nat.mul_assoc, Nat.mul_comm 10 (10 ^ (k - n))]
theorem vx_lt {D : Nat → Nat} (h : ∀ j, D j < 10) (n : Nat) : ∀ k, vx D n k < 10 ^ k
  | 0 => by rw [vx_zero]; decide
  | k + 1 => by
    have := vx_lt h n k
    have := h k
    rw [p10_succ]
    rcases Nat.lt_or_ge k n with g | g
    · rw [vx_in g]; omega
    · rw [vx_out g]; omega
theorem p10_17 {k : Nat} (h : k ≤ 17) : 10 ^ k ≤ 100000000000000000 := Nat.le_trans (Nat.pow_le_pow_right (by decide) h) (by decide)
theorem p10_18 {k : Nat} (h : k ≤ 18) : 10 ^ k ≤ 1000000000000000000 := Nat.le_trans (Nat.pow_le_pow_right (by decide) h) (by decide)

def one (b : Bool) : Nat := if b = true then 1 else 0
theorem whole_eq {D : Nat → Nat} (h : ∀ j, D j < 10) (n : Nat) (x y : Int) (R : Bool) :
    vx D n ((n : Int) + x - y).toNat + one (gu D n ((n : Int) + x - y) (decide (vx D n ((n : Int) + x - y).toNat % 2 = 1)) R) = sc (val D n) (x - y) R := by
  rcases Int.lt_trichotomy ((n : Int) + x - y) 0 with g | g | g
  · rw [gu_out _ _ (.inl g), show ((n : Int) + x - y).toNat = 0 by omega, vx_zero]
    unfold sc
    rw [if_neg (by omega), up_far h (by omega)]
    rfl
  all_goals
    obtain ⟨k, hk⟩ : ∃ k : Nat, (n : Int) + x - y = (k : Int) := ⟨((n : Int) + x - y).toNat, by omega⟩
    rw [hk, Int.toNat_natCast]
    rcases Nat.lt_or_ge k n with q | q
    · have u := up_digit h q R
      have e : vx D n k = val D n / 10 ^ (n - k) := by rw [(mod_suf h (n := n) (k := n - k) (by omega)).2, show n - (n - k) = k by omega]; unfold vx; rw [if_pos (by omega)]
      have e2 : vx D n k = val D k := by unfold vx; rw [if_pos (by omega)]
      have gg : gu D n (k : Int) (decide (vx D n k % 2 = 1)) R = up (val D n) (10 ^ (n - k)) R := by
        rcases Nat.lt_trichotomy (D k) 5 with d | d | d
        · rw [gu_in _ _ q (by omega), u.1 d]; simp; omega
        · rw [gu_5 _ _ q d, u.2.2 d, e2]
        · rw [gu_in _ _ q (by omega), u.2.1 d]; simp; omega
      rw [gg]
      unfold sc
      rw [if_neg (by omega), show (-(x - y)).toNat = n - k by omega]
      unfold rnd one
      rw [← e]
      split <;> rfl
    · rw [gu_out _ _ (.inr (by omega))]
      have e1 : sc (val D n) (x - y) R = val D n * 10 ^ (k - n) := by unfold sc; rw [if_pos (by omega), show (x - y).toNat = k - n by omega]
      rw [e1]
      unfold vx
      split
      · rw [show k = n by omega]; simp [one]
      · rfl

theorem sc_le {D : Nat → Nat} (h : ∀ j, D j < 10) {n : Nat} {x y : Int} (R : Bool) (hk : (n : Int) + x - y ≤ 18) : sc (val D n) (x - y) R ≤ 1000000000000000000 := by
  have a := whole_eq h n x y R
  have b := vx_lt h n ((n : Int) + x - y).toNat
  have c := p10_18 (k := ((n : Int) + x - y).toNat) (by omega)
  have d : ∀ b, one b ≤ 1 := fun b => by unfold one; split <;> omega
  have := d (gu D n ((n : Int) + x - y) (decide (vx D n ((n : Int) + x - y).toNat % 2 = 1)) R)
  omega
theorem nd_val {D : Nat → Nat} (h : ∀ j, D j < 10) {n z : Nat} (hn : n ≤ 100) (hz : z ≤ n) (h0 : ∀ j, j < z → D j = 0) (h1 : z < n → D z ≠ 0) : val D n = val (fun j => D (z + j)) (n - z) ∧ nd (val D n) = n - z := by
  have a := val_drop D z (n - z)
  rw [show z + (n - z) = n by omega, val_zeros z h0] at a
  have e : val D n = val (fun j => D (z + j)) (n - z) := by omega
  refine ⟨e, ?_⟩
  rw [e]
  refine nd_at (by omega) (val_lt (fun j => h _) _) ?_
  rcases Nat.lt_or_ge z n with g | g
  · right; exact val_pos (D := fun j => D (z + j)) (h1 g) (by omega)
  · left; omega
theorem near_facts {D : Nat → Nat} (h : ∀ j, D j < 10) {n z : Nat} {x y : Int} (R : Bool) {q : Nat} (hn : n ≤ 100) (hx1 : -200 ≤ x) (hx2 : x ≤ 100) (hz : z ≤ n) (h0 : ∀ j, j < z → D j = 0) (h1 : z < n → D z ≠ 0)
    (hy : (if -40 < x + ((n - z : Nat) : Int) - 18 then x + ((n - z : Nat) : Int) - 18 else -40) = y) (hq : q = sc (val (fun j => D (z + j)) (n - z)) (x - y) R) :
    -200 ≤ y ∧ y ≤ 200 ∧ ((n - z : Nat) : Int) + x - y ≤ 18 ∧ (q : Int) ≤ 1000000000000000000 ∧ y = nE (val D n) x ∧ q = nQ (val D n) x R := by
  obtain ⟨e1, e2⟩ := nd_val h hn hz h0 h1
  have ey : y = nE (val D n) x := by
    unfold nE
    rw [e2, ← hy]
    split <;> omega
  have yk : ((n - z : Nat) : Int) + x - y ≤ 18 := by rw [← hy]; split <;> omega
  refine ⟨by rw [← hy]; split <;> omega, by rw [← hy]; split <;> omega, yk, ?_, ey, ?_⟩
  · have := sc_le (D := fun j => D (z + j)) (fun j => h _) R yk
    rw [hq]; omega
  · unfold nQ
    rw [hq, ← ey, e1]

/-- one digit more of a sum, from the right -/
theorem plus_step {X Y R : Nat → Nat} {n m cy : Nat} (h : m < n) (H : suf X n (n - (m + 1)) + suf Y n (n - (m + 1)) = suf R n (n - (m + 1)) + cy * 10 ^ (n - (m + 1))) :
    suf X n (n - m) + suf Y n (n - m) = suf (upd R m ((X m + Y m + cy) % 10)) n (n - m) + (X m + Y m + cy) / 10 * 10 ^ (n - m) := by
  rw [suf_upd R _ h]
  obtain ⟨k, hk⟩ : ∃ k, n - m = k + 1 := ⟨n - m - 1, by omega⟩
  rw [show n - (m + 1) = k by omega] at H
  rw [hk, suf, suf, show n - (k + 1) = m by omega, show k + 1 - 1 = k by omega, p10_succ]
  generalize suf X n k = a at *
  generalize suf Y n k = b at *
  generalize suf R n k = r at *
  generalize 10 ^ k = p at *
  generalize X m = x at *
  generalize Y m = y at *
  have e : (x + y + cy) * p = ((x + y + cy) / 10 * 10 + (x + y + cy) % 10) * p := by rw [Nat.div_add_mod']
  rw [Nat.add_mul, Nat.add_mul, Nat.add_mul ((x + y + cy) / 10 * 10), Nat.mul_assoc] at e
  omega
theorem minus_step {X Y R : Nat → Nat} {n m bw : Nat} (h : m < n) (hy : Y m < 10) (hb : bw ≤ 1) (H : suf X n (n - (m + 1)) + bw * 10 ^ (n - (m + 1)) = suf Y n (n - (m + 1)) + suf R n (n - (m + 1))) (hx : X m < 10) :
    suf X n (n - m) + (1 - (10 + X m - Y m - bw) / 10) * 10 ^ (n - m) = suf Y n (n - m) + suf (upd R m ((10 + X m - Y m - bw) % 10)) n (n - m) := by
  rw [suf_upd R _ h]
  obtain ⟨k, hk⟩ : ∃ k, n - m = k + 1 := ⟨n - m - 1, by omega⟩
  rw [show n - (m + 1) = k by omega] at H
  rw [hk, suf, suf, show n - (k + 1) = m by omega, show k + 1 - 1 = k by omega, p10_succ]
  generalize suf X n k = a at *
  generalize suf Y n k = b at *
  generalize suf R n k = r at *
  generalize 10 ^ k = p at *
  generalize X m = x at *
  generalize Y m = y at *
  rcases Nat.lt_or_ge x (y + bw) with g | g
  · have e1 : (10 + x - y - bw) / 10 = 0 := by omega
    have e2 : (10 + x - y - bw) % 10 = 10 + x - y - bw := by omega
    rw [e1, e2]
    have e : (10 + x - y - bw) * p + (y + bw) * p = (10 + x) * p := by rw [← Nat.add_mul]; congr 1; omega
    rw [Nat.add_mul, Nat.add_mul] at e
    omega
  · have e1 : (10 + x - y - bw) / 10 = 1 := by omega
    have e2 : (10 + x - y - bw) % 10 = x - y - bw := by omega
    rw [e1, e2]
    have e : (x - y - bw) * p + (y + bw) * p = x * p := by rw [← Nat.add_mul]; congr 1; omega
    rw [Nat.add_mul] at e
    omega

/-- the sum of two numbers, the lesser exponent's unit -/
def addS (c1 x1 c2 x2 : Int) : Int := tens c1 (x1 - min x1 x2).toNat + tens c2 (x2 - min x1 x2).toNat

theorem tens_abs (c : Int) (z : Nat) : (c < 0 → tens c z = -((c.natAbs * 10 ^ z : Nat) : Int)) ∧ (0 ≤ c → tens c z = ((c.natAbs * 10 ^ z : Nat) : Int)) := by
  rw [tens_eq]
  have p : ((10 : Int) ^ z) = ((10 ^ z : Nat) : Int) := by simp
  rw [p]
  refine ⟨fun h => ?_, fun h => ?_⟩
  · rw [Int.natCast_mul, show (c.natAbs : Int) = -c by omega, Int.neg_mul, Int.neg_neg]
  · rw [Int.natCast_mul, show (c.natAbs : Int) = c by omega]
theorem col_lt {N z W : Nat} (h : N < 1000000000000000000) (hz : z + 18 < W) : N * 10 ^ z < 10 ^ (W - 1) ∧ N < 10 ^ (W - z) := by
  have e : (1000000000000000000 : Nat) = 10 ^ 18 := by decide
  rw [e] at h
  refine ⟨?_, ?_⟩
  · have a : N * 10 ^ z < 10 ^ 18 * 10 ^ z := Nat.mul_lt_mul_of_pos_right h (p10_pos z)
    have b : 10 ^ 18 * 10 ^ z ≤ 10 ^ (W - 1) := by rw [← Nat.pow_add]; exact Nat.pow_le_pow_right (by decide) (by omega)
    omega
  · have b : 10 ^ 18 ≤ 10 ^ (W - z) := Nat.pow_le_pow_right (by decide) (by omega)
    omega
theorem p10_W {W : Nat} (h : 0 < W) : 10 ^ W = 10 * 10 ^ (W - 1) := by
  rw [← p10_succ]; congr 1; omega

theorem addS_eq {c1 x1 c2 x2 low : Int} {z1 z2 : Nat} (l3 : low = min x1 x2) (e1 : x1 - low = (z1 : Int)) (e2 : x2 - low = (z2 : Int)) : addS c1 x1 c2 x2 = tens c1 z1 + tens c2 z2 := by
  unfold addS
  rw [← l3, e1, e2, Int.toNat_natCast, Int.toNat_natCast]
theorem sum_plus {c1 c2 S : Int} {z1 z2 v : Nat} (h : S = tens c1 z1 + tens c2 z2) (hv : v = c1.natAbs * 10 ^ z1 + c2.natAbs * 10 ^ z2) : (c1 < 0 → c2 < 0 → sg true v = S) ∧ (¬ c1 < 0 → ¬ c2 < 0 → sg false v = S) := by
  have a := tens_abs c1 z1
  have b := tens_abs c2 z2
  unfold sg
  refine ⟨fun p q => ?_, fun p q => ?_⟩
  · rw [if_pos rfl, h, a.1 p, b.1 q, hv]; omega
  · rw [if_neg (by decide), h, a.2 (by omega), b.2 (by omega), hv]; omega
theorem sum_minus {c1 c2 S : Int} {z1 z2 v : Nat} (h : S = tens c1 z1 + tens c2 z2) (hl : c2.natAbs * 10 ^ z2 ≤ c1.natAbs * 10 ^ z1) (hv : v = c1.natAbs * 10 ^ z1 - c2.natAbs * 10 ^ z2) : (c1 < 0 → ¬ c2 < 0 → sg true v = S) ∧ (¬ c1 < 0 → c2 < 0 → sg false v = S) := by
  have a := tens_abs c1 z1
  have b := tens_abs c2 z2
  unfold sg
  refine ⟨fun p q => ?_, fun p q => ?_⟩
  · rw [if_pos rfl, h, a.1 p, b.2 (by omega), hv]; omega
  · rw [if_neg (by decide), h, a.2 (by omega), b.1 q, hv]; omega

def nearZ (S x : Int) (R : Bool) : Int := sg (decide (S < 0)) (nQ S.natAbs x R)
theorem nQ_zero (x : Int) : nQ 0 x false = 0 := by
  unfold nQ sc
  split
  · simp
  · unfold rnd up
    rw [Nat.zero_mod, Nat.zero_div]
    rw [if_neg (by simp)]
theorem sg_nat {B : Bool} {N : Nat} {S : Int} (h : sg B N = S) : N = S.natAbs ∧ (S ≠ 0 → B = decide (S < 0)) := by
  unfold sg at h
  cases B
  · simp at h
    refine ⟨by omega, fun g => ?_⟩
    simp; omega
  · simp at h
    refine ⟨by omega, fun g => ?_⟩
    simp; omega
theorem sg_near {B : Bool} {N : Nat} {S : Int} (h : sg B N = S) (x : Int) : sg B (nQ N x false) = nearZ S x false ∧ nE N x = nE S.natAbs x := by
  obtain ⟨a, b⟩ := sg_nat h
  rw [a]
  refine ⟨?_, rfl⟩
  unfold nearZ
  by_cases g : S = 0
  · subst g
    rw [show Int.natAbs 0 = 0 by rfl, nQ_zero x]
    cases B <;> rfl
  · rw [b g]

end Dm

/- Plain facts on cutting digits off, and on what is rounded: no Go in sight. -/
namespace Dm

/-- k digits cut off, towards 0 -/
def tq (c : Int) : Nat → Int
  | 0 => c
  | k + 1 => (tq c k).tdiv 10
theorem tdiv10 (c : Int) : (0 ≤ c → c.tdiv 10 = c / 10) ∧ (c ≤ 0 → c.tdiv 10 = -((-c) / 10)) := by
  refine ⟨fun h => Int.tdiv_eq_ediv_of_nonneg h, fun h => ?_⟩
  have e := Int.neg_tdiv (a := -c) (b := 10)
  rw [Int.neg_neg] at e
  rw [e, Int.tdiv_eq_ediv_of_nonneg (by omega)]
theorem tq_spec (c : Int) : ∀ k, (0 ≤ c → 0 ≤ tq c k ∧ tens (tq c k) k ≤ c ∧ c < tens (tq c k + 1) k) ∧ (c ≤ 0 → tq c k ≤ 0 ∧ c ≤ tens (tq c k) k ∧ tens (tq c k - 1) k < c)
  | 0 => by simp only [tq, tens]; omega
  | k + 1 => by
    obtain ⟨a, b⟩ := tq_spec c k
    obtain ⟨p, q⟩ := tdiv10 (tq c k)
    have t1 : ∀ v : Int, tens v (k + 1) = tens (v * 10) k := by intro v; rw [show k + 1 = 1 + k by omega, ← tens_add]; rfl
    have m := @tens_le_tens
    refine ⟨fun h => ?_, fun h => ?_⟩
    · obtain ⟨a1, a2, a3⟩ := a h
      rw [tq, p a1, t1, t1]
      have l1 := @tens_le_tens (tq c k / 10 * 10) (tq c k) (by omega) k
      have l2 := @tens_le_tens (tq c k + 1) ((tq c k / 10 + 1) * 10) (by omega) k
      omega
    · obtain ⟨b1, b2, b3⟩ := b h
      rw [tq, q b1, t1, t1]
      have l1 := @tens_le_tens (tq c k) (-(-tq c k / 10) * 10) (by omega) k
      have l2 := @tens_le_tens ((-(-tq c k / 10) - 1) * 10) (tq c k - 1) (by omega) k
      omega
theorem tq_bd {c : Int} (h1 : -1000000000000000000 < c) (h2 : c < 1000000000000000000) (k : Nat) : -1000000000000000000 < tq c k ∧ tq c k < 1000000000000000000 := by
  induction k with
  | zero => exact ⟨h1, h2⟩
  | succ k ih =>
    obtain ⟨p, q⟩ := tdiv10 (tq c k)
    rw [tq]
    rcases Int.le_total 0 (tq c k) with g | g
    · rw [p g]; omega
    · rw [q g]; omega

def flW (c : Int) (k : Nat) : Int := if c < 0 then tq c k - 1 else tq c k
def ceW (c : Int) (k : Nat) : Int := if 0 < c then tq c k + 1 else tq c k

theorem fl_spec {c : Int} (h0 : c ≠ 0) (k : Nat) : ceW c k = flW c k + 1 ∧ tens (flW c k) k ≤ c ∧ c ≤ tens (ceW c k) k := by
  obtain ⟨a, b⟩ := tq_spec c k
  rcases Int.lt_trichotomy c 0 with g | g | g
  · obtain ⟨b1, b2, b3⟩ := b (by omega)
    have e1 : flW c k = tq c k - 1 := by unfold flW; rw [if_pos g]
    have e2 : ceW c k = tq c k := by unfold ceW; rw [if_neg (by omega)]
    rw [e1, e2]
    refine ⟨by omega, by omega, b2⟩
  · exact absurd g h0
  · obtain ⟨a1, a2, a3⟩ := a (by omega)
    have e1 : flW c k = tq c k := by unfold flW; rw [if_neg (by omega)]
    have e2 : ceW c k = tq c k + 1 := by unfold ceW; rw [if_pos g]
    rw [e1, e2]
    refine ⟨by omega, a2, by omega⟩
theorem fl_bd {c : Int} (h1 : -1000000000000000000 < c) (h2 : c < 1000000000000000000) (k : Nat) : (-1000000000000000000 ≤ flW c k ∧ flW c k < 1000000000000000000) ∧ (-1000000000000000000 < ceW c k ∧ ceW c k ≤ 1000000000000000000) := by
  have t := tq_bd h1 h2 k
  unfold flW ceW
  split <;> split <;> omega

theorem tz_le {c : Int} (hc : c ≠ 0) (hl : (c.natAbs : Int) ≤ 1000000000000000000) : tz c ≤ 18 := by
  obtain ⟨a, b⟩ := tz_of hc hl
  rcases Nat.lt_or_ge 18 (tz c) with g | g
  · exfalso
    have t0 : tc c ≠ 0 := by intro z; rw [z] at b; exact b rfl
    have m := tens_mono (n := 1) (by omega) (show 19 ≤ tz c by omega)
    rw [tens_1_19] at m
    rcases Int.lt_trichotomy (tc c) 0 with q | q | q
    · have u := tens_le (n := -(tc c)) (by omega) (tz c)
      rw [tens_neg] at u
      omega
    · exact t0 q
    · have u := tens_le (n := tc c) (by omega) (tz c)
      omega
  · exact g

/-- what is told of a whole number that is not too great -/
theorem whole_told {w : Int} (h1 : -1000000000000000000 ≤ w) (h2 : w ≤ 1000000000000000000) :
    fR w 0 = 0 ∧ wrongN (fC w 0) (fE w 0) = 0 ∧ V (fC w 0) (fE w 0) = tens w 40 ∧ 0 ≤ fE w 0 ∧ fE w 0 ≤ 18 ∧ tens (fC w 0) (fE w 0).toNat = w := by
  by_cases h0 : w = 0
  · subst h0
    refine ⟨rfl, by decide, by decide, by decide, by decide, by decide⟩
  · obtain ⟨a, b⟩ := tz_of h0 (by omega)
    have t := tz_le h0 (by omega)
    have g : ¬ (40 : Int) < 0 + (tz w : Int) := by omega
    have eC : fC w 0 = tc w := by unfold fC; rw [if_neg h0, if_neg g]
    have eE : fE w 0 = (tz w : Int) := by unfold fE; rw [if_neg h0, if_neg g]; omega
    have eR : fR w 0 = 0 := by unfold fR; rw [if_neg h0, if_neg g]
    have bnd : -1000000000000000000 < tc w ∧ tc w < 1000000000000000000 := by
      by_cases hz : tz w = 0
      · rw [hz] at a
        have a' : w = tc w := a
        have : tc w ≠ 1000000000000000000 := by intro q; rw [q] at b; exact b (by decide)
        have : tc w ≠ -1000000000000000000 := by intro q; rw [q] at b; exact b (by decide)
        omega
      · have m := tens_mono (n := 1) (by omega) (show 1 ≤ tz w by omega)
        have e1 : tens 1 1 = 10 := by decide
        obtain ⟨k, hk⟩ : ∃ k, tz w = k + 1 := ⟨tz w - 1, by omega⟩
        rw [hk] at a
        have p := @tens_pos
        rcases Int.lt_trichotomy (tc w) 0 with q | q | q
        · have u := tens_mono (n := -(tc w)) (by omega) (show 1 ≤ k + 1 by omega)
          rw [tens_neg (tc w) (k + 1), ← a] at u
          have : tens (-tc w) 1 = -tc w * 10 := rfl
          omega
        · rw [q] at b; exact absurd rfl b
        · have u := tens_mono (n := tc w) (by omega) (show 1 ≤ k + 1 by omega)
          rw [← a] at u
          have : tens (tc w) 1 = tc w * 10 := rfl
          omega
    refine ⟨eR, ?_, ?_, by omega, by omega, ?_⟩
    · rw [eC, eE]
      unfold wrongN
      rw [if_neg (by omega), if_neg (fun q => b q.1)]
    · rw [eC, eE]
      unfold V
      rw [show ((tz w : Int) + 40).toNat = tz w + 40 by omega, ← tens_add, ← a]
    · rw [eC, eE, Int.toNat_natCast, ← a]

theorem tens_one {S : Int} {k : Nat} (h : tens S k = 1) : S = 1 ∧ k = 0 := by
  cases k with
  | zero => exact ⟨h, rfl⟩
  | succ k => rw [tens] at h; omega

/-- the one between a number's two neighbours -/
theorem one_between {f g : Int} (hf1 : -1000000000000000000 ≤ f) (hf2 : f ≤ 1000000000000000000) (hg1 : -1000000000000000000 ≤ g) (hg2 : g ≤ 1000000000000000000) (h : g = f + 1) :
    addS (fC g 0) (fE g 0) (-(fC f 0)) (fE f 0) = 1 ∧ min (fE g 0) (fE f 0) = 0 := by
  obtain ⟨_, _, _, f3, f4, f5⟩ := whole_told hf1 hf2
  obtain ⟨_, _, _, g3, g4, g5⟩ := whole_told hg1 hg2
  have e : tens (addS (fC g 0) (fE g 0) (-(fC f 0)) (fE f 0)) (min (fE g 0) (fE f 0)).toNat = 1 := by
    unfold addS
    rw [tens_eq, Int.add_mul, ← tens_eq, ← tens_eq, tens_add, tens_add]
    rw [show (fE g 0 - min (fE g 0) (fE f 0)).toNat + (min (fE g 0) (fE f 0)).toNat = (fE g 0).toNat by omega, show (fE f 0 - min (fE g 0) (fE f 0)).toNat + (min (fE g 0) (fE f 0)).toNat = (fE f 0).toNat by omega, g5, tens_neg, f5]
    omega
  obtain ⟨a, b⟩ := tens_one e
  exact ⟨a, by omega⟩

/-- what is rounded to a multiple of 10^y, of fewer than eighteen digits -/
theorem round_told {C y : Int} (h1 : -1000000000000000000 ≤ C) (h2 : C ≤ 1000000000000000000) (hy1 : -40 ≤ y) (hr : fR C y = 0) :
    wrongN (fC C y) (fE C y) = 0 ∧ (fC C y ≠ 0 → y ≤ fE C y) ∧ (fC C y = 0 → fE C y = 0) := by
  by_cases h0 : C = 0
  · subst h0
    refine ⟨by simp [fC, fE]; decide, by simp [fC], by simp [fE]⟩
  · obtain ⟨a, b⟩ := tz_of h0 (by omega)
    have g : ¬ (40 : Int) < y + (tz C : Int) := by
      intro q
      unfold fR at hr
      rw [if_neg h0, if_pos q] at hr
      omega
    have eC : fC C y = tc C := by unfold fC; rw [if_neg h0, if_neg g]
    have eE : fE C y = y + (tz C : Int) := by unfold fE; rw [if_neg h0, if_neg g]
    have w := (whole_told h1 h2).2.1
    have g0 : ¬ (40 : Int) < 0 + (tz C : Int) := by have := tz_le h0 (by omega); omega
    have eC0 : fC C 0 = tc C := by unfold fC; rw [if_neg h0, if_neg g0]
    have eE0 : fE C 0 = (tz C : Int) := by unfold fE; rw [if_neg h0, if_neg g0]; omega
    rw [eC0, eE0] at w
    obtain ⟨w1, w2, _, _, _⟩ := wrong_ok w
    rw [eC, eE]
    refine ⟨?_, fun _ => by omega, fun q => ?_⟩
    · unfold wrongN
      rw [if_neg (by omega), if_neg (fun q => b q.1)]
    · rw [q] at b; exact absurd rfl b
end Dm

/- Plain facts: what can be told exactly is. No Go in sight. -/
namespace Dm

theorem has_len : ∀ (m n : Nat), 1 ≤ n → n < 10 ^ m → ∃ L, 1 ≤ L ∧ L ≤ m ∧ 10 ^ (L - 1) ≤ n ∧ n < 10 ^ L
  | 0, n, h, l => by simp at l; omega
  | m + 1, n, h, l => by
    by_cases g : n < 10 ^ m
    · obtain ⟨L, a, b, c, d⟩ := has_len m n h g
      exact ⟨L, a, by omega, c, d⟩
    · exact ⟨m + 1, by omega, Nat.le_refl _, by simpa using g, l⟩
theorem nd_tens {n L j : Nat} (h1 : 1 ≤ L) (h2 : L + j ≤ 200) (h3 : 10 ^ (L - 1) ≤ n) (h4 : n < 10 ^ L) : nd (n * 10 ^ j) = L + j := by
  refine nd_at h2 ?_ (.inr ?_)
  · rw [Nat.pow_add]; exact Nat.mul_lt_mul_of_pos_right h4 (p10_pos j)
  · rw [show L + j - 1 = L - 1 + j by omega, Nat.pow_add]; exact Nat.mul_le_mul_right _ h3
theorem rnd_exact (m k : Nat) (R : Bool) (hR : R = false) : rnd (m * 10 ^ k) (10 ^ k) R = m := by
  subst hR
  have p := p10_pos k
  unfold rnd up
  rw [Nat.mul_mod_left, Nat.mul_div_cancel _ p, if_neg]
  simp
  omega
/-- what comes of a number with noughts at its end: the number times a power of ten -/
theorem sc_exact {n j k : Nat} {s : Int} (h : (j : Int) + s = (k : Int)) : sc (n * 10 ^ j) s false = n * 10 ^ k := by
  unfold sc
  by_cases g : 0 ≤ s
  · rw [if_pos g, Nat.mul_assoc, ← Nat.pow_add]
    congr 2
    omega
  · rw [if_neg g, show j = k + (-s).toNat by omega, Nat.pow_add, ← Nat.mul_assoc]
    exact rnd_exact _ _ _ rfl
theorem sg_tens {c : Int} (k : Nat) {S : Int} (j : Nat) (hS : S = tens c j) : sg (decide (S < 0)) (c.natAbs * 10 ^ k) = tens c k := by
  have a := tens_abs c k
  have b := tens_abs c j
  have p := p10_pos j
  unfold sg
  rcases Int.lt_trichotomy c 0 with g | g | g
  · have : S < 0 := by
      rw [hS, b.1 g]
      have := Nat.mul_pos (show 0 < c.natAbs by omega) p
      omega
    rw [decide_eq_true this, if_pos rfl, a.1 g]
  · subst g
    rw [a.2 (by omega)]
    simp
  · have : ¬ S < 0 := by rw [hS, b.2 (by omega)]; omega
    rw [decide_eq_false this, if_neg (by decide), a.2 (by omega)]

/-- what can be told exactly is -/
theorem exact_told {c x S : Int} {j : Nat} (h : wrongN c x = 0) (hj : j ≤ 100) (hS : S = tens c j) :
    fC (nearZ S (x - j) false) (nE S.natAbs (x - j)) = c ∧ fE (nearZ S (x - j) false) (nE S.natAbs (x - j)) = x ∧ fR (nearZ S (x - j) false) (nE S.natAbs (x - j)) = 0 := by
  obtain ⟨p1, p2, p3, p4, p5⟩ := wrong_ok h
  by_cases h0 : c = 0
  · have hx : x = 0 := (p5 (by rw [h0]; rfl)).2
    subst h0
    rw [tens_zero] at hS
    subst hS
    have e : nearZ 0 (x - j) false = 0 := by
      unfold nearZ
      rw [show Int.natAbs 0 = 0 by rfl, nQ_zero]
      rfl
    rw [e]
    subst hx
    simp [fC, fE, fR]
  · have hc : c.tmod 10 ≠ 0 := fun q => h0 (p5 q).1
    obtain ⟨L, l1, l2, l3, l4⟩ := has_len 18 c.natAbs (by omega) (by omega)
    have hN : S.natAbs = c.natAbs * 10 ^ j := by
      rcases Int.lt_trichotomy c 0 with g | g | g
      · rw [hS, (tens_abs c j).1 g]; omega
      · exact absurd g h0
      · rw [hS, (tens_abs c j).2 (by omega)]; omega
    have hE : nE S.natAbs (x - j) = max (-40) (x + L - 18) := by
      unfold nE
      rw [hN, nd_tens l1 (by omega) l3 l4]
      congr 1
      omega
    obtain ⟨k, hk⟩ : ∃ k : Nat, x - nE S.natAbs (x - j) = (k : Int) := ⟨(x - nE S.natAbs (x - j)).toNat, by rw [hE]; omega⟩
    have hkl : k + L ≤ 18 := by rw [hE] at hk; omega
    have hq : nQ S.natAbs (x - j) false = c.natAbs * 10 ^ k := by
      unfold nQ
      rw [hN] at hk ⊢
      exact sc_exact (by omega)
    have hZ : nearZ S (x - j) false = tens c k := by
      unfold nearZ
      rw [hq]
      exact sg_tens k j hS
    have hb : c.natAbs * 10 ^ k < 10 ^ 18 := by
      have a : c.natAbs * 10 ^ k < 10 ^ L * 10 ^ k := Nat.mul_lt_mul_of_pos_right l4 (p10_pos k)
      have b : 10 ^ L * 10 ^ k ≤ 10 ^ 18 := by rw [← Nat.pow_add]; exact Nat.pow_le_pow_right (by decide) (by omega)
      omega
    have hab : ((tens c k).natAbs : Int) ≤ 1000000000000000000 := by
      rcases Int.lt_trichotomy c 0 with g | g | g
      · rw [(tens_abs c k).1 g]; omega
      · exact absurd g h0
      · rw [(tens_abs c k).2 (by omega)]; omega
    obtain ⟨t1, t2⟩ := tz_at (c := tens c k) rfl hc hab
    have hne : tens c k ≠ 0 := by
      have p := p10_pos k
      have := Nat.mul_pos (show 0 < c.natAbs by omega) p
      rcases Int.lt_trichotomy c 0 with g | g | g
      · rw [(tens_abs c k).1 g]; omega
      · exact absurd g h0
      · rw [(tens_abs c k).2 (by omega)]; omega
    rw [hZ]
    unfold fC fE fR
    rw [if_neg hne, if_neg hne, if_neg hne, t1, t2]
    have g : ¬ 40 < nE S.natAbs (x - j) + (k : Int) := by omega
    rw [if_neg g, if_neg g, if_neg g]
    exact ⟨rfl, by omega, rfl⟩
end Dm

/- Plain facts: what is more stays more. No Go in sight. -/
namespace Dm

theorem rnd_mono {a b p : Nat} (R : Bool) (h : a ≤ b) : rnd a p R ≤ rnd b p R := by
  have hq : a / p ≤ b / p := Nat.div_le_div_right h
  rcases Nat.lt_or_ge (a / p) (b / p) with g | g
  · unfold rnd
    split <;> split <;> omega
  · have e : a / p = b / p := Nat.le_antisymm hq g
    have da := Nat.div_add_mod a p
    have db := Nat.div_add_mod b p
    rw [e] at da
    have hr : a % p ≤ b % p := by omega
    have hu : up a p R = true → up b p R = true := by
      unfold up
      rw [e]
      simp only [decide_eq_true_eq]
      intro q
      rcases q with q | ⟨q, t⟩
      · left; omega
      · rcases Nat.lt_or_ge p (2 * (b % p)) with z | z
        · left; exact z
        · right; exact ⟨by omega, t⟩
    unfold rnd
    by_cases u : up a p R = true
    · rw [if_pos u, if_pos (hu u)]; omega
    · rw [if_neg u]; split <;> omega
theorem rnd_scale (N q j : Nat) (R : Bool) : rnd (N * 10 ^ j) (q * 10 ^ j) R = rnd N q R := by
  have p := p10_pos j
  have u : up (N * 10 ^ j) (q * 10 ^ j) R = up N q R := by
    unfold up
    rw [Nat.mul_div_mul_right _ _ p, Nat.mul_mod_mul_right]
    congr 1
    have a : q * 10 ^ j < 2 * (N % q * 10 ^ j) ↔ q < 2 * (N % q) := by
      rw [← Nat.mul_assoc]; exact Nat.mul_lt_mul_right p
    have b : 2 * (N % q * 10 ^ j) = q * 10 ^ j ↔ 2 * (N % q) = q := by
      rw [← Nat.mul_assoc]; exact Nat.mul_right_cancel_iff p
    rw [a, b]
  unfold rnd
  rw [u, Nat.mul_div_mul_right _ _ p]
theorem sc_shift (N j : Nat) (s : Int) : sc (N * 10 ^ j) (s - j) false = sc N s false := by
  by_cases h : 0 ≤ s
  · obtain ⟨k, hk⟩ : ∃ k : Nat, s = (k : Int) := ⟨s.toNat, by omega⟩
    rw [sc_exact (k := k) (by omega)]
    unfold sc
    rw [if_pos h, hk, Int.toNat_natCast]
  · unfold sc
    rw [if_neg h, if_neg (by omega), show (-(s - j)).toNat = (-s).toNat + j by omega, Nat.pow_add]
    exact rnd_scale _ _ _ _

theorem p10_lt {a b : Nat} (h : 10 ^ a < 10 ^ b) : a < b := (Nat.pow_lt_pow_iff_right (by decide)).1 h
theorem p10_le {a b : Nat} (h : a ≤ b) : 10 ^ a ≤ 10 ^ b := Nat.pow_le_pow_right (by decide) h
theorem nd_spec {N : Nat} (h : 1 ≤ N) (hl : N < 10 ^ 200) : 1 ≤ nd N ∧ nd N ≤ 200 ∧ 10 ^ (nd N - 1) ≤ N ∧ N < 10 ^ nd N := by
  obtain ⟨L, a, b, c, d⟩ := has_len 200 N h hl
  have e : nd N = L := nd_at b d (.inr c)
  rw [e]
  exact ⟨a, b, c, d⟩
theorem nd_zero : nd 0 = 0 := by decide
theorem nd_mono {a b : Nat} (h : a ≤ b) (hb : b < 10 ^ 200) : nd a ≤ nd b := by
  rcases Nat.eq_zero_or_pos a with z | z
  · subst z; rw [nd_zero]; omega
  · obtain ⟨a1, a2, a3, a4⟩ := nd_spec z (by omega)
    obtain ⟨b1, b2, b3, b4⟩ := nd_spec (N := b) (by omega) hb
    have := p10_lt (a := nd a - 1) (b := nd b) (by omega)
    omega
theorem nd_shift {N j : Nat} (h : 1 ≤ N) (hl : N * 10 ^ j < 10 ^ 200) : nd (N * 10 ^ j) = nd N + j := by
  have p := p10_pos j
  have n : N ≤ N * 10 ^ j := Nat.le_mul_of_pos_right _ p
  obtain ⟨a1, a2, a3, a4⟩ := nd_spec h (by omega)
  have q : 10 ^ (nd N - 1 + j) ≤ N * 10 ^ j := by rw [Nat.pow_add]; exact Nat.mul_le_mul_right _ a3
  have := p10_lt (a := nd N - 1 + j) (b := 200) (by omega)
  exact nd_tens a1 (by omega) a3 a4

/-- what stands at 10^-80, told in units of 10^-40 -/
def uE (N : Nat) : Nat := (nE N (-80) + 40).toNat
def uQ (N : Nat) : Nat := nQ N (-80) false * 10 ^ uE N
theorem uE_eq {N : Nat} : (uE N : Int) = nE N (-80) + 40 ∧ nQ N (-80) false = rnd N (10 ^ (uE N + 40)) false := by
  have e : nE N (-80) = max (-40 : Int) (-80 + (nd N : Int) - 18) := rfl
  have a : (uE N : Int) = nE N (-80) + 40 := by unfold uE; omega
  refine ⟨a, ?_⟩
  unfold nQ sc
  rw [if_neg (by omega), show (-(-80 - nE N (-80))).toNat = uE N + 40 by omega]
theorem uQ_le {N : Nat} (hN : N < 10 ^ 200) : nQ N (-80) false ≤ 10 ^ 18 := by
  obtain ⟨a, b⟩ := @uE_eq N
  have e : nE N (-80) = max (-40 : Int) (-80 + (nd N : Int) - 18) := rfl
  rw [b]
  rcases Nat.eq_zero_or_pos N with z | z
  · subst z
    have := rnd_exact 0 (uE 0 + 40) false rfl
    rw [Nat.zero_mul] at this
    rw [this]
    exact Nat.zero_le _
  · obtain ⟨n1, n2, n3, n4⟩ := nd_spec z hN
    have hl : N < 10 ^ 18 * 10 ^ (uE N + 40) := by
      rw [← Nat.pow_add]
      exact Nat.lt_of_lt_of_le n4 (p10_le (by omega))
    have hq : N / 10 ^ (uE N + 40) < 10 ^ 18 := by
      rw [Nat.div_lt_iff_lt_mul (p10_pos _)]; exact hl
    unfold rnd
    split <;> omega
theorem uQ_mono {a b : Nat} (h : a ≤ b) (hb : b < 10 ^ 200) : uQ a ≤ uQ b := by
  obtain ⟨a1, a2⟩ := @uE_eq a
  obtain ⟨b1, b2⟩ := @uE_eq b
  have ea : nE a (-80) = max (-40 : Int) (-80 + (nd a : Int) - 18) := rfl
  have eb : nE b (-80) = max (-40 : Int) (-80 + (nd b : Int) - 18) := rfl
  have m := nd_mono h hb
  unfold uQ
  rcases Nat.lt_or_ge (uE a) (uE b) with g | g
  · have l := uQ_le (N := a) (by omega)
    have hb1 : 1 ≤ b := by
      rcases Nat.eq_zero_or_pos b with z | z
      · subst z; rw [nd_zero] at eb; omega
      · exact z
    obtain ⟨n1, n2, n3, n4⟩ := nd_spec hb1 hb
    have q : 10 ^ 17 ≤ nQ b (-80) false := by
      rw [b2]
      have r : 10 ^ 17 ≤ b / 10 ^ (uE b + 40) := by
        rw [Nat.le_div_iff_mul_le (p10_pos _), ← Nat.pow_add]
        exact Nat.le_trans (p10_le (by omega)) n3
      unfold rnd
      split <;> omega
    have s1 : nQ a (-80) false * 10 ^ uE a ≤ 10 ^ 18 * 10 ^ uE a := Nat.mul_le_mul_right _ l
    have s2 : 10 ^ 18 * 10 ^ uE a ≤ 10 ^ 17 * 10 ^ uE b := by
      rw [← Nat.pow_add, ← Nat.pow_add]; exact p10_le (by omega)
    have s3 : 10 ^ 17 * 10 ^ uE b ≤ nQ b (-80) false * 10 ^ uE b := Nat.mul_le_mul_right _ q
    omega
  · have e : uE a = uE b := by omega
    rw [a2, b2, e]
    exact Nat.mul_le_mul_right _ (rnd_mono _ h)

/-- told in units of 10^-40, with its sign -/
def uZ (A : Int) : Int := sg (decide (A < 0)) (uQ A.natAbs)
theorem uZ_mono {A B : Int} (h : A ≤ B) (hA : A.natAbs < 10 ^ 200) (hB : B.natAbs < 10 ^ 200) : uZ A ≤ uZ B := by
  unfold uZ sg
  by_cases a : A < 0
  · by_cases b : B < 0
    · have := uQ_mono (a := B.natAbs) (b := A.natAbs) (by omega) hA
      rw [decide_eq_true a, decide_eq_true b, if_pos rfl, if_pos rfl]
      omega
    · rw [decide_eq_true a, decide_eq_false b, if_pos rfl, if_neg (by decide)]
      omega
  · have b : ¬ B < 0 := by omega
    have := uQ_mono (a := A.natAbs) (b := B.natAbs) (by omega) hB
    rw [decide_eq_false a, decide_eq_false b, if_neg (by decide), if_neg (by decide)]
    omega

theorem V_fC {C e : Int} (h1 : -1000000000000000000 ≤ C) (h2 : C ≤ 1000000000000000000) (he : -40 ≤ e) (hr : fR C e = 0) : V (fC C e) (fE C e) = tens C (e + 40).toNat := by
  by_cases h0 : C = 0
  · subst h0
    rw [tens_zero]
    simp [fC, fE]
    exact V_zero 0
  · obtain ⟨a, b⟩ := tz_of h0 (by omega)
    have g : ¬ (40 : Int) < e + (tz C : Int) := by
      intro q
      unfold fR at hr
      rw [if_neg h0, if_pos q] at hr
      omega
    have eC : fC C e = tc C := by unfold fC; rw [if_neg h0, if_neg g]
    have eE : fE C e = e + (tz C : Int) := by unfold fE; rw [if_neg h0, if_neg g]
    rw [eC, eE]
    unfold V
    rw [show (e + (tz C : Int) + 40).toNat = tz C + (e + 40).toNat by omega, ← tens_add, ← a]

/-- what is told of S times 10^x is what is told of the same at 10^-80 -/
theorem told_V {S x : Int} (hx : -80 ≤ x) (hl : S.natAbs * 10 ^ (x + 80).toNat < 10 ^ 200) (hr : fR (nearZ S x false) (nE S.natAbs x) = 0) :
    wrongN (fC (nearZ S x false) (nE S.natAbs x)) (fE (nearZ S x false) (nE S.natAbs x)) = 0 ∧ V (fC (nearZ S x false) (nE S.natAbs x)) (fE (nearZ S x false) (nE S.natAbs x)) = uZ (tens S (x + 80).toNat) := by
  have he : -40 ≤ nE S.natAbs x := by unfold nE; omega
  by_cases h0 : S = 0
  · subst h0
    have e : nearZ 0 x false = 0 := by
      unfold nearZ
      rw [show Int.natAbs 0 = 0 by rfl, nQ_zero]
      rfl
    rw [e, tens_zero]
    refine ⟨by simp [fC, fE]; decide, ?_⟩
    have z : uZ 0 = 0 := by decide +kernel
    rw [z]
    simp only [fC, fE]
    exact V_zero 0
  · obtain ⟨j, hj⟩ : ∃ j : Nat, x + 80 = (j : Int) := ⟨(x + 80).toNat, by omega⟩
    rw [hj, Int.toNat_natCast] at hl ⊢
    have hN : 1 ≤ S.natAbs := by omega
    have hA : (tens S j).natAbs = S.natAbs * 10 ^ j := by
      rcases Int.lt_trichotomy S 0 with g | g | g
      · rw [(tens_abs S j).1 g]; omega
      · exact absurd g h0
      · rw [(tens_abs S j).2 (by omega)]; omega
    have hsg : (decide (tens S j < 0)) = decide (S < 0) := by
      have p := Nat.mul_pos (show 0 < S.natAbs by omega) (p10_pos j)
      rcases Int.lt_trichotomy S 0 with g | g | g
      · rw [(tens_abs S j).1 g, decide_eq_true g, decide_eq_true]; omega
      · exact absurd g h0
      · rw [(tens_abs S j).2 (by omega), decide_eq_false (show ¬ S < 0 by omega), decide_eq_false]; omega
    have nn := nd_shift hN hl
    have hE : nE (S.natAbs * 10 ^ j) (-80) = nE S.natAbs x := by
      unfold nE
      rw [nn]
      congr 1
      omega
    have hQ : nQ (S.natAbs * 10 ^ j) (-80) false = nQ S.natAbs x false := by
      unfold nQ
      rw [hE, show -80 - nE S.natAbs x = (x - nE S.natAbs x) - (j : Int) by omega]
      exact sc_shift _ _ _
    have bq := uQ_le hl
    rw [hQ] at bq
    have bC : -1000000000000000000 ≤ nearZ S x false ∧ nearZ S x false ≤ 1000000000000000000 := by
      unfold nearZ sg; split <;> omega
    refine ⟨(round_told bC.1 bC.2 he hr).1, ?_⟩
    rw [V_fC bC.1 bC.2 he hr]
    unfold uZ uQ uE
    rw [hA, hsg, hQ, hE]
    unfold nearZ
    generalize nQ S.natAbs x false = q
    generalize (nE S.natAbs x + 40).toNat = k
    unfold sg
    split
    · rw [tens_neg, tens_eq, Int.natCast_mul]; simp
    · rw [tens_eq, Int.natCast_mul]; simp
end Dm
