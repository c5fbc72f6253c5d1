/- Plain: what is nearest to a ratio, and the first exponent at which it has eighteen digits. -/
import Derived.Test.YtbdgngfpofohpaaDoorG17
import Derived.Test.YtbdgngfpofohpaaDoorG15
namespace Dm

/-- the whole number nearest to N over D, a half to the even one -/
def nr (N D : Int) : Int := if D < 2 * (N % D) ∨ (2 * (N % D) = D ∧ N / D % 2 ≠ 0) then N / D + 1 else N / D
theorem nr_nat (A B : Nat) : nr (A : Int) (B : Int) = (rnd A B false : Nat) := by
  unfold nr rnd up
  have e1 : (A : Int) % (B : Int) = ((A % B : Nat) : Int) := by simp
  have e2 : (A : Int) / (B : Int) = ((A / B : Nat) : Int) := by simp
  rw [e1, e2]
  by_cases h : B < 2 * (A % B) ∨ (2 * (A % B) = B ∧ A / B % 2 = 1)
  · rw [if_pos (by omega), if_pos (by simpa using h)]
    simp
  · rw [if_neg (by omega), if_neg (by simpa using h)]
theorem nr_neg (N : Int) {D : Int} (hD : 0 < D) : nr (-N) D = -nr N D := by
  have h1 := Int.mul_ediv_add_emod N D
  have h2 := Int.emod_nonneg N (show D ≠ 0 by omega)
  have h3 := Int.emod_lt_of_pos N hD
  have key : ∀ q r : Int, 0 ≤ r → r < D → -N = D * q + r → (-N) / D = q ∧ (-N) % D = r := fun q r g0 g1 g => by
    have a : (-N) % D = r := by rw [g, Int.mul_add_emod_self_left]; exact Int.emod_eq_of_lt g0 g1
    refine ⟨?_, a⟩
    have b := Int.mul_ediv_add_emod (-N) D
    rw [a] at b
    have c : D * (-N / D) = D * q := by omega
    exact Int.eq_of_mul_eq_mul_left (by omega) c
  unfold nr
  generalize hq : N / D = q at *
  generalize hr : N % D = r at *
  by_cases h0 : r = 0
  · obtain ⟨a, b⟩ := key (-q) 0 (by omega) hD (by rw [Int.mul_neg]; omega)
    rw [a, b]
    rw [if_neg (by omega), if_neg (by omega)]
  · obtain ⟨a, b⟩ := key (-q - 1) (D - r) (by omega) (by omega) (by rw [Int.mul_sub, Int.mul_neg, Int.mul_one]; omega)
    rw [a, b]
    by_cases c : D < 2 * r ∨ (2 * r = D ∧ q % 2 ≠ 0)
    · rw [if_neg (by omega), if_pos c]
      omega
    · rw [if_pos (by omega), if_neg c]
      omega
theorem nr_sg (b : Bool) (A B : Nat) (hB : 0 < B) : nr (sg b A) (B : Int) = sg b (rnd A B false) := by
  unfold sg
  cases b
  · simp [nr_nat]
  · simp only [if_true]
    rw [nr_neg _ (by omega), nr_nat]
theorem rnd_mul (A B k : Nat) (R : Bool) (hk : 0 < k) : rnd (A * k) (B * k) R = rnd A B R := by
  unfold rnd up
  have e1 : A * k / (B * k) = A / B := Nat.mul_div_mul_right _ _ hk
  have e2 : A * k % (B * k) = A % B * k := Nat.mul_mod_mul_right _ _ _
  rw [e1, e2]
  have e3 : (B * k < 2 * (A % B * k)) ↔ B < 2 * (A % B) := by
    rw [← Nat.mul_assoc]
    exact Nat.mul_lt_mul_right hk
  have e4 : (2 * (A % B * k) = B * k) ↔ 2 * (A % B) = B := by
    rw [← Nat.mul_assoc]
    exact ⟨fun h => Nat.eq_of_mul_eq_mul_right hk h, fun h => by rw [h]⟩
  simp only [e3, e4]
theorem rnd_ratio {A B C D : Nat} (hB : 0 < B) (hD : 0 < D) (h : A * D = C * B) : rnd A B false = rnd C D false := by
  rw [← rnd_mul A B D false hD, ← rnd_mul C D B false hB, h, Nat.mul_comm D B]
/-- what a rest says is what the whole says, where an even number is dropped -/
theorem rnd_rest (A B p : Nat) (hB : 0 < B) (hp : p % 2 = 0) (hp0 : 0 < p) : rnd A (B * p) false = rnd (A / B) p (decide (A % B ≠ 0)) := by
  have q1 : A / (B * p) = A / B / p := (Nat.div_div_eq_div_mul A B p).symm
  have q2 : A % (B * p) = B * (A / B % p) + A % B := by
    rw [Nat.mod_mul]
    omega
  unfold rnd up
  rw [q1, q2]
  have hr : A % B < B := Nat.mod_lt _ hB
  have ht : A / B % p < p := Nat.mod_lt _ hp0
  generalize A / B / p = Q at *
  generalize hT : A / B % p = t at *
  generalize hR : A % B = r at *
  obtain ⟨k, rfl⟩ : ∃ k, p = 2 * k := ⟨p / 2, by omega⟩
  have key : ((B * (2 * k) < 2 * (B * t + r) ∨ (2 * (B * t + r) = B * (2 * k) ∧ (Q % 2 = 1 ∨ false = true))) ↔ (2 * k < 2 * t ∨ (2 * t = 2 * k ∧ (Q % 2 = 1 ∨ decide (r ≠ 0) = true)))) := by
    have m1 : B * (2 * k) = 2 * (B * k) := by rw [Nat.mul_left_comm]
    rw [m1]
    rcases Nat.lt_trichotomy t k with h | h | h
    · have : B * (t + 1) ≤ B * k := Nat.mul_le_mul_left _ h
      rw [Nat.mul_add] at this
      constructor
      · intro g; omega
      · intro g; omega
    · subst h
      simp
      omega
    · have : B * (k + 1) ≤ B * t := Nat.mul_le_mul_left _ h
      rw [Nat.mul_add] at this
      constructor
      · intro _; left; omega
      · intro _; left; omega
  simp only [key]

/-- from e on, the first exponent at which what is nearest has eighteen digits at most; noughts taken away -/
def fitF (g : Int → Int) : Nat → Int → Int × Int × Int
  | 0, _ => (0, 0, 4)
  | k + 1, e => if (g e).natAbs ≤ 999999999999999999 then (fC (g e) e, fE (g e) e, fR (g e) e) else fitF g k (e + 1)
theorem fitF_skip (g : Int → Int) : ∀ (j k : Nat) (e : Int), (∀ i : Nat, i < j → 999999999999999999 < (g (e + i)).natAbs) → fitF g (j + k) e = fitF g k (e + j)
  | 0, k, e, _ => by simp
  | j + 1, k, e, h => by
    have h0 := h 0 (by omega)
    rw [show j + 1 + k = (j + k) + 1 by omega, fitF, if_neg (by simp at h0; omega), fitF_skip g j k (e + 1) (fun i hi => by
      have := h (i + 1) (by omega)
      rw [show e + ((i + 1 : Nat) : Int) = e + 1 + i by omega] at this
      exact this)]
    congr 1
    omega
theorem fitF_hit (g : Int → Int) (k : Nat) (e : Int) (h : (g e).natAbs ≤ 999999999999999999) : fitF g (k + 1) e = (fC (g e) e, fE (g e) e, fR (g e) e) := by rw [fitF, if_pos h]
theorem sg_abs (b : Bool) (q : Nat) : (sg b q).natAbs = q := by unfold sg; cases b <;> simp
theorem sg_zero {b : Bool} {q : Nat} : sg b q = 0 ↔ q = 0 := by unfold sg; cases b <;> simp
theorem tz_18 (b : Bool) : tz (sg b 1000000000000000000) = 18 ∧ tc (sg b 1000000000000000000) = sg b 1 := by cases b <;> exact ⟨by decide +kernel, by decide +kernel⟩
theorem tz_17 (b : Bool) : tz (sg b 100000000000000000) = 17 ∧ tc (sg b 100000000000000000) = sg b 1 := by cases b <;> exact ⟨by decide +kernel, by decide +kernel⟩
theorem f_18 (b : Bool) (e : Int) : (fC (sg b 100000000000000000) (e + 1), fE (sg b 100000000000000000) (e + 1), fR (sg b 100000000000000000) (e + 1)) = (fC (sg b 1000000000000000000) e, fE (sg b 1000000000000000000) e, fR (sg b 1000000000000000000) e) := by
  unfold fC fE fR
  rw [(tz_17 b).1, (tz_17 b).2, (tz_18 b).1, (tz_18 b).2]
  have n1 : ¬ sg b 100000000000000000 = 0 := by rw [sg_zero]; omega
  have n2 : ¬ sg b 1000000000000000000 = 0 := by rw [sg_zero]; omega
  simp only [if_neg n1, if_neg n2]
  rw [show e + 1 + ((17 : Nat) : Int) = e + ((18 : Nat) : Int) by omega]
theorem f_far {q e : Int} (hq : q ≠ 0) (he : 40 < e) : (fC q e, fE q e, fR q e) = (0, 0, 4) := by
  unfold fC fE fR
  rw [if_neg hq, if_neg hq, if_neg hq, if_pos (by omega), if_pos (by omega), if_pos (by omega)]
/-- one digit less of what is rounded up to a one with noughts -/
theorem rnd_next {S p : Nat} {R : Bool} (hp : 0 < p) (hS : S < 1000000000000000000 * p) (h : rnd S p R = 1000000000000000000) : rnd S (p * 10) R = 100000000000000000 := by
  have d : S / p < 1000000000000000000 := Nat.div_lt_of_lt_mul (by rw [Nat.mul_comm]; exact hS)
  have hm := Nat.mod_lt S hp
  unfold rnd at h
  split at h
  · rename_i hu
    have dq : S / p = 999999999999999999 := by omega
    have t2 : p ≤ 2 * (S % p) := by
      unfold up at hu
      simp only [decide_eq_true_eq] at hu
      omega
    have e := Nat.div_add_mod S p
    rw [dq] at e
    have d2 : S / (p * 10) = 99999999999999999 := by rw [← Nat.div_div_eq_div_mul, dq]
    have e2 := Nat.div_add_mod S (p * 10)
    rw [d2] at e2
    unfold rnd
    rw [d2, if_pos (by unfold up; simp only [decide_eq_true_eq]; left; omega)]
  · omega
theorem fit_zero (b : Bool) (f : Int → Nat) (h : f (-40) = 0) (x : Int) : fitF (fun e => sg b (f e)) 121 (-40) = (fC (sg b 0) x, fE (sg b 0) x, fR (sg b 0) x) := by
  have z : sg b 0 = 0 := sg_zero.2 rfl
  rw [fitF_hit _ 120 (-40) (by simp [h, sg_abs])]
  simp only [h, z]
  unfold fC fE fR
  simp
theorem nQ_big {S : Nat} {x : Int} {R : Bool} (h1 : 1 ≤ S) (hS : S < 10 ^ 200) (hE : -40 < nE S x) : nQ S x R ≠ 0 := by
  obtain ⟨a, _, c, _⟩ := nd_spec h1 hS
  have hx : nE S x = x + nd S - 18 := by unfold nE at *; omega
  unfold nQ sc
  split
  · have := p10_pos (x - nE S x).toNat
    exact Nat.pos_iff_ne_zero.1 (Nat.mul_pos (by omega) this)
  · rename_i hs
    have hn : (-(x - nE S x)).toNat = nd S - 18 := by omega
    rw [hn]
    have l : 10 ^ (nd S - 18) ≤ S := Nat.le_trans (p10_le (by omega)) c
    have : 1 ≤ S / 10 ^ (nd S - 18) := (Nat.le_div_iff_mul_le (p10_pos _)).2 (by omega)
    unfold rnd
    split <;> omega
theorem nQ_le {S : Nat} {x : Int} {R : Bool} (h1 : 1 ≤ S) (hS : S < 10 ^ 200) : nQ S x R ≤ 1000000000000000000 ∧ (nQ S x R = 1000000000000000000 → sc S (x - (nE S x + 1)) R = 100000000000000000) := by
  obtain ⟨a, _, c, d⟩ := nd_spec h1 hS
  have hx : x + nd S - 18 ≤ nE S x := by unfold nE; omega
  have e18 : (1000000000000000000 : Nat) = 10 ^ 18 := by decide
  unfold nQ
  by_cases hs : 0 ≤ x - nE S x
  · have l : S * 10 ^ (x - nE S x).toNat < 10 ^ 18 := by
      have l1 : S * 10 ^ (x - nE S x).toNat < 10 ^ nd S * 10 ^ (x - nE S x).toNat := Nat.mul_lt_mul_of_pos_right d (p10_pos _)
      rw [← Nat.pow_add] at l1
      exact Nat.lt_of_lt_of_le l1 (p10_le (by omega))
    have e : sc S (x - nE S x) R = S * 10 ^ (x - nE S x).toNat := by unfold sc; rw [if_pos hs]
    rw [e, e18]
    exact ⟨by omega, fun g => by omega⟩
  · have e : sc S (x - nE S x) R = rnd S (10 ^ (-(x - nE S x)).toNat) R := by unfold sc; rw [if_neg hs]
    have e2 : sc S (x - (nE S x + 1)) R = rnd S (10 ^ (-(x - nE S x)).toNat * 10) R := by
      unfold sc
      rw [if_neg (by omega), ← Nat.pow_succ]
      congr 2
      omega
    have l : S < 1000000000000000000 * 10 ^ (-(x - nE S x)).toNat := by
      rw [e18, ← Nat.pow_add]
      exact Nat.lt_of_lt_of_le d (p10_le (by omega))
    rw [e, e2]
    have pp := p10_pos (-(x - nE S x)).toNat
    generalize 10 ^ (-(x - nE S x)).toNat = p at *
    refine ⟨?_, rnd_next pp l⟩
    have dd : S / p < 1000000000000000000 := Nat.div_lt_of_lt_mul (by rw [Nat.mul_comm]; exact l)
    unfold rnd
    split <;> omega
theorem fit_told (b : Bool) (S : Nat) (x : Int) (R : Bool) (f : Int → Nat) (h1 : 1 ≤ S) (hS : S < 10 ^ 200)
    (h : ∀ e, nE S x ≤ e → f e = sc S (x - e) R) (low : ∀ e, -40 ≤ e → e < nE S x → 1000000000000000000 ≤ f e) :
    fitF (fun e => sg b (f e)) 121 (-40) = (fC (sg b (nQ S x R)) (nE S x), fE (sg b (nQ S x R)) (nE S x), fR (sg b (nQ S x R)) (nE S x)) := by
  have hE : -40 ≤ nE S x := by unfold nE; omega
  have hq : f (nE S x) = nQ S x R := h _ (Int.le_refl _)
  obtain ⟨q1, q2⟩ := nQ_le (x := x) (R := R) h1 hS
  have skip : ∀ (j k : Nat), j + k = 121 → (j : Int) ≤ nE S x + 40 → fitF (fun e => sg b (f e)) 121 (-40) = fitF (fun e => sg b (f e)) k (-40 + j) := fun j k hjk hj => by
    rw [← hjk]
    refine fitF_skip _ j k (-40) fun i hi => ?_
    simp only [sg_abs]
    have := low (-40 + i) (by omega) (by omega)
    omega
  by_cases hbig : 80 < nE S x
  · rw [skip 121 0 rfl (by omega), fitF, f_far (by rw [Ne, sg_zero]; exact nQ_big h1 hS (by omega)) (by omega)]
  · obtain ⟨j, hj⟩ : ∃ j : Nat, nE S x = -40 + j := ⟨(nE S x + 40).toNat, by omega⟩
    rw [skip j (121 - j) (by omega) (by omega), ← hj, show 121 - j = (120 - j) + 1 by omega]
    by_cases hl : nQ S x R ≤ 999999999999999999
    · rw [fitF_hit _ _ _ (by simp only [sg_abs, hq]; exact hl)]
      simp only [hq]
    · have e18 : nQ S x R = 1000000000000000000 := by omega
      rw [fitF, if_neg (by simp only [sg_abs, hq]; omega), e18]
      by_cases h80 : nE S x = 80
      · rw [show 120 - j = 0 by omega, fitF, f_far (by rw [Ne, sg_zero]; omega) (by omega)]
      · have e17 : f (nE S x + 1) = 100000000000000000 := (h _ (by omega)).trans (q2 e18)
        rw [show 120 - j = (119 - j) + 1 by omega, fitF_hit _ _ _ (by simp only [sg_abs, e17]; omega)]
        simp only [e17]
        exact f_18 b _
end Dm

/- Walks: the document's answer: Rat2, Down, Nearest. -/
namespace Go.Proofs.YtbdgngfpofohpaaDoor
open Go.RowKit

theorem ten_at (n : Int) (w : World) (k : Nat) (hk : w.heap.size = k) (h1 : -200 ≤ n) (h2 : n ≤ 200) :
    Calls Tryd.prog 55 #[.int .i64 n] w fun e w' => e = .returned (.pointer (some ⟨k, 0, none⟩)) ∧ IA w' k 0 ((10 : Int) ^ n.toNat) ∧ Below w.heap.size w w' := by
  subst hk
  exact ten_any n w h1 h2

theorem pow_ne (k : Nat) : (10 : Int) ^ k ≠ 0 := Int.pow_ne_zero (by decide)

set_option maxHeartbeats 2000000 in
theorem rat2_any (e : Int) (w : World) (h1 : -200 ≤ e) (h2 : e ≤ 200) :
    Calls Tryd.prog 42 #[.int .i64 e] w fun r w' => r = .returned (.pointer (some ⟨w.heap.size, 0, none⟩)) ∧ RV w' w.heap.size ((10 : Int) ^ e.toNat) ((10 : Int) ^ (-e).toNat) ∧ Below w.heap.size w w' := by
  have N := below_new w (.cells #[.bool false, .slice none 0 0, .bool false, .slice none 0 0] 83)
  have l1 := Ln_ten e.toNat
  have l2 := Ln_ten (-e).toNat
  have HN := hide N
  clear N
  by_cases g : e < 0
  · have NI := hide (newInt_at 1 (w.alloc (.cells #[.bool false, .slice none 0 0, .bool false, .slice none 0 0] 83)) (w.heap.size + 1) (by simp) (by omega) (by omega))
    have SF := hide (frac_last (A := 1) (B := (10 : Int) ^ (-e).toNat) (N := (10 : Int) ^ e.toNat) (D := (10 : Int) ^ (-e).toNat) (ZA.newR w) (pow_ne _) (Nat.le_trans (Ln_small (by decide)) (by omega)) (by omega) (by rw [show e.toNat = 0 by omega, Int.pow_zero]) (Nat.le_refl _))
    have wr1 : IntKind.i64.wrap (-e) = -e := by rw [IntKind.wrap_i64]; omega
    clear l1 l2
    go_enter Tryd.func42, Tryd.ntmps42
    go_wp2_with fail
    refine (unhide NI).mono ?_
    rintro r w1 ⟨rfl, i1, hb1⟩
    have TN := hide (ten_any (-e) w1 (by omega) (by omega))
    have HI := hide i1
    have HB := hide hb1
    clear i1 hb1
    go_wp2_with fail
    refine (unhide TN).mono ?_
    rintro r w2 ⟨rfl, i2, hb2⟩
    have CF := hide (unhide SF w2 _ _ _ _ (below_step (unhide HB) hb2) ((unhide HI).below hb2) i2)
    clear i2 hb2
    go_wp2_with fail
    refine (unhide CF).mono ?_
    rintro r w3 ⟨rfl, hr, hk⟩
    have HR := hide hr
    have HK := hide hk
    clear hr hk
    go_wp2
    go_ret
    exact ⟨rfl, unhide HR, (unhide HN).trans ((unhide HK).below (Nat.le_refl _) (unhide HN).size)⟩
  · have TN := hide (ten_at e (w.alloc (.cells #[.bool false, .slice none 0 0, .bool false, .slice none 0 0] 83)) (w.heap.size + 1) (by simp) (by omega) (by omega))
    have HD : Hid ((10 : Int) ^ (-e).toNat = 1) := hide (by rw [show (-e).toNat = 0 by omega, Int.pow_zero])
    have HZ := hide (ZA.newR w)
    clear l2
    go_enter Tryd.func42, Tryd.ntmps42
    go_wp2_with fail
    refine (unhide TN).mono ?_
    rintro r w1 ⟨rfl, i1, hb1⟩
    have SI := hide (rsetInt_any w.heap.size (w.heap.size + 1) 0 ((10 : Int) ^ e.toNat) w1 ((unhide HZ).below hb1) i1 (by omega))
    have HB := hide (below_step (unhide HN) hb1)
    clear i1 hb1
    go_wp2_with fail
    refine (unhide SI).mono ?_
    rintro r w2 ⟨rfl, hr, hk⟩
    have HR := hide hr
    have HK := hide hk
    clear hr hk
    go_wp2
    go_ret
    rw [unhide HD]
    exact ⟨rfl, unhide HR, (unhide HB).trans ((unhide HK).below (Nat.le_refl _) (unhide HB).size)⟩

theorem div_ratio {n d N D : Int} (hd : 0 < d) (hD : 0 < D) (e : n * D = N * d) : n / d = N / D := by
  have a : n / d = (n * D) / (d * D) := (Int.mul_ediv_mul_of_pos_left n d hD).symm
  have b : N / D = (N * d) / (D * d) := (Int.mul_ediv_mul_of_pos_left N D hd).symm
  rw [a, b, e, Int.mul_comm d D]
end Go.Proofs.YtbdgngfpofohpaaDoor

/- Walks: the document's answer: Nearest. -/
namespace Go.Proofs.YtbdgngfpofohpaaDoor
open Go.RowKit

theorem nr_cases (N D : Int) : (D < 2 * (N % D) ∧ icmp ((N * 1 + -(N / D * D)) * 2) (1 * (D * 1)) = 1 ∧ Dm.nr N D = N / D + 1) ∨
    (2 * (N % D) = D ∧ icmp ((N * 1 + -(N / D * D)) * 2) (1 * (D * 1)) = 0 ∧ Dm.nr N D = (if N / D % 2 ≠ 0 then N / D + 1 else N / D)) ∨
    (2 * (N % D) < D ∧ icmp ((N * 1 + -(N / D * D)) * 2) (1 * (D * 1)) = -1 ∧ Dm.nr N D = N / D) := by
  have e : (N * 1 + -(N / D * D)) * 2 = 2 * (N % D) := by
    have := Int.mul_ediv_add_emod N D
    rw [Int.mul_comm D] at this
    omega
  rw [e, Int.mul_one, Int.one_mul]
  unfold Dm.nr icmp
  rcases Int.lt_trichotomy (2 * (N % D)) D with h | h | h
  · right; right
    refine ⟨h, if_pos h, if_neg (by omega)⟩
  · right; left
    refine ⟨h, by rw [if_neg (by omega), if_pos h], ?_⟩
    by_cases g : N / D % 2 ≠ 0
    · rw [if_pos (.inr ⟨h, g⟩), if_pos g]
    · rw [if_neg (by omega), if_neg g]
  · left
    exact ⟨h, by rw [if_neg (by omega), if_neg (by omega)], if_pos (.inl h)⟩
theorem Ln_div {N D : Int} (hD : 0 < D) : Ln (N / D) ≤ Ln N + 1 := by
  apply Ln_le
  have h1 := Ln_lt N
  have h2 : (N / D).natAbs ≤ N.natAbs + 1 := by
    rcases Int.lt_or_le N 0 with h | h
    · have a : N ≤ N / D := by
        have := Int.ediv_le_ediv hD (Int.le_refl N)
        exact Int.le_ediv_of_mul_le hD (by
          have : N * D ≤ N * 1 := Int.mul_le_mul_of_nonpos_left (by omega) (by omega)
          omega)
      have b : N / D < 0 := Int.ediv_neg_of_neg_of_pos h hD
      omega
    · have a : 0 ≤ N / D := Int.ediv_nonneg h (by omega)
      have b : N / D ≤ N := Int.ediv_le_self _ h
      omega
  have h3 : 4294967296 ^ Ln N * 1 < 4294967296 ^ Ln N * 4294967296 := Nat.mul_lt_mul_of_pos_left (by omega) (Nat.pow_pos (by omega))
  rw [Nat.pow_succ]
  omega
end Go.Proofs.YtbdgngfpofohpaaDoor

/- Walks: the document's answer: Fit. -/
namespace Go.Proofs.YtbdgngfpofohpaaDoor
open Go.RowKit

theorem rat2_at (e : Int) (w : World) (k : Nat) (hk : w.heap.size = k) (h1 : -200 ≤ e) (h2 : e ≤ 200) :
    Calls Tryd.prog 42 #[.int .i64 e] w fun r w' => r = .returned (.pointer (some ⟨k, 0, none⟩)) ∧ RV w' k ((10 : Int) ^ e.toNat) ((10 : Int) ^ (-e).toNat) ∧ Below w.heap.size w w' := by
  subst hk
  exact rat2_any e w h1 h2

/-- what is nearest to N over D in units of 10^e -/
def gq (N D : Int) (e : Int) : Int := Dm.nr (N * (10 : Int) ^ (-e).toNat) (D * (10 : Int) ^ e.toNat)
def fitT (N D : Int) : Int × Int × Int := Dm.fitF (gq N D) 121 (-40)
def toldT (t : Int × Int × Int) : Ending := .returned (.tuple #[.agg #[.int .i64 t.1, .int .i64 t.2.1], .int .i64 t.2.2])
theorem fit_hit {N D e0 q : Int} (hF : fitT N D = Dm.fitF (gq N D) (81 - e0).toNat e0) (hq : gq N D e0 = q) (h1 : e0 ≤ 80) (hl : q.natAbs ≤ 999999999999999999) : fitT N D = (Dm.fC q e0, Dm.fE q e0, Dm.fR q e0) := by
  rw [hF, show (81 - e0).toNat = (80 - e0).toNat + 1 by omega, Dm.fitF_hit _ _ _ (by rw [hq]; exact hl), hq]
theorem fit_next {N D e0 q : Int} (hF : fitT N D = Dm.fitF (gq N D) (81 - e0).toNat e0) (hq : gq N D e0 = q) (h1 : e0 ≤ 80) (hl : ¬ q.natAbs ≤ 999999999999999999) : fitT N D = Dm.fitF (gq N D) (81 - (e0 + 1)).toNat (e0 + 1) := by
  rw [hF, show (81 - e0).toNat = (81 - (e0 + 1)).toNat + 1 by omega, Dm.fitF, if_neg (by rw [hq]; exact hl)]
theorem fit_end {N D e0 : Int} (hF : fitT N D = Dm.fitF (gq N D) (81 - e0).toNat e0) (h1 : ¬ e0 ≤ 80) : fitT N D = (0, 0, 4) := by
  rw [hF, show (81 - e0).toNat = 0 by omega, Dm.fitF]
theorem sgnZ_ne {x : Int} (h : x ≠ 0) : (sgnZ x == 0) = false := by
  rcases Int.lt_trichotomy x 0 with g | g | g
  · unfold sgnZ; rw [if_pos g]; rfl
  · exact absurd g h
  · unfold sgnZ; rw [if_neg (by omega), if_neg h]; rfl
theorem tens_bd {q q1 : Int} {k : Nat} (h : q = Dm.tens q1 k) (h1 : q1 ≠ 0) (hl : q.natAbs ≤ 999999999999999999) : k ≤ 17 ∧ q1.natAbs ≤ 999999999999999999 := by
  have e : q.natAbs = q1.natAbs * 10 ^ k := by rw [h, Dm.tens_eq, Int.natAbs_mul, Int.natAbs_pow]; rfl
  have p := Dm.p10_pos k
  have a : 1 * 10 ^ k ≤ q1.natAbs * 10 ^ k := Nat.mul_le_mul_right _ (by omega)
  have b : q1.natAbs * 1 ≤ q1.natAbs * 10 ^ k := Nat.mul_le_mul_left _ (by omega)
  refine ⟨?_, by omega⟩
  rcases Nat.lt_or_ge k 18 with g | g
  · omega
  · have : 10 ^ 18 ≤ 10 ^ k := Dm.p10_le g
    omega
theorem tens_next {q q1 : Int} {k : Nat} (h : q = Dm.tens q1 k) (hz : q1 % 10 = 0) : q = Dm.tens (q1.tdiv 10) (k + 1) ∧ (q1 ≠ 0 → q1.tdiv 10 ≠ 0) := by
  have e : q1.tdiv 10 * 10 = q1 := Int.tdiv_mul_cancel (Int.dvd_of_emod_eq_zero hz)
  refine ⟨?_, fun h1 h2 => h1 (by rw [← e, h2]; rfl)⟩
  rw [h, Dm.tens_eq, Dm.tens_eq, Int.pow_succ, ← Int.mul_assoc, Int.mul_right_comm, e]
theorem tens_last {q q1 : Int} {k : Nat} (h : q = Dm.tens q1 k) (hz : ¬ q1 % 10 = 0) (hl : q.natAbs ≤ 999999999999999999) : Dm.tz q = k ∧ Dm.tc q = q1 := by
  refine Dm.tz_at h (fun g => hz ?_) (by omega)
  have := Int.dvd_of_tmod_eq_zero g
  exact Int.emod_eq_zero_of_dvd this
end Go.Proofs.YtbdgngfpofohpaaDoor
