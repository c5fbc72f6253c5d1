/- Plain: what is nearest to a ratio, and the first exponent at which it has eighteen digits. -/
import Derived.Test.YtibkemolmpcdcaaGreatDoorG10
import Derived.Test.YtibkemolmpcdcaaGreatDoorG02
import Derived.Test.YtibkemolmpcdcaaGreatDoorG09
namespace Dm

/-- the whole number nearest to N over D, a half to the even one -/
def nr (N D : Int) : Int := if D < 2 * (N % D) ∨ (2 * (N % D) = D ∧ N / D % 2 ≠ 0) then N / D + 1 else N / D
theorem nr_nat (A B : Nat) : nr (A : Int) (B : Int) = (rnd A B false : Nat) := by
  unfold nr rnd up
  have e1 : (A : Int) % (B : Int) = ((A % B : Nat) : Int) := by simp
  have e2 : (A : Int) / (B : Int) = ((A / B : Nat) : Int) := by simp
  rw [e1, e2]
  by_cases h : B < 2 * (A % B) ∨ (2 * (A % B) = B ∧ A / B % 2 = 1)
  · rw [if_pos (by omega), if_pos (by simpa using h)]
    simp
  · rw [if_neg (by omega), if_neg (by simpa using h)]
theorem nr_neg (N : Int) {D : Int} (hD : 0 < D) : nr (-N) D = -nr N D := by
  have h1 := Int.mul_ediv_add_emod N D
  have h2 := Int.emod_nonneg N (show D ≠ 0 by omega)
  have h3 := Int.emod_lt_of_pos N hD
  have key : ∀ q r : Int, 0 ≤ r → r < D → -N = D * q + r → (-N) / D = q ∧ (-N) % D = r := fun q r g0 g1 g => by
    have a : (-N) % D = r := by rw [g, Int.mul_add_emod_self_left]; exact Int.emod_eq_of_lt g0 g1
    refine ⟨?_, a⟩
    have b := Int.mul_ediv_add_emod (-N) D
    rw [a] at b
    have c : D * (-N / D) = D * q := by omega
    exact Int.eq_of_mul_eq_mul_left (by omega) c
  unfold nr
  generalize hq : N / D = q at *
  generalize hr : N % D = r at *
  by_cases h0 : r = 0
  · obtain ⟨a, b⟩ := key (-q) 0 (by omega) hD (by rw [Int.mul_neg]; omega)
    rw [a, b]
    rw [if_neg (by omega), if_neg (by omega)]
  · obtain ⟨a, b⟩ := key (-q - 1) (D - r) (by omega) (by omega) (by rw [Int.mul_sub, Int.mul_neg, Int.mul_one]; omega)
    rw [a, b]
    by_cases c : D < 2 * r ∨ (2 * r = D ∧ q % 2 ≠ 0)
    · rw [if_neg (by omega), if_pos c]
      omega
    · rw [if_pos (by omega), if_neg c]
      omega
theorem nr_sg (b : Bool) (A B : Nat) (hB : 0 < B) : nr (sg b A) (B : Int) = sg b (rnd A B false) := by
  unfold sg
  cases b
  · simp [nr_nat]
  · simp only [if_true]
    rw [nr_neg _ (by omega), nr_nat]
theorem rnd_mul (A B k : Nat) (R : Bool) (hk : 0 < k) : rnd (A * k) (B * k) R = rnd A B R := by
  unfold rnd up
  have e1 : A * k / (B * k) = A / B := Nat.mul_div_mul_right _ _ hk
  have e2 : A * k % (B * k) = A % B * k := Nat.mul_mod_mul_right _ _ _
  rw [e1, e2]
  have e3 : (B * k < 2 * (A % B * k)) ↔ B < 2 * (A % B) := by
    rw [← Nat.mul_assoc]
    exact Nat.mul_lt_mul_right hk
  have e4 : (2 * (A % B * k) = B * k) ↔ 2 * (A % B) = B := by
    rw [← Nat.mul_assoc]
    exact ⟨fun h => Nat.eq_of_mul_eq_mul_right hk h, fun h => by rw [h]⟩
  simp only [e3, e4]
theorem rnd_ratio {A B C D : Nat} (hB : 0 < B) (hD : 0 < D) (h : A * D = C * B) : rnd A B false = rnd C D false := by
  rw [← rnd_mul A B D false hD, ← rnd_mul C D B false hB, h, Nat.mul_comm D B]
/-- what a rest says is what the whole says, where an even number is dropped -/
theorem rnd_rest (A B p : Nat) (hB : 0 < B) (hp : p % 2 = 0) (hp0 : 0 < p) : rnd A (B * p) false = rnd (A / B) p (decide (A % B ≠ 0)) := by
  have q1 : A / (B * p) = A / B / p := (Nat.div_div_eq_div_mul A B p).symm
  have q2 : A % (B * p) = B * (A / B % p) + A % B := by
    rw [Nat.mod_mul]
    omega
  unfold rnd up
  rw [q1, q2]
  have hr : A % B < B := Nat.mod_lt _ hB
  have ht : A / B % p < p := Nat.mod_lt _ hp0
  generalize A / B / p = Q at *
  generalize hT : A / B % p = t at *
  generalize hR : A % B = r at *
  obtain ⟨k, rfl⟩ : ∃ k, p = 2 * k := ⟨p / 2, by omega⟩
  have key : ((B * (2 * k) < 2 * (B * t + r) ∨ (2 * (B * t + r) = B * (2 * k) ∧ (Q % 2 = 1 ∨ false = true))) ↔ (2 * k < 2 * t ∨ (2 * t = 2 * k ∧ (Q % 2 = 1 ∨ decide (r ≠ 0) = true)))) := by
    have m1 : B * (2 * k) = 2 * (B * k) := by rw [Nat.mul_left_comm]
    rw [m1]
    rcases Nat.lt_trichotomy t k with h | h | h
    · have : B * (t + 1) ≤ B * k := Nat.mul_le_mul_left _ h
      rw [Nat.mul_add] at this
      constructor
      · intro g; omega
      · intro g; omega
    · subst h
      simp
      omega
    · have : B * (k + 1) ≤ B * t := Nat.mul_le_mul_left _ h
      rw [Nat.mul_add] at this
      constructor
      · intro _; left; omega
      · intro _; left; omega
  simp only [key]

/-- from e on, the first exponent at which what is nearest has eighteen digits at most; noughts taken away -/
def fitF (g : Int → Int) : Nat → Int → Int × Int × Int
  | 0, _ => (0, 0, 4)
  | k + 1, e => if (g e).natAbs ≤ 999999999999999999 then (fC (g e) e, fE (g e) e, fR (g e) e) else fitF g k (e + 1)
theorem fitF_skip (g : Int → Int) : ∀ (j k : Nat) (e : Int), (∀ i : Nat, i < j → 999999999999999999 < (g (e + i)).natAbs) → fitF g (j + k) e = fitF g k (e + j)
  | 0, k, e, _ => by simp
  | j + 1, k, e, h => by
    have h0 := h 0 (by omega)
    rw [show j + 1 + k = (j + k) + 1 by omega, fitF, if_neg (by simp at h0; omega), fitF_skip g j k (e + 1) (fun i hi => by
      have := h (i + 1) (by omega)
      rw [show e + ((i + 1 : Nat) : Int) = e + 1 + i by omega] at this
      exact this)]
    congr 1
    omega
theorem fitF_hit (g : Int → Int) (k : Nat) (e : Int) (h : (g e).natAbs ≤ 999999999999999999) : fitF g (k + 1) e = (fC (g e) e, fE (g e) e, fR (g e) e) := by rw [fitF, if_pos h]
theorem sg_abs (b : Bool) (q : Nat) : (sg b q).natAbs = q := by unfold sg; cases b <;> simp
theorem sg_zero {b : Bool} {q : Nat} : sg b q = 0 ↔ q = 0 := by unfold sg; cases b <;> simp
theorem tz_18 (b : Bool) : tz (sg b 1000000000000000000) = 18 ∧ tc (sg b 1000000000000000000) = sg b 1 := by cases b <;> exact ⟨by decide +kernel, by decide +kernel⟩
theorem tz_17 (b : Bool) : tz (sg b 100000000000000000) = 17 ∧ tc (sg b 100000000000000000) = sg b 1 := by cases b <;> exact ⟨by decide +kernel, by decide +kernel⟩
theorem f_18 (b : Bool) (e : Int) : (fC (sg b 100000000000000000) (e + 1), fE (sg b 100000000000000000) (e + 1), fR (sg b 100000000000000000) (e + 1)) = (fC (sg b 1000000000000000000) e, fE (sg b 1000000000000000000) e, fR (sg b 1000000000000000000) e) := by
  unfold fC fE fR
  rw [(tz_17 b).1, (tz_17 b).2, (tz_18 b).1, (tz_18 b).2]
  have n1 : ¬ sg b 100000000000000000 = 0 := by rw [sg_zero]; omega
  have n2 : ¬ sg b 1000000000000000000 = 0 := by rw [sg_zero]; omega
  simp only [if_neg n1, if_neg n2]
  rw [show e + 1 + ((17 : Nat) : Int) = e + ((18 : Nat) : Int) by omega]
theorem f_far {q e : Int} (hq : q ≠ 0) (he : 40 < e) : (fC q e, fE q e, fR q e) = (0, 0, 4) := by
  unfold fC fE fR
  rw [if_neg hq, if_neg hq, if_neg hq, if_pos (by omega), if_pos (by omega), if_pos (by omega)]
/-- one digit less of what is rounded up to a one with noughts -/
theorem rnd_next {S p : Nat} {R : Bool} (hp : 0 < p) (hS : S < 1000000000000000000 * p) (h : rnd S p R = 1000000000000000000) : rnd S (p * 10) R = 100000000000000000 := by
  have d : S / p < 1000000000000000000 := Nat.div_lt_of_lt_mul (by rw [Nat.mul_comm]; exact hS)
  have hm := Nat.mod_lt S hp
  unfold rnd at h
  split at h
  · rename_i hu
    have dq : S / p = 999999999999999999 := by omega
    have t2 : p ≤ 2 * (S % p) := by
      unfold up at hu
      simp only [decide_eq_true_eq] at hu
      omega
    have e := Nat.div_add_mod S p
    rw [dq] at e
    have d2 : S / (p * 10) = 99999999999999999 := by rw [← Nat.div_div_eq_div_mul, dq]
    have e2 := Nat.div_add_mod S (p * 10)
    rw [d2] at e2
    unfold rnd
    rw [d2, if_pos (by unfold up; simp only [decide_eq_true_eq]; left; omega)]
  · omega
theorem fit_zero (b : Bool) (f : Int → Nat) (h : f (-40) = 0) (x : Int) : fitF (fun e => sg b (f e)) 121 (-40) = (fC (sg b 0) x, fE (sg b 0) x, fR (sg b 0) x) := by
  have z : sg b 0 = 0 := sg_zero.2 rfl
  rw [fitF_hit _ 120 (-40) (by simp [h, sg_abs])]
  simp only [h, z]
  unfold fC fE fR
  simp
theorem nQ_big {S : Nat} {x : Int} {R : Bool} (h1 : 1 ≤ S) (hS : S < 10 ^ 200) (hE : -40 < nE S x) : nQ S x R ≠ 0 := by
  obtain ⟨a, _, c, _⟩ := nd_spec h1 hS
  have hx : nE S x = x + nd S - 18 := by unfold nE at *; omega
  unfold nQ sc
  split
  · have := p10_pos (x - nE S x).toNat
    exact Nat.pos_iff_ne_zero.1 (Nat.mul_pos (by omega) this)
  · rename_i hs
    have hn : (-(x - nE S x)).toNat = nd S - 18 := by omega
    rw [hn]
    have l : 10 ^ (nd S - 18) ≤ S := Nat.le_trans (p10_le (by omega)) c
    have : 1 ≤ S / 10 ^ (nd S - 18) := (Nat.le_div_iff_mul_le (p10_pos _)).2 (by omega)
    unfold rnd
    split <;> omega
theorem nQ_le {S : Nat} {x : Int} {R : Bool} (h1 : 1 ≤ S) (hS : S < 10 ^ 200) : nQ S x R ≤ 1000000000000000000 ∧ (nQ S x R = 1000000000000000000 → sc S (x - (nE S x + 1)) R = 100000000000000000) := by
  obtain ⟨a, _, c, d⟩ := nd_spec h1 hS
  have hx : x + nd S - 18 ≤ nE S x := by unfold nE; omega
  have e18 : (1000000000000000000 : Nat) = 10 ^ 18 := by decide
  unfold nQ
  by_cases hs : 0 ≤ x - nE S x
  · have l : S * 10 ^ (x - nE S x).toNat < 10 ^ 18 := by
      have l1 : S * 10 ^ (x - nE S x).toNat < 10 ^ nd S * 10 ^ (x - nE S x).toNat := Nat.mul_lt_mul_of_pos_right d (p10_pos _)
      rw [← Nat.pow_add] at l1
      exact Nat.lt_of_lt_of_le l1 (p10_le (by omega))
    have e : sc S (x - nE S x) R = S * 10 ^ (x - nE S x).toNat := by unfold sc; rw [if_pos hs]
    rw [e, e18]
    exact ⟨by omega, fun g => by omega⟩
  · have e : sc S (x - nE S x) R = rnd S (10 ^ (-(x - nE S x)).toNat) R := by unfold sc; rw [if_neg hs]
    have e2 : sc S (x - (nE S x + 1)) R = rnd S (10 ^ (-(x - nE S x)).toNat * 10) R := by
      unfold sc
      rw [if_neg (by omega), ← Nat.pow_succ]
      congr 2
      omega
    have l : S < 1000000000000000000 * 10 ^ (-(x - nE S x)).toNat := by
      rw [e18, ← Nat.pow_add]
      exact Nat.lt_of_lt_of_le d (p10_le (by omega))
    rw [e, e2]
    have pp := p10_pos (-(x - nE S x)).toNat
    generalize 10 ^ (-(x - nE S x)).toNat = p at *
    refine ⟨?_, rnd_next pp l⟩
    have dd : S / p < 1000000000000000000 := Nat.div_lt_of_lt_mul (by rw [Nat.mul_comm]; exact l)
    unfold rnd
    split <;> omega
theorem fit_told (b : Bool) (S : Nat) (x : Int) (R : Bool) (f : Int → Nat) (h1 : 1 ≤ S) (hS : S < 10 ^ 200)
    (h : ∀ e, nE S x ≤ e → f e = sc S (x - e) R) (low : ∀ e, -40 ≤ e → e < nE S x → 1000000000000000000 ≤ f e) :
    fitF (fun e => sg b (f e)) 121 (-40) = (fC (sg b (nQ S x R)) (nE S x), fE (sg b (nQ S x R)) (nE S x), fR (sg b (nQ S x R)) (nE S x)) := by
  have hE : -40 ≤ nE S x := by unfold nE; omega
  have hq : f (nE S x) = nQ S x R := h _ (Int.le_refl _)
  obtain ⟨q1, q2⟩ := nQ_le (x := x) (R := R) h1 hS
  have skip : ∀ (j k : Nat), j + k = 121 → (j : Int) ≤ nE S x + 40 → fitF (fun e => sg b (f e)) 121 (-40) = fitF (fun e => sg b (f e)) k (-40 + j) := fun j k hjk hj => by
    rw [← hjk]
    refine fitF_skip _ j k (-40) fun i hi => ?_
    simp only [sg_abs]
    have := low (-40 + i) (by omega) (by omega)
    omega
  by_cases hbig : 80 < nE S x
  · rw [skip 121 0 rfl (by omega), fitF, f_far (by rw [Ne, sg_zero]; exact nQ_big h1 hS (by omega)) (by omega)]
  · obtain ⟨j, hj⟩ : ∃ j : Nat, nE S x = -40 + j := ⟨(nE S x + 40).toNat, by omega⟩
    rw [skip j (121 - j) (by omega) (by omega), ← hj, show 121 - j = (120 - j) + 1 by omega]
    by_cases hl : nQ S x R ≤ 999999999999999999
    · rw [fitF_hit _ _ _ (by simp only [sg_abs, hq]; exact hl)]
      simp only [hq]
    · have e18 : nQ S x R = 1000000000000000000 := by omega
      rw [fitF, if_neg (by simp only [sg_abs, hq]; omega), e18]
      by_cases h80 : nE S x = 80
      · rw [show 120 - j = 0 by omega, fitF, f_far (by rw [Ne, sg_zero]; omega) (by omega)]
      · have e17 : f (nE S x + 1) = 100000000000000000 := (h _ (by omega)).trans (q2 e18)
        rw [show 120 - j = (119 - j) + 1 by omega, fitF_hit _ _ _ (by simp only [sg_abs, e17]; omega)]
        simp only [e17]
        exact f_18 b _
end Dm

/- Walks: the document's answer: Rat2, Down, Nearest. -/
namespace Go.Proofs.YtibkemolmpcdcaaGreatDoor
open Go.RowKit

theorem ten_at (n : Int) (w : World) (k : Nat) (hk : w.heap.size = k) (h1 : -200 ≤ n) (h2 : n ≤ 200) :
    Calls Tryz.prog 62 #[.int .i64 n] w fun e w' => e = .returned (.pointer (some ⟨k, 0, none⟩)) ∧ IA w' k 0 ((10 : Int) ^ n.toNat) ∧ Below w.heap.size w w' := by
  subst hk
  exact ten_any n w h1 h2

theorem denom_at (p : Nat) (n d : Int) (w : World) (k : Nat) (hk : w.heap.size = k) (h : RQ w p n d) (ld : Ln d ≤ 90000) :
    Calls Tryz.prog 90 #[.pointer (some ⟨p, 0, none⟩)] w fun e w' => e = .returned (.pointer (some ⟨k, 0, none⟩)) ∧ IA w' k 0 d ∧ Below w.heap.size w w' := by
  subst hk
  exact denom_any p n d w h ld

theorem pow_ne (k : Nat) : (10 : Int) ^ k ≠ 0 := Int.pow_ne_zero (by decide)

set_option maxHeartbeats 2000000 in
theorem rat2_any (e : Int) (w : World) (h1 : -200 ≤ e) (h2 : e ≤ 200) :
    Calls Tryz.prog 37 #[.int .i64 e] w fun r w' => r = .returned (.pointer (some ⟨w.heap.size, 0, none⟩)) ∧ RV w' w.heap.size ((10 : Int) ^ e.toNat) ((10 : Int) ^ (-e).toNat) ∧ Below w.heap.size w w' := by
  have N := below_new w (.cells #[.bool false, .slice none 0 0, .bool false, .slice none 0 0] 45)
  have l1 := Ln_ten e.toNat
  have l2 := Ln_ten (-e).toNat
  have HN := hide N
  clear N
  by_cases g : e < 0
  · have NI := hide (newInt_at 1 (w.alloc (.cells #[.bool false, .slice none 0 0, .bool false, .slice none 0 0] 45)) (w.heap.size + 1) (by simp) (by omega) (by omega))
    have SF := hide (frac_last (A := 1) (B := (10 : Int) ^ (-e).toNat) (N := (10 : Int) ^ e.toNat) (D := (10 : Int) ^ (-e).toNat) (ZA.newR w) (pow_ne _) (Nat.le_trans (Ln_small (by decide)) (by omega)) (by omega) (by rw [show e.toNat = 0 by omega, Int.pow_zero]) (Nat.le_refl _))
    have wr1 : IntKind.i64.wrap (-e) = -e := by rw [IntKind.wrap_i64]; omega
    clear l1 l2
    go_enter Tryz.func37, Tryz.ntmps37
    go_wp2_with fail
    refine (unhide NI).mono ?_
    rintro r w1 ⟨rfl, i1, hb1⟩
    have TN := hide (ten_any (-e) w1 (by omega) (by omega))
    have HI := hide i1
    have HB := hide hb1
    clear i1 hb1
    go_wp2_with fail
    refine (unhide TN).mono ?_
    rintro r w2 ⟨rfl, i2, hb2⟩
    have CF := hide (unhide SF w2 _ _ _ _ (below_step (unhide HB) hb2) ((unhide HI).below hb2) i2)
    clear i2 hb2
    go_wp2_with fail
    refine (unhide CF).mono ?_
    rintro r w3 ⟨rfl, hr, hk⟩
    have HR := hide hr
    have HK := hide hk
    clear hr hk
    go_wp2
    go_ret
    exact ⟨rfl, unhide HR, (unhide HN).trans ((unhide HK).below (Nat.le_refl _) (unhide HN).size)⟩
  · have TN := hide (ten_at e (w.alloc (.cells #[.bool false, .slice none 0 0, .bool false, .slice none 0 0] 45)) (w.heap.size + 1) (by simp) (by omega) (by omega))
    have HD : Hid ((10 : Int) ^ (-e).toNat = 1) := hide (by rw [show (-e).toNat = 0 by omega, Int.pow_zero])
    have HZ := hide (ZA.newR w)
    clear l2
    go_enter Tryz.func37, Tryz.ntmps37
    go_wp2_with fail
    refine (unhide TN).mono ?_
    rintro r w1 ⟨rfl, i1, hb1⟩
    have SI := hide (rsetInt_any w.heap.size (w.heap.size + 1) 0 ((10 : Int) ^ e.toNat) w1 ((unhide HZ).below hb1) i1 (by omega))
    have HB := hide (below_step (unhide HN) hb1)
    clear i1 hb1
    go_wp2_with fail
    refine (unhide SI).mono ?_
    rintro r w2 ⟨rfl, hr, hk⟩
    have HR := hide hr
    have HK := hide hk
    clear hr hk
    go_wp2
    go_ret
    rw [unhide HD]
    exact ⟨rfl, unhide HR, (unhide HB).trans ((unhide HK).below (Nat.le_refl _) (unhide HB).size)⟩

theorem div_ratio {n d N D : Int} (hd : 0 < d) (hD : 0 < D) (e : n * D = N * d) : n / d = N / D := by
  have a : n / d = (n * D) / (d * D) := (Int.mul_ediv_mul_of_pos_left n d hD).symm
  have b : N / D = (N * d) / (D * d) := (Int.mul_ediv_mul_of_pos_left N D hd).symm
  rw [a, b, e, Int.mul_comm d D]

set_option maxHeartbeats 2000000 in
theorem down_any (p : Nat) (N D : Int) (w : World) (hr : RV w p N D) (hD : 0 < D) (lN : Ln N ≤ 20000) (lD : Ln D ≤ 20000) :
    Calls Tryz.prog 64 #[.pointer (some ⟨p, 0, none⟩)] w fun e w' => e = .returned (.pointer (some ⟨w.heap.size, 0, none⟩)) ∧ IA w' w.heap.size 0 (N / D) ∧ Below w.heap.size w w' := by
  obtain ⟨n, d, q, e1, g1⟩ := hr
  have ln := Ln_mono (ratio_le (by omega) e1 g1)
  have ld := Ln_mono g1
  have hd := q.pos
  have HE := hide (div_ratio hd hD e1)
  have N1 := below_new w (.cells #[.bool false, .slice none 0 0] 43)
  have N2 := below_new (w.alloc (.cells #[.bool false, .slice none 0 0] 43)) (.cells #[.bool false, .slice none 0 0] 43)
  have z1 := (ZA.new w).below N2
  have z2 : ZA ((w.alloc (.cells #[.bool false, .slice none 0 0] 43)).alloc (.cells #[.bool false, .slice none 0 0] 43)) (w.heap.size + 1) 0 := by
    have := ZA.new (w.alloc (.cells #[.bool false, .slice none 0 0] 43))
    rwa [show (w.alloc (.cells #[.bool false, .slice none 0 0] 43)).heap.size = w.heap.size + 1 by simp] at this
  have B2 := below_step N1 N2
  have q2 := q.below B2
  have NU := hide (num_any p ((w.alloc (.cells #[.bool false, .slice none 0 0] 43)).alloc (.cells #[.bool false, .slice none 0 0] 43)))
  have DE := hide (denom_at p n d _ (w.heap.size + 2) (by simp) q2 (by omega))
  have HQ := hide q2
  have HZ1 := hide z1
  have HZ2 := hide z2
  have HB := hide B2
  clear q e1 g1 N1 N2 z1 z2 B2 q2
  go_enter Tryz.func64, Tryz.ntmps64
  go_wp2_with fail
  refine (unhide NU).mono ?_
  rintro e w1 ⟨rfl, rfl⟩
  go_wp2_with fail
  refine (unhide DE).mono ?_
  rintro e w2 ⟨rfl, i2, hb2⟩
  have DM := hide (divMod_any w.heap.size 0 p 0 (w.heap.size + 2) 0 (w.heap.size + 1) 0 n d w2 ((unhide HZ1).below hb2) ((unhide HZ2).below hb2) (.inl (by omega)) ((unhide HQ).num.below hb2) i2 (by omega) (by unfold Ln at *; omega) (by unfold Ln at *; omega))
  have HB2 := hide (below_step (unhide HB) hb2)
  clear i2 hb2
  go_wp2_with fail
  refine (unhide DM).mono ?_
  rintro e w3 ⟨rfl, i3, -, hk3⟩
  have HI := hide i3
  have HK := hide hk3
  clear i3 hk3
  go_wp2
  go_ret
  rw [← unhide HE]
  exact ⟨rfl, unhide HI, (unhide HB2).trans ((unhide HK).low (by omega) (by omega) (unhide HB2).size)⟩
end Go.Proofs.YtibkemolmpcdcaaGreatDoor

/- Walks: the document's answer: Nearest. -/
namespace Go.Proofs.YtibkemolmpcdcaaGreatDoor
open Go.RowKit

theorem nr_cases (N D : Int) : (D < 2 * (N % D) ∧ icmp ((N * 1 + -(N / D * D)) * 2) (1 * (D * 1)) = 1 ∧ Dm.nr N D = N / D + 1) ∨
    (2 * (N % D) = D ∧ icmp ((N * 1 + -(N / D * D)) * 2) (1 * (D * 1)) = 0 ∧ Dm.nr N D = (if N / D % 2 ≠ 0 then N / D + 1 else N / D)) ∨
    (2 * (N % D) < D ∧ icmp ((N * 1 + -(N / D * D)) * 2) (1 * (D * 1)) = -1 ∧ Dm.nr N D = N / D) := by
  have e : (N * 1 + -(N / D * D)) * 2 = 2 * (N % D) := by
    have := Int.mul_ediv_add_emod N D
    rw [Int.mul_comm D] at this
    omega
  rw [e, Int.mul_one, Int.one_mul]
  unfold Dm.nr icmp
  rcases Int.lt_trichotomy (2 * (N % D)) D with h | h | h
  · right; right
    refine ⟨h, if_pos h, if_neg (by omega)⟩
  · right; left
    refine ⟨h, by rw [if_neg (by omega), if_pos h], ?_⟩
    by_cases g : N / D % 2 ≠ 0
    · rw [if_pos (.inr ⟨h, g⟩), if_pos g]
    · rw [if_neg (by omega), if_neg g]
  · left
    exact ⟨h, by rw [if_neg (by omega), if_neg (by omega)], if_pos (.inl h)⟩
theorem Ln_div {N D : Int} (hD : 0 < D) : Ln (N / D) ≤ Ln N + 1 := by
  apply Ln_le
  have h1 := Ln_lt N
  have h2 : (N / D).natAbs ≤ N.natAbs + 1 := by
    rcases Int.lt_or_le N 0 with h | h
    · have a : N ≤ N / D := by
        have := Int.ediv_le_ediv hD (Int.le_refl N)
        exact Int.le_ediv_of_mul_le hD (by
          have : N * D ≤ N * 1 := Int.mul_le_mul_of_nonpos_left (by omega) (by omega)
          omega)
      have b : N / D < 0 := Int.ediv_neg_of_neg_of_pos h hD
      omega
    · have a : 0 ≤ N / D := Int.ediv_nonneg h (by omega)
      have b : N / D ≤ N := Int.ediv_le_self _ h
      omega
  have h3 : 4294967296 ^ Ln N * 1 < 4294967296 ^ Ln N * 4294967296 := Nat.mul_lt_mul_of_pos_left (by omega) (Nat.pow_pos (by omega))
  rw [Nat.pow_succ]
  omega

set_option maxRecDepth 100000 in
set_option maxHeartbeats 4000000 in
theorem nearest_any (p : Nat) (N D : Int) (w : World) (hr : RV w p N D) (hD : 0 < D) (lN : Ln N ≤ 6000) (lD : Ln D ≤ 6000) :
    Calls Tryz.prog 38 #[.pointer (some ⟨p, 0, none⟩)] w fun e w' => e = .returned (.pointer (some ⟨w.heap.size, 0, none⟩)) ∧ IA w' w.heap.size 0 (Dm.nr N D) ∧ Below w.heap.size w w' := by
  have DN := hide (down_any p N D w hr hD (by omega) (by omega))
  have lq := Ln_div (N := N) hD
  have HC := hide (nr_cases N D)
  have HR := hide hr
  have lp := hr.place.low
  have t1 := Ln_add (N * 1) (-(N / D * D))
  have t2 := Ln_neg (N / D * D)
  have t3 := Ln_mul (N / D) D
  have t4 : Ln (N * 1) = Ln N := by rw [Int.mul_one]
  have t5 : Ln (D * 1) = Ln D := by rw [Int.mul_one]
  have HD := hide hD
  obtain ⟨q, hq⟩ : ∃ q, N / D = q := ⟨_, rfl⟩
  rw [hq] at DN lq HC t1 t2 t3
  have HQ := hide hq
  clear hr hq hD
  go_enter Tryz.func38, Tryz.ntmps38
  go_wp2_with fail
  refine (unhide DN).mono ?_
  rintro e w1 ⟨rfl, i1, hb1⟩
  have s1 := hb1.size
  have N1 := below_new w1 (.cells #[.bool false, .slice none 0 0, .bool false, .slice none 0 0] 45)
  have N2 := below_new (w1.alloc (.cells #[.bool false, .slice none 0 0, .bool false, .slice none 0 0] 45)) (.cells #[.bool false, .slice none 0 0, .bool false, .slice none 0 0] 45)
  have B2 := below_step N1 N2
  have z1 := (ZA.newR w1).below N2
  have z2 : ZA ((w1.alloc (.cells #[.bool false, .slice none 0 0, .bool false, .slice none 0 0] 45)).alloc (.cells #[.bool false, .slice none 0 0, .bool false, .slice none 0 0] 45)) (w1.heap.size + 1) 2 := by
    have := ZA.newR (w1.alloc (.cells #[.bool false, .slice none 0 0, .bool false, .slice none 0 0] 45))
    rwa [show (w1.alloc (.cells #[.bool false, .slice none 0 0, .bool false, .slice none 0 0] 45)).heap.size = w1.heap.size + 1 by simp] at this
  have SI := hide (rsetInt_any (w1.heap.size + 1) w.heap.size 0 q _ z2 (i1.below B2) (by omega))
  have HI := hide (i1.below B2)
  have HR2 := hide (((unhide HR).below hb1).below B2)
  have li := i1.place.low
  have HZ1 := hide z1
  have HZ2 := hide z2
  have HB := hide (below_step hb1 B2)
  clear i1 hb1 N1 N2 B2 z1 z2 DN HR
  go_wp2_with fail
  refine (unhide SI).mono ?_
  rintro e w2 ⟨rfl, r2, k2⟩
  have SU := hide (rsub_any w1.heap.size p (w1.heap.size + 1) N D q 1 w2 ((unhide HZ1).blk k2) ((unhide HR2).kept (Kept.blk' k2 (unhide HZ2) (unhide HR2).place.low (by omega))) r2 (by have := unhide HD; omega) (by omega) (by omega) (by omega) (by omega) (Nat.le_trans (Ln_small (by decide)) (by omega)))
  have HI2 := hide ((unhide HI).blk k2 (unhide HZ2) (by omega))
  have HZ3 := hide ((unhide HZ1).blk k2)
  have HB2 := hide ((unhide HB).trans (k2.below (by omega) (unhide HB).size))
  clear r2 k2 SI HI HZ1 HZ2 HR2 HB
  go_wp2_with fail
  refine (unhide SU).mono ?_
  rintro e w3 ⟨rfl, r3, k3⟩
  have s3 := k3.size
  have NR := hide (newRat_any 1 2 w3 (by omega) (by omega) (by omega) (by omega))
  have HI3 := hide ((unhide HI2).blk k3 (unhide HZ3) (by omega))
  have HB3 := hide ((unhide HB2).trans (k3.below (by omega) (unhide HB2).size))
  have HR3 := hide r3
  have lw3 := (unhide HB3).size
  clear r3 k3 SU HI2 HZ3 HB2
  go_wp2_with fail
  refine (unhide NR).mono ?_
  rintro e w4 ⟨rfl, r4, hb4⟩
  have CM := hide (rcmp_any w1.heap.size w3.heap.size (N * 1 + -(q * D)) (D * 1) 1 2 w4 ((unhide HR3).below hb4) r4 (by rw [Int.mul_one]; exact unhide HD) (by omega) (by omega) (by omega) (Nat.le_trans (Ln_small (by decide)) (by omega)) (Nat.le_trans (Ln_small (by decide)) (by omega)))
  obtain ⟨c, hc⟩ : ∃ c, icmp ((N * 1 + -(q * D)) * 2) (1 * (D * 1)) = c := ⟨_, rfl⟩
  rw [hc] at CM HC
  have HI4 := hide ((unhide HI3).below hb4)
  have HB4 := hide (below_step (unhide HB3) hb4)
  clear hc r4 hb4 NR HR3 HI3 HB3
  go_wp2_with fail
  refine (unhide CM).mono ?_
  rintro e w5 ⟨rfl, hb5⟩
  have N5 := below_new w5 (.cells #[.bool false, .slice none 0 0] 43)
  have HI5 := hide (((unhide HI4).below hb5).below N5)
  have lw5 := ((unhide HI4).below hb5).place.low
  have HB5 := hide (below_step (below_step (unhide HB4) hb5) N5)
  have HZ5 := hide (ZA.new w5)
  have N2 := hide (newInt_at 2 (w5.alloc (.cells #[.bool false, .slice none 0 0] 43)) (w5.heap.size + 1) (by simp) (by omega) (by omega))
  clear hb5 N5 CM HI4 HB4
  go_wp2_with fail
  refine (unhide N2).mono ?_
  rintro e w6 ⟨rfl, i6, hb6⟩
  have MO := hide (imod_any w5.heap.size 0 w.heap.size 0 (w5.heap.size + 1) 0 q 2 w6 ((unhide HZ5).below hb6) ((unhide HI5).below hb6) i6 (by omega) (by unfold Ln at lq lN; omega) (Nat.le_trans (Ln_small (x := 2) (by decide)) (by omega)))
  have HI6 := hide ((unhide HI5).below hb6)
  have HB6 := hide (below_step (unhide HB5) hb6)
  have HZ6 := hide ((unhide HZ5).below hb6)
  clear i6 hb6 N2 HI5 HB5 HZ5
  go_wp2_with fail
  refine (unhide MO).mono ?_
  rintro e w7 ⟨rfl, i7, k7⟩
  have SG := hide (isign_any w5.heap.size 0 (q % 2) w7 i7)
  have HI7 := hide ((unhide HI6).blk k7.blk (unhide HZ6) (by omega))
  have HB7 := hide ((unhide HB6).trans (k7.low (by omega) (by omega) (unhide HB6).size))
  clear i7 k7 MO HI6 HB6 HZ6
  go_wp2_with fail
  refine (unhide SG).mono ?_
  rintro e w8 ⟨rfl, rfl⟩
  have w9i := hide (newInt_any 1 w8 (by omega) (by omega))
  clear SG
  rcases unhide HC with ⟨-, rfl, hv⟩ | ⟨-, rfl, hv⟩ | ⟨-, rfl, hv⟩
  · have HV := hide hv
    clear hv
    go_wp2_with fail
    refine (unhide w9i).mono ?_
    rintro e w9 ⟨rfl, i9, hb9⟩
    have AD := hide (iadd_any w.heap.size 0 w.heap.size 0 w8.heap.size 0 q 1 w9 ((unhide HI7).place.below hb9) ((unhide HI7).below hb9) i9 (by unfold Ln at lq lN; omega) (len_small (by decide)))
    have HB9 := hide (below_step (unhide HB7) hb9)
    clear i9 hb9
    go_wp2_with fail
    refine (unhide AD).mono ?_
    rintro e w10 ⟨rfl, i10, ho10⟩
    have HI10 := hide i10
    have HB10 := hide ((unhide HB9).trans (ho10.below (Nat.le_refl _) (unhide HB9).size))
    clear i10 ho10
    go_wp2
    go_ret
    rw [unhide HV]
    exact ⟨rfl, unhide HI10, unhide HB10⟩
  · by_cases ho : q % 2 = 0
    · have g1 : (sgnZ (q % 2) != 0) = false := by rw [ho]; rfl
      have HV : Hid (Dm.nr N D = q) := hide (by rw [hv, if_neg (by omega)])
      clear hv ho
      go_wp2
      go_ret
      rw [unhide HV]
      exact ⟨rfl, unhide HI7, unhide HB7⟩
    · have g1 : (sgnZ (q % 2) != 0) = true := by
        have : q % 2 = 1 := by omega
        rw [this]; rfl
      have HV : Hid (Dm.nr N D = q + 1) := hide (by rw [hv, if_pos (by omega)])
      clear hv ho
      go_wp2_with fail
      refine (unhide w9i).mono ?_
      rintro e w9 ⟨rfl, i9, hb9⟩
      have AD := hide (iadd_any w.heap.size 0 w.heap.size 0 w8.heap.size 0 q 1 w9 ((unhide HI7).place.below hb9) ((unhide HI7).below hb9) i9 (by unfold Ln at lq lN; omega) (len_small (by decide)))
      have HB9 := hide (below_step (unhide HB7) hb9)
      clear i9 hb9
      go_wp2_with fail
      refine (unhide AD).mono ?_
      rintro e w10 ⟨rfl, i10, ho10⟩
      have HI10 := hide i10
      have HB10 := hide ((unhide HB9).trans (ho10.below (Nat.le_refl _) (unhide HB9).size))
      clear i10 ho10
      go_wp2
      go_ret
      rw [unhide HV]
      exact ⟨rfl, unhide HI10, unhide HB10⟩
  · have HV := hide hv
    clear hv
    go_wp2
    go_ret
    rw [unhide HV]
    exact ⟨rfl, unhide HI7, unhide HB7⟩
end Go.Proofs.YtibkemolmpcdcaaGreatDoor

/- Walks: the document's answer: Fit. -/
namespace Go.Proofs.YtibkemolmpcdcaaGreatDoor
open Go.RowKit

theorem rat2_at (e : Int) (w : World) (k : Nat) (hk : w.heap.size = k) (h1 : -200 ≤ e) (h2 : e ≤ 200) :
    Calls Tryz.prog 37 #[.int .i64 e] w fun r w' => r = .returned (.pointer (some ⟨k, 0, none⟩)) ∧ RV w' k ((10 : Int) ^ e.toNat) ((10 : Int) ^ (-e).toNat) ∧ Below w.heap.size w w' := by
  subst hk
  exact rat2_any e w h1 h2

/-- what is nearest to N over D in units of 10^e -/
def gq (N D : Int) (e : Int) : Int := Dm.nr (N * (10 : Int) ^ (-e).toNat) (D * (10 : Int) ^ e.toNat)
def fitT (N D : Int) : Int × Int × Int := Dm.fitF (gq N D) 121 (-40)
def toldT (t : Int × Int × Int) : Ending := .returned (.tuple #[.agg #[.int .i64 t.1, .int .i64 t.2.1], .int .i64 t.2.2])
theorem fit_hit {N D e0 q : Int} (hF : fitT N D = Dm.fitF (gq N D) (81 - e0).toNat e0) (hq : gq N D e0 = q) (h1 : e0 ≤ 80) (hl : q.natAbs ≤ 999999999999999999) : fitT N D = (Dm.fC q e0, Dm.fE q e0, Dm.fR q e0) := by
  rw [hF, show (81 - e0).toNat = (80 - e0).toNat + 1 by omega, Dm.fitF_hit _ _ _ (by rw [hq]; exact hl), hq]
theorem fit_next {N D e0 q : Int} (hF : fitT N D = Dm.fitF (gq N D) (81 - e0).toNat e0) (hq : gq N D e0 = q) (h1 : e0 ≤ 80) (hl : ¬ q.natAbs ≤ 999999999999999999) : fitT N D = Dm.fitF (gq N D) (81 - (e0 + 1)).toNat (e0 + 1) := by
  rw [hF, show (81 - e0).toNat = (81 - (e0 + 1)).toNat + 1 by omega, Dm.fitF, if_neg (by rw [hq]; exact hl)]
theorem fit_end {N D e0 : Int} (hF : fitT N D = Dm.fitF (gq N D) (81 - e0).toNat e0) (h1 : ¬ e0 ≤ 80) : fitT N D = (0, 0, 4) := by
  rw [hF, show (81 - e0).toNat = 0 by omega, Dm.fitF]
theorem sgnZ_ne {x : Int} (h : x ≠ 0) : (sgnZ x == 0) = false := by
  rcases Int.lt_trichotomy x 0 with g | g | g
  · unfold sgnZ; rw [if_pos g]; rfl
  · exact absurd g h
  · unfold sgnZ; rw [if_neg (by omega), if_neg h]; rfl
theorem tens_bd {q q1 : Int} {k : Nat} (h : q = Dm.tens q1 k) (h1 : q1 ≠ 0) (hl : q.natAbs ≤ 999999999999999999) : k ≤ 17 ∧ q1.natAbs ≤ 999999999999999999 := by
  have e : q.natAbs = q1.natAbs * 10 ^ k := by rw [h, Dm.tens_eq, Int.natAbs_mul, Int.natAbs_pow]; rfl
  have p := Dm.p10_pos k
  have a : 1 * 10 ^ k ≤ q1.natAbs * 10 ^ k := Nat.mul_le_mul_right _ (by omega)
  have b : q1.natAbs * 1 ≤ q1.natAbs * 10 ^ k := Nat.mul_le_mul_left _ (by omega)
  refine ⟨?_, by omega⟩
  rcases Nat.lt_or_ge k 18 with g | g
  · omega
  · have : 10 ^ 18 ≤ 10 ^ k := Dm.p10_le g
    omega
theorem tens_next {q q1 : Int} {k : Nat} (h : q = Dm.tens q1 k) (hz : q1 % 10 = 0) : q = Dm.tens (q1.tdiv 10) (k + 1) ∧ (q1 ≠ 0 → q1.tdiv 10 ≠ 0) := by
  have e : q1.tdiv 10 * 10 = q1 := Int.tdiv_mul_cancel (Int.dvd_of_emod_eq_zero hz)
  refine ⟨?_, fun h1 h2 => h1 (by rw [← e, h2]; rfl)⟩
  rw [h, Dm.tens_eq, Dm.tens_eq, Int.pow_succ, ← Int.mul_assoc, Int.mul_right_comm, e]
theorem tens_last {q q1 : Int} {k : Nat} (h : q = Dm.tens q1 k) (hz : ¬ q1 % 10 = 0) (hl : q.natAbs ≤ 999999999999999999) : Dm.tz q = k ∧ Dm.tc q = q1 := by
  refine Dm.tz_at h (fun g => hz ?_) (by omega)
  have := Int.dvd_of_tmod_eq_zero g
  exact Int.emod_eq_zero_of_dvd this

set_option maxRecDepth 100000 in
set_option maxHeartbeats 8000000 in
theorem fit_any (p : Nat) (N D : Int) (w : World) (hr : RV w p N D) (hD : 0 < D) (lN : Ln N ≤ 3000) (lD : Ln D ≤ 3000) :
    Calls Tryz.prog 18 #[.pointer (some ⟨p, 0, none⟩)] w fun e w' => e = toldT (fitT N D) ∧ Below w.heap.size w w' := by
  have lp := hr.place.low
  obtain ⟨wA, hwA⟩ : ∃ wA, wA = w.alloc (.cells #[.int .i64 0, .int .i64 0] 23) := ⟨_, rfl⟩
  have NA : Below w.heap.size w wA := by rw [hwA]; exact below_new _ _
  have sA : wA.heap.size = w.heap.size + 1 := by rw [hwA]; simp
  have cA0 : wA.cell? ⟨w.heap.size, 0, none⟩ = some (.int .i64 0) := by rw [hwA]; simp [go_sem]
  have cA1 : wA.cell? ⟨w.heap.size, 1, none⟩ = some (.int .i64 0) := by rw [hwA]; simp [go_sem]
  have fA0 : wA.frozen? ⟨w.heap.size, 0, none⟩ = false := by rw [hwA]; simp [go_sem]
  have fA1 : wA.frozen? ⟨w.heap.size, 1, none⟩ = false := by rw [hwA]; simp [go_sem]
  have HR := hide (hr.below NA)
  have HNA := hide NA
  have HD := hide hD
  clear hr hD NA
  go_enter Tryz.func18, Tryz.ntmps18
  go_wp2_with fail
  go_loopw [4] (fun i wr => ∃ e0 : Int, i = .int .i64 e0 ∧ -40 ≤ e0 ∧ e0 ≤ 81 ∧ Hid (fitT N D = Dm.fitF (gq N D) (81 - e0).toNat e0) ∧ Hid (Below wA.heap.size wA wr)) (fun i _ => (81 - intOf i).toNat)
  case atStart => exact ⟨-40, rfl, by omega, by omega, hide rfl, hide (by rw [hwA]; exact Below.refl _ _)⟩
  case round =>
    obtain ⟨e0, rfl, l1, l2, HF, HB⟩ := hrel
    clear hwA
    have sr := (unhide HB).size
    by_cases h80 : e0 ≤ 80
    · have hr1 := (unhide HR).below (unhide HB)
      have N1 := below_new wr (.cells #[.bool false, .slice none 0 0, .bool false, .slice none 0 0] 45)
      have R2 := hide (rat2_at e0 (wr.alloc (.cells #[.bool false, .slice none 0 0, .bool false, .slice none 0 0] 45)) (wr.heap.size + 1) (by simp) (by omega) (by omega))
      have HR1 := hide (hr1.below N1)
      have HB1 := hide (below_step (unhide HB) N1)
      have HZ1 := hide (ZA.newR wr)
      have m1 := Ln_ten e0.toNat
      have m2 := Ln_ten (-e0).toNat
      have m3 := Ln_mul N ((10 : Int) ^ (-e0).toNat)
      have m4 := Ln_mul D ((10 : Int) ^ e0.toNat)
      have mp : Hid (0 < D * (10 : Int) ^ e0.toNat) := hide (Int.mul_pos (unhide HD) (Int.pow_pos (by decide)))
      clear hr1 N1
      go_wp2_with fail
      refine (unhide R2).mono ?_
      rintro e w1 ⟨rfl, r1, hb1⟩
      have QU := hide (rquo_any wr.heap.size p (wr.heap.size + 1) N D ((10 : Int) ^ e0.toNat) ((10 : Int) ^ (-e0).toNat) w1 ((unhide HZ1).below hb1) ((unhide HR1).below hb1) r1 (by have := unhide HD; omega) (pow_ne _) (by omega) (by omega) (by omega) (by omega) (pow_ne _))
      have HB2 := hide (below_step (unhide HB1) hb1)
      clear r1 hb1 R2 HR1 HB1 HZ1
      go_wp2_with fail
      refine (unhide QU).mono ?_
      rintro e w2 ⟨rfl, r2, k2⟩
      have NE := hide (nearest_any wr.heap.size (N * (10 : Int) ^ (-e0).toNat) (D * (10 : Int) ^ e0.toNat) w2 r2 (unhide mp) (by omega) (by omega))
      have HB3 := hide ((unhide HB2).trans (k2.below (by omega) (unhide HB2).size))
      have s3 := (unhide HB3).size
      clear r2 k2 QU HB2
      go_wp2_with fail
      refine (unhide NE).mono ?_
      rintro e w3 ⟨rfl, i3, hb3⟩
      obtain ⟨q, hq⟩ : ∃ q, gq N D e0 = q := ⟨_, rfl⟩
      replace i3 : IA w3 w2.heap.size 0 q := by rw [← hq]; exact i3
      have NI := hide (newInt_any 999999999999999999 w3 (by omega) (by omega))
      have HI3 := hide i3
      have HB4 := hide (below_step (unhide HB3) hb3)
      have HQ := hide hq
      clear i3 hb3 NE HB3 hq mp m1 m2 m3 m4
      go_wp2_with fail
      refine (unhide NI).mono ?_
      rintro e w4 ⟨rfl, i4, hb4⟩
      have CA := hide (icmpAbs_any w2.heap.size 0 w3.heap.size 0 q 999999999999999999 w4 ((unhide HI3).below hb4) i4)
      have hcc : (Bg.cmpN q.natAbs (999999999999999999 : Int).natAbs > 0) ↔ ¬ q.natAbs ≤ 999999999999999999 := by
        rcases Nat.lt_trichotomy q.natAbs 999999999999999999 with h | h | h
        · rw [Bg.cmpN_lt (by show q.natAbs < 999999999999999999; exact h)]; omega
        · rw [Bg.cmpN_eq (by show q.natAbs = 999999999999999999; exact h)]; omega
        · rw [Bg.cmpN_gt (by show 999999999999999999 < q.natAbs; exact h)]; omega
      obtain ⟨c, hc⟩ : ∃ c, Bg.cmpN q.natAbs (999999999999999999 : Int).natAbs = c := ⟨_, rfl⟩
      rw [hc] at CA hcc
      have HI4 := hide ((unhide HI3).below hb4)
      have HB5 := hide (below_step (unhide HB4) hb4)
      clear hc i4 hb4 NI HI3 HB4
      go_wp2_with fail
      refine (unhide CA).mono ?_
      rintro e w5 ⟨rfl, hb5⟩
      have HI5 := hide ((unhide HI4).below hb5)
      have HB6 := hide (below_step (unhide HB5) hb5)
      clear hb5 CA HI4 HB5
      by_cases hl : q.natAbs ≤ 999999999999999999
      · have c0 : ¬ 0 < c := fun h => hcc.1 h hl
        have SG := hide (isign_any w2.heap.size 0 q w5 (unhide HI5))
        have HL := hide hl
        clear hcc hl
        go_wp2_with fail
        refine (unhide SG).mono ?_
        rintro e w5' ⟨rfl, rfl⟩
        by_cases hq0 : q = 0
        · subst hq0
          have HE : Hid (fitT N D = (0, 0, 0)) := hide (by rw [fit_hit (unhide HF) (unhide HQ) h80 (by decide)]; simp [Dm.fC, Dm.fE, Dm.fR])
          rw [show sgnZ 0 = 0 from rfl]
          have hb0 : Hid (Below w.heap.size w w5') := hide ((unhide HNA).trans ((unhide HB6).mono (by omega)))
          have c0 := ((unhide HB6).cell (p := ⟨w.heap.size, 0, none⟩) (by show w.heap.size < wA.heap.size; omega)).trans cA0
          have c1 := ((unhide HB6).cell (p := ⟨w.heap.size, 1, none⟩) (by show w.heap.size < wA.heap.size; omega)).trans cA1
          have f0 := ((unhide HB6).frozen (p := ⟨w.heap.size, 0, none⟩) (by show w.heap.size < wA.heap.size; omega)).trans fA0
          have f1 := ((unhide HB6).frozen (p := ⟨w.heap.size, 1, none⟩) (by show w.heap.size < wA.heap.size; omega)).trans fA1
          clear cA0 cA1 fA0 fA1
          go_wp2
          refine bodyPost_ret (v := .tuple #[.agg #[.int .i64 0, .int .i64 0], .int .i64 0]) (by simp [results, Tryz.results18, go_sem, c0, c1]) rfl ?_
          rw [unhide HE]
          exact ⟨rfl, ((unhide hb0).setCell (Nat.le_refl _) _).setCell (Nat.le_refl _) _⟩
        · have gs : (sgnZ q == 0) = false := sgnZ_ne hq0
          have HQ0 := hide hq0
          clear hq0 SG
          go_wp2_with fail
          go_loopw [4] (fun i wr2 => ∃ (k : Nat) (q1 : Int), i = .int .i64 (e0 + k) ∧ k ≤ 17 ∧ Hid (q = Dm.tens q1 k) ∧ q1 ≠ 0 ∧ Hid (IA wr2 w2.heap.size 0 q1) ∧ Hid (Below wA.heap.size wA wr2)) (fun i _ => (300 - intOf i).toNat)
          case atStart => exact ⟨0, q, by simp, by omega, hide rfl, unhide HQ0, HI5, HB6⟩
          case round =>
            obtain ⟨k, q1, rfl, hk, HT, hq1, HJ, HC⟩ := hrel
            clear HI5 HB6
            have bd := tens_bd (unhide HT) hq1 (unhide HL)
            have sj := (unhide HJ).place.low
            have N6 := below_new wr (.cells #[.bool false, .slice none 0 0] 43)
            have NT := hide (newInt_at 10 (wr.alloc (.cells #[.bool false, .slice none 0 0] 43)) (wr.heap.size + 1) (by simp) (by omega) (by omega))
            have HJ6 := hide ((unhide HJ).below N6)
            have HC6 := hide (below_step (unhide HC) N6)
            have HZ6 := hide (ZA.new wr)
            have s6 := (unhide HC).size
            have lq1 : (Bg.wd q1.natAbs).length ≤ 2 := Bg.wd_len_le 2 _ (by omega)
            clear N6 HJ HC
            go_wp2_with fail
            refine (unhide NT).mono ?_
            rintro e w6 ⟨rfl, i6, hb6⟩
            have MO := hide (imod_any wr.heap.size 0 w2.heap.size 0 (wr.heap.size + 1) 0 q1 10 w6 ((unhide HZ6).below hb6) ((unhide HJ6).below hb6) i6 (by omega) (by omega) (Nat.le_trans (Ln_small (x := 10) (by decide)) (by omega)))
            have HJ7 := hide ((unhide HJ6).below hb6)
            have HC7 := hide (below_step (unhide HC6) hb6)
            have HZ7 := hide ((unhide HZ6).below hb6)
            clear i6 hb6 NT HJ6 HC6 HZ6
            go_wp2_with fail
            refine (unhide MO).mono ?_
            rintro e w7 ⟨rfl, i7, k7⟩
            have SG := hide (isign_any wr.heap.size 0 (q1 % 10) w7 i7)
            have HJ8 := hide ((unhide HJ7).blk k7.blk (unhide HZ7) (by omega))
            have HC8 := hide ((unhide HC7).trans (k7.low (by omega) (by omega) (unhide HC7).size))
            clear i7 k7 MO HJ7 HC7 HZ7
            go_wp2_with fail
            refine (unhide SG).mono ?_
            rintro e w8 ⟨rfl, rfl⟩
            clear SG
            by_cases hz : q1 % 10 = 0
            · have gz : (sgnZ (q1 % 10) == 0) = true := by rw [hz]; rfl
              have HX := hide (tens_next (unhide HT) hz)
              have N9 := hide (newInt_any 10 w8 (by omega) (by omega))
              clear hz
              go_wp2_with fail
              refine (unhide N9).mono ?_
              rintro e w9 ⟨rfl, i9, hb9⟩
              have QO := hide (iquo_any w2.heap.size 0 w2.heap.size 0 w8.heap.size 0 q1 10 w9 ((unhide HJ8).place.below hb9) ((unhide HJ8).below hb9) i9 (by omega) (by omega) (len_small (by decide)))
              have HC9 := hide (below_step (unhide HC8) hb9)
              clear i9 hb9 N9 HJ8 HC8
              go_wp2_with fail
              refine (unhide QO).mono ?_
              rintro e w10 ⟨rfl, i10, ho10⟩
              have HJ10 := hide i10
              have HC10 := hide ((unhide HC9).trans (ho10.below (by omega) (unhide HC9).size))
              clear i10 ho10 QO HC9
              go_wp2
              have bd2 := tens_bd (unhide HX).1 ((unhide HX).2 hq1) (unhide HL)
              refine ⟨⟨k + 1, q1.tdiv 10, by congr 1; omega, bd2.1, hide (unhide HX).1, (unhide HX).2 hq1, HJ10, HC10⟩, ?_⟩
              simp [intOf]; omega
            · have gz : (sgnZ (q1 % 10) == 0) = false := sgnZ_ne hz
              have tl := tens_last (unhide HT) hz (unhide HL)
              have HH := fit_hit (unhide HF) (unhide HQ) h80 (unhide HL)
              have q0 := unhide HQ0
              by_cases h40 : 40 < e0 + (k : Int)
              · have HE : Hid (fitT N D = (0, 0, 4)) := hide (by rw [HH]; unfold Dm.fC Dm.fE Dm.fR; rw [tl.1, if_neg q0, if_neg q0, if_neg q0, if_pos h40, if_pos h40, if_pos h40])
                clear HH tl hz q0
                have hb0 : Hid (Below w.heap.size w w8) := hide ((unhide HNA).trans ((unhide HC8).mono (by omega)))
                have c0 := ((unhide HC8).cell (p := ⟨w.heap.size, 0, none⟩) (by show w.heap.size < wA.heap.size; omega)).trans cA0
                have c1 := ((unhide HC8).cell (p := ⟨w.heap.size, 1, none⟩) (by show w.heap.size < wA.heap.size; omega)).trans cA1
                have f0 := ((unhide HC8).frozen (p := ⟨w.heap.size, 0, none⟩) (by show w.heap.size < wA.heap.size; omega)).trans fA0
                have f1 := ((unhide HC8).frozen (p := ⟨w.heap.size, 1, none⟩) (by show w.heap.size < wA.heap.size; omega)).trans fA1
                clear cA0 cA1 fA0 fA1
                go_wp2
                refine bodyPost_ret (v := .tuple #[.agg #[.int .i64 0, .int .i64 0], .int .i64 4]) (by simp [results, Tryz.results18, go_sem, c0, c1]) rfl ?_
                rw [unhide HE]
                exact ⟨rfl, ((unhide hb0).setCell (Nat.le_refl _) _).setCell (Nat.le_refl _) _⟩
              · have HE : Hid (fitT N D = (q1, e0 + (k : Int), 0)) := hide (by rw [HH]; unfold Dm.fC Dm.fE Dm.fR; rw [tl.1, tl.2, if_neg q0, if_neg q0, if_neg q0, if_neg h40, if_neg h40, if_neg h40])
                have II := hide (iint64_any w2.heap.size 0 q1 w8 (unhide HJ8) (by omega))
                clear HH tl hz q0
                go_wp2_with fail
                refine (unhide II).mono ?_
                rintro e w9 ⟨rfl, rfl⟩
                clear II
                have hb0 : Hid (Below w.heap.size w w9) := hide ((unhide HNA).trans ((unhide HC8).mono (by omega)))
                have c0 := ((unhide HC8).cell (p := ⟨w.heap.size, 0, none⟩) (by show w.heap.size < wA.heap.size; omega)).trans cA0
                have c1 := ((unhide HC8).cell (p := ⟨w.heap.size, 1, none⟩) (by show w.heap.size < wA.heap.size; omega)).trans cA1
                have f0 := ((unhide HC8).frozen (p := ⟨w.heap.size, 0, none⟩) (by show w.heap.size < wA.heap.size; omega)).trans fA0
                have f1 := ((unhide HC8).frozen (p := ⟨w.heap.size, 1, none⟩) (by show w.heap.size < wA.heap.size; omega)).trans fA1
                clear cA0 cA1 fA0 fA1
                go_wp2
                refine bodyPost_ret (v := .tuple #[.agg #[.int .i64 q1, .int .i64 (e0 + (k : Int))], .int .i64 0]) (by simp [results, Tryz.results18, go_sem, c0, c1]) rfl ?_
                rw [unhide HE]
                exact ⟨rfl, ((unhide hb0).setCell (Nat.le_refl _) _).setCell (Nat.le_refl _) _⟩
      · have c0 : 0 < c := hcc.2 hl
        have HN := hide (fit_next (unhide HF) (unhide HQ) h80 hl)
        clear hcc hl
        go_wp2
        refine ⟨⟨e0 + 1, rfl, by omega, by omega, HN, HB6⟩, ?_⟩
        simp [intOf]; omega
    · have HE := hide (fit_end (unhide HF) h80)
      have hb0 : Hid (Below w.heap.size w wr) := hide ((unhide HNA).trans ((unhide HB).mono (by omega)))
      have c0 := ((unhide HB).cell (p := ⟨w.heap.size, 0, none⟩) (by show w.heap.size < wA.heap.size; omega)).trans cA0
      have c1 := ((unhide HB).cell (p := ⟨w.heap.size, 1, none⟩) (by show w.heap.size < wA.heap.size; omega)).trans cA1
      have f0 := ((unhide HB).frozen (p := ⟨w.heap.size, 0, none⟩) (by show w.heap.size < wA.heap.size; omega)).trans fA0
      have f1 := ((unhide HB).frozen (p := ⟨w.heap.size, 1, none⟩) (by show w.heap.size < wA.heap.size; omega)).trans fA1
      clear cA0 cA1 fA0 fA1
      go_wp2
      refine bodyPost_ret (v := .tuple #[.agg #[.int .i64 0, .int .i64 0], .int .i64 4]) (by simp [results, Tryz.results18, go_sem, c0, c1]) rfl ?_
      rw [unhide HE]
      exact ⟨rfl, ((unhide hb0).setCell (Nat.le_refl _) _).setCell (Nat.le_refl _) _⟩
end Go.Proofs.YtibkemolmpcdcaaGreatDoor

/- Plain: what Fit tells of an exact number, and of a quotient, is what dec tells. -/
namespace Go.Proofs.YtibkemolmpcdcaaGreatDoor

theorem gq_sg (b : Bool) (A B : Nat) (hB : 0 < B) (e : Int) : gq (Dm.sg b A) (B : Int) e = Dm.sg b (Dm.rnd (A * 10 ^ (-e).toNat) (B * 10 ^ e.toNat) false) := by
  unfold gq
  have e1 : Dm.sg b A * (10 : Int) ^ (-e).toNat = Dm.sg b (A * 10 ^ (-e).toNat) := by
    unfold Dm.sg
    cases b
    · simp
    · simp [Int.neg_mul]
  have e2 : (B : Int) * (10 : Int) ^ e.toNat = ((B * 10 ^ e.toNat : Nat) : Int) := by simp
  rw [e1, e2, Dm.nr_sg b _ _ (Nat.mul_pos hB (Dm.p10_pos _))]
theorem fitT_sg (b : Bool) (A B : Nat) (hB : 0 < B) : fitT (Dm.sg b A) (B : Int) = Dm.fitF (fun e => Dm.sg b (Dm.rnd (A * 10 ^ (-e).toNat) (B * 10 ^ e.toNat) false)) 121 (-40) := by
  unfold fitT
  congr 1
  exact funext fun e => gq_sg b A B hB e
theorem p10_add (a b : Nat) : (10 : Nat) ^ a * 10 ^ b = 10 ^ (a + b) := (Nat.pow_add 10 a b).symm
/-- an exact value, in units of 10^e -/
theorem rnd_sc {A B S : Nat} {x e : Int} (hB : 0 < B) (h : A * 10 ^ (-x).toNat = S * 10 ^ x.toNat * B) : Dm.rnd (A * 10 ^ (-e).toNat) (B * 10 ^ e.toNat) false = Dm.sc S (x - e) false := by
  have pB : 0 < B * 10 ^ e.toNat := Nat.mul_pos hB (Dm.p10_pos _)
  have one : ∀ M : Nat, Dm.rnd M 1 false = M := fun M => by
    have := Dm.rnd_exact M 0 false rfl
    simpa using this
  unfold Dm.sc
  split
  · rename_i hs
    rw [← one (S * 10 ^ (x - e).toNat)]
    refine Dm.rnd_ratio pB (by omega) ?_
    apply Nat.eq_of_mul_eq_mul_right (Dm.p10_pos (-x).toNat)
    calc A * 10 ^ (-e).toNat * 1 * 10 ^ (-x).toNat = (A * 10 ^ (-x).toNat) * 10 ^ (-e).toNat := by grind
      _ = S * B * 10 ^ (x.toNat + (-e).toNat) := by rw [h, Nat.pow_add]; grind
      _ = S * B * 10 ^ ((x - e).toNat + e.toNat + (-x).toNat) := by congr 2; omega
      _ = S * 10 ^ (x - e).toNat * (B * 10 ^ e.toNat) * 10 ^ (-x).toNat := by rw [Nat.pow_add, Nat.pow_add]; grind
  · rename_i hs
    refine Dm.rnd_ratio pB (Dm.p10_pos _) ?_
    apply Nat.eq_of_mul_eq_mul_right (Dm.p10_pos (-x).toNat)
    calc A * 10 ^ (-e).toNat * 10 ^ (-(x - e)).toNat * 10 ^ (-x).toNat = (A * 10 ^ (-x).toNat) * 10 ^ (-e).toNat * 10 ^ (-(x - e)).toNat := by grind
      _ = S * B * 10 ^ (x.toNat + (-e).toNat + (-(x - e)).toNat) := by rw [h, Nat.pow_add, Nat.pow_add]; grind
      _ = S * B * 10 ^ (e.toNat + (-x).toNat) := by congr 2; omega
      _ = S * (B * 10 ^ e.toNat) * 10 ^ (-x).toNat := by rw [Nat.pow_add]; grind
theorem rnd_ge {A B M : Nat} (hB : 0 < B) (h : M * B ≤ A) : M ≤ Dm.rnd A B false := by
  have : M ≤ A / B := (Nat.le_div_iff_mul_le hB).2 h
  unfold Dm.rnd
  split <;> omega
theorem e18 : (1000000000000000000 : Nat) = 10 ^ 18 := by decide
theorem sc_low {S : Nat} {x e : Int} (h1 : 1 ≤ S) (hS : S < 10 ^ 200) (he : -40 ≤ e) (hl : e < Dm.nE S x) : 1000000000000000000 ≤ Dm.sc S (x - e) false := by
  obtain ⟨a, _, c, _⟩ := Dm.nd_spec h1 hS
  have hx : Dm.nE S x = x + Dm.nd S - 18 := by unfold Dm.nE at *; omega
  rw [e18]
  unfold Dm.sc
  split
  · have : 10 ^ (Dm.nd S - 1) * 10 ^ (x - e).toNat ≤ S * 10 ^ (x - e).toNat := Nat.mul_le_mul_right _ c
    rw [p10_add] at this
    exact Nat.le_trans (Dm.p10_le (by omega)) this
  · refine rnd_ge (Dm.p10_pos _) ?_
    rw [p10_add]
    exact Nat.le_trans (Dm.p10_le (by omega)) c
theorem sg_self (N : Int) : Dm.sg (decide (N < 0)) N.natAbs = N := by
  unfold Dm.sg
  by_cases h : N < 0
  · simp [h]; omega
  · simp [h]; omega
/-- what is exact -/
theorem fit_exact {N D S x : Int} (hD : 0 < D) (hS : S.natAbs < 10 ^ 200) (h : N * (10 : Int) ^ (-x).toNat = S * (10 : Int) ^ x.toNat * D) :
    fitT N D = (Dm.fC (Dm.nearZ S x false) (Dm.nE S.natAbs x), Dm.fE (Dm.nearZ S x false) (Dm.nE S.natAbs x), Dm.fR (Dm.nearZ S x false) (Dm.nE S.natAbs x)) := by
  have hn : N.natAbs * 10 ^ (-x).toNat = S.natAbs * 10 ^ x.toNat * D.natAbs := by
    have := congrArg Int.natAbs h
    rw [Int.natAbs_mul, Int.natAbs_mul, Int.natAbs_mul, Int.natAbs_pow, Int.natAbs_pow] at this
    exact this
  have hB : 0 < D.natAbs := by omega
  have hsign : decide (N < 0) = decide (S < 0) := by
    have p1 : (0 : Int) < 10 ^ (-x).toNat := Int.pow_pos (by decide)
    have p2 : (0 : Int) < 10 ^ x.toNat := Int.pow_pos (by decide)
    have k1 : (N * (10 : Int) ^ (-x).toNat < 0) ↔ N < 0 := by
      constructor
      · intro g
        rcases Int.lt_or_le N 0 with k | k
        · exact k
        · have := Int.mul_nonneg k (Int.le_of_lt p1); omega
      · intro g; exact Int.mul_neg_of_neg_of_pos g p1
    have k2 : (S * (10 : Int) ^ x.toNat * D < 0) ↔ S < 0 := by
      constructor
      · intro g
        rcases Int.lt_or_le S 0 with k | k
        · exact k
        · have := Int.mul_nonneg (Int.mul_nonneg k (Int.le_of_lt p2)) (Int.le_of_lt hD); omega
      · intro g; exact Int.mul_neg_of_neg_of_pos (Int.mul_neg_of_neg_of_pos g p2) hD
    rw [h] at k1
    exact decide_eq_decide.2 (k1.symm.trans k2)
  have e1 : N = Dm.sg (decide (S < 0)) N.natAbs := by rw [← hsign]; exact (sg_self N).symm
  have e2 : D = ((D.natAbs : Nat) : Int) := by omega
  have e3 := fitT_sg (decide (S < 0)) N.natAbs D.natAbs hB
  rw [← e1, ← e2] at e3
  rw [e3]
  have hf : ∀ e : Int, Dm.rnd (N.natAbs * 10 ^ (-e).toNat) (D.natAbs * 10 ^ e.toNat) false = Dm.sc S.natAbs (x - e) false := fun e => rnd_sc hB hn
  simp only [hf]
  unfold Dm.nearZ
  by_cases h0 : S.natAbs = 0
  · rw [h0, Dm.nQ_zero]
    refine Dm.fit_zero _ (fun e => Dm.sc 0 (x - e) false) ?_ _
    unfold Dm.sc
    split
    · simp
    · unfold Dm.rnd Dm.up
      rw [Nat.zero_mod, Nat.zero_div, if_neg (by simp)]
  · exact Dm.fit_told _ S.natAbs x false (fun e => Dm.sc S.natAbs (x - e) false) (by omega) hS (fun _ _ => rfl) (fun e g1 g2 => sc_low (by omega) hS g1 g2)
/-- what is a quotient -/
theorem fit_quot {A B C1 C2 : Nat} {y : Int} (b : Bool) (hB : 0 < B) (hC : 0 < C2) (l2 : C2 < 1000000000000000000) (l1 : C1 < 1000000000000000000) (h : A * C2 * 10 ^ (-y).toNat = C1 * 10 ^ y.toNat * B) :
    fitT (Dm.sg b A) (B : Int) = (Dm.fC (Dm.sg b (Dm.nQ (C1 * 10 ^ 40 / C2) (y - 40) (decide (C1 * 10 ^ 40 % C2 ≠ 0)))) (Dm.nE (C1 * 10 ^ 40 / C2) (y - 40)), Dm.fE (Dm.sg b (Dm.nQ (C1 * 10 ^ 40 / C2) (y - 40) (decide (C1 * 10 ^ 40 % C2 ≠ 0)))) (Dm.nE (C1 * 10 ^ 40 / C2) (y - 40)), Dm.fR (Dm.sg b (Dm.nQ (C1 * 10 ^ 40 / C2) (y - 40) (decide (C1 * 10 ^ 40 % C2 ≠ 0)))) (Dm.nE (C1 * 10 ^ 40 / C2) (y - 40))) := by
  rw [fitT_sg b A B hB]
  by_cases h0 : C1 = 0
  · subst h0
    have hA : A = 0 := by
      rw [Nat.zero_mul, Nat.zero_mul] at h
      rcases Nat.mul_eq_zero.1 h with g | g
      · rcases Nat.mul_eq_zero.1 g with k | k
        · exact k
        · omega
      · have := Dm.p10_pos (-y).toNat; omega
    subst hA
    rw [Nat.zero_mul, Nat.zero_div, Nat.zero_mod, show decide ((0 : Nat) ≠ 0) = false from rfl, Dm.nQ_zero]
    refine Dm.fit_zero b (fun e => Dm.rnd (0 * 10 ^ (-e).toNat) (B * 10 ^ e.toNat) false) ?_ _
    unfold Dm.rnd Dm.up
    rw [Nat.zero_mul, Nat.zero_mod, Nat.zero_div, if_neg (by
      have := Nat.mul_pos hB (Dm.p10_pos (-40 : Int).toNat)
      simp only [Nat.mul_zero, decide_eq_true_eq]
      omega)]
  · have hS1 : 10 ^ 22 ≤ C1 * 10 ^ 40 / C2 := by
      rw [Nat.le_div_iff_mul_le hC]
      have : 10 ^ 22 * C2 ≤ 10 ^ 22 * 10 ^ 18 := Nat.mul_le_mul_left _ (by rw [← e18]; omega)
      rw [p10_add] at this
      have k : 1 * 10 ^ 40 ≤ C1 * 10 ^ 40 := Nat.mul_le_mul_right _ (by omega)
      omega
    have hS2 : C1 * 10 ^ 40 / C2 < 10 ^ 200 := by
      refine Nat.lt_of_le_of_lt (Nat.div_le_self _ _) ?_
      have : C1 * 10 ^ 40 < 10 ^ 18 * 10 ^ 40 := Nat.mul_lt_mul_of_pos_right (by rw [← e18]; omega) (Dm.p10_pos 40)
      rw [p10_add] at this
      exact Nat.lt_of_lt_of_le this (Dm.p10_le (by omega))
    have hdiv : C1 * 10 ^ 40 / C2 * C2 ≤ C1 * 10 ^ 40 := Nat.div_mul_le_self _ _
    obtain ⟨S, hS⟩ : ∃ S, C1 * 10 ^ 40 / C2 = S := ⟨_, rfl⟩
    have hS1' : 1 ≤ S := by rw [← hS]; exact Nat.le_trans (Dm.p10_pos 22) hS1
    rw [hS] at hS1 hS2 hdiv ⊢
    obtain ⟨n1, _, n3, n4⟩ := Dm.nd_spec hS1' hS2
    have nd23 : 23 ≤ Dm.nd S := by
      have : 10 ^ 22 < 10 ^ Dm.nd S := Nat.lt_of_le_of_lt hS1 n4
      have := Dm.p10_lt this
      omega
    have hE : y - 40 + Dm.nd S - 18 ≤ Dm.nE S (y - 40) := by unfold Dm.nE; omega
    refine Dm.fit_told b S (y - 40) _ (fun e => Dm.rnd (A * 10 ^ (-e).toNat) (B * 10 ^ e.toNat) false) hS1' hS2 (fun e he => ?_) (fun e g1 g2 => ?_)
    · have hneg : ¬ 0 ≤ y - 40 - e := by omega
      obtain ⟨k, hk⟩ : ∃ k : Nat, (-(y - 40 - e)).toNat = k + 1 := ⟨(-(y - 40 - e)).toNat - 1, by omega⟩
      unfold Dm.sc
      rw [if_neg hneg, hk, ← hS, ← Dm.rnd_rest (C1 * 10 ^ 40) C2 (10 ^ (k + 1)) hC (by rw [Nat.pow_succ]; omega) (Dm.p10_pos _)]
      refine Dm.rnd_ratio (Nat.mul_pos hB (Dm.p10_pos _)) (Nat.mul_pos hC (Dm.p10_pos _)) ?_
      apply Nat.eq_of_mul_eq_mul_right (Dm.p10_pos (-y).toNat)
      calc A * 10 ^ (-e).toNat * (C2 * 10 ^ (k + 1)) * 10 ^ (-y).toNat = (A * C2 * 10 ^ (-y).toNat) * 10 ^ (-e).toNat * 10 ^ (k + 1) := by grind
        _ = C1 * B * 10 ^ (y.toNat + (-e).toNat + (k + 1)) := by rw [h, Nat.pow_add 10 (y.toNat + (-e).toNat), Nat.pow_add]; grind
        _ = C1 * B * 10 ^ (40 + e.toNat + (-y).toNat) := by congr 2; omega
        _ = C1 * 10 ^ 40 * (B * 10 ^ e.toNat) * 10 ^ (-y).toNat := by rw [Nat.pow_add, Nat.pow_add]; grind
    · have hx : Dm.nE S (y - 40) = y - 40 + Dm.nd S - 18 := by unfold Dm.nE at *; omega
      rw [e18]
      refine rnd_ge (Nat.mul_pos hB (Dm.p10_pos _)) ?_
      have pos : 0 < C2 * 10 ^ (-y).toNat * 10 ^ 40 := Nat.mul_pos (Nat.mul_pos hC (Dm.p10_pos _)) (Dm.p10_pos _)
      apply Nat.le_of_mul_le_mul_right _ pos
      have r : A * 10 ^ (-e).toNat * (C2 * 10 ^ (-y).toNat * 10 ^ 40) = (C1 * 10 ^ 40) * B * 10 ^ (y.toNat + (-e).toNat) := by
        calc A * 10 ^ (-e).toNat * (C2 * 10 ^ (-y).toNat * 10 ^ 40) = (A * C2 * 10 ^ (-y).toNat) * 10 ^ (-e).toNat * 10 ^ 40 := by grind
          _ = (C1 * 10 ^ 40) * B * 10 ^ (y.toNat + (-e).toNat) := by rw [h, Nat.pow_add 10 y.toNat]; grind
      have l : 10 ^ 18 * (B * 10 ^ e.toNat) * (C2 * 10 ^ (-y).toNat * 10 ^ 40) = (10 ^ (18 + e.toNat + (-y).toNat + 40) * C2) * B := by
        rw [Nat.pow_add, Nat.pow_add, Nat.pow_add]; grind
      rw [r, l]
      have m1 : 10 ^ (Dm.nd S - 1) * C2 ≤ C1 * 10 ^ 40 := Nat.le_trans (Nat.mul_le_mul_right _ n3) hdiv
      have m2 : 10 ^ (18 + e.toNat + (-y).toNat + 40) ≤ 10 ^ (Dm.nd S - 1 + (y.toNat + (-e).toNat)) := Dm.p10_le (by omega)
      calc 10 ^ (18 + e.toNat + (-y).toNat + 40) * C2 * B ≤ 10 ^ (Dm.nd S - 1 + (y.toNat + (-e).toNat)) * C2 * B := Nat.mul_le_mul_right _ (Nat.mul_le_mul_right _ m2)
        _ = (10 ^ (Dm.nd S - 1) * C2) * B * 10 ^ (y.toNat + (-e).toNat) := by rw [Nat.pow_add]; grind
        _ ≤ (C1 * 10 ^ 40) * B * 10 ^ (y.toNat + (-e).toNat) := Nat.mul_le_mul_right _ (Nat.mul_le_mul_right _ m1)
theorem icmp_sgn (x y : Int) : icmp x y = Dm.sgn (x - y) := by
  unfold icmp Dm.sgn
  rcases Int.lt_trichotomy x y with h | h | h
  · rw [if_pos h, if_pos (by omega)]
  · rw [if_neg (by omega), if_pos h, if_neg (by omega), if_pos (by omega)]
  · rw [if_neg (by omega), if_neg (by omega), if_neg (by omega), if_neg (by omega)]
/-- two numbers compare as their fractions -/
theorem cmp_same {c1 x1 c2 x2 : Int} (a3 : -40 ≤ x1) (b3 : -40 ≤ x2) : icmp (c1 * (10 : Int) ^ x1.toNat * (10 : Int) ^ (-x2).toNat) (c2 * (10 : Int) ^ x2.toNat * (10 : Int) ^ (-x1).toNat) = Dm.sgn (Dm.V c1 x1 - Dm.V c2 x2) := by
  rw [← icmp_sgn]
  unfold Dm.V
  rw [Dm.tens_eq, Dm.tens_eq]
  refine icmp_cross (K := (10 : Int) ^ 40) (M := (10 : Int) ^ ((-x1).toNat + (-x2).toNat)) (Int.pow_pos (by decide)) (Int.pow_pos (by decide)) ?_ ?_
  · rw [Int.mul_assoc c1, ← Int.pow_add, Int.mul_assoc, ← Int.pow_add, Int.mul_assoc, ← Int.pow_add]
    congr 2
    omega
  · rw [Int.mul_assoc c2, ← Int.pow_add, Int.mul_assoc, ← Int.pow_add, Int.mul_assoc, ← Int.pow_add]
    congr 2
    omega
end Go.Proofs.YtibkemolmpcdcaaGreatDoor

/- A number in its block (as in BS2, for seats without it). -/
namespace Go.Proofs.YtibkemolmpcdcaaGreatDoor
open Go.RowKit

/-- a number in its block -/
structure C2 (w : World) (b : Nat) (u v : Int) : Prop where
  low : b < w.heap.size
  c0 : w.cell? ⟨b, 0, none⟩ = some (.int .i64 u)
  c1 : w.cell? ⟨b, 1, none⟩ = some (.int .i64 v)
  f0 : w.frozen? ⟨b, 0, none⟩ = false
  f1 : w.frozen? ⟨b, 1, none⟩ = false
theorem C2.below {w w' : World} {b : Nat} {u v : Int} (h : C2 w b u v) (hb : Below w.heap.size w w') : C2 w' b u v :=
  ⟨Nat.lt_of_lt_of_le h.low hb.size, (hb.cell (p := ⟨b, 0, none⟩) h.low).trans h.c0, (hb.cell (p := ⟨b, 1, none⟩) h.low).trans h.c1, (hb.frozen (p := ⟨b, 0, none⟩) h.low).trans h.f0, (hb.frozen (p := ⟨b, 1, none⟩) h.low).trans h.f1⟩
theorem C2.new (w : World) (u v : Int) : C2 (w.alloc (.cells #[.int .i64 u, .int .i64 v] 23)) w.heap.size u v :=
  ⟨by simp, by simp [go_sem], by simp [go_sem], by simp [go_sem], by simp [go_sem]⟩
theorem set2_below {w : World} {p B : Nat} (x y : Value) (hB : B ≤ p) : Below B w ((w.setCell ⟨p, 0, none⟩ x).setCell ⟨p, 1, none⟩ y) := ((Below.refl B w).setCell hB _).setCell hB _
theorem C2.set {w : World} {b : Nat} {u v : Int} (h : C2 w b u v) (s t : Int) : C2 ((w.setCell ⟨b, 0, none⟩ (.int .i64 s)).setCell ⟨b, 1, none⟩ (.int .i64 t)) b s t :=
  ⟨by simpa [World.setCell] using h.low, by simp [go_sem, h.c0], by simp [go_sem, h.c1], by simp [go_sem, h.f0], by simp [go_sem, h.f1]⟩
end Go.Proofs.YtibkemolmpcdcaaGreatDoor
