/- Plain: what Fit tells of an exact number, and of a quotient, is what dec tells. -/
import Derived.Test.YtbdgngfpofohpaaDoorG18
import Derived.Test.YtbdgngfpofohpaaDoorG03
import Derived.Test.YtbdgngfpofohpaaDoorG01
import Derived.Below
import Derived.Test.YtbdgngfpofohpaaDoorProg
import Derived.ProofKit
import Derived.OpenShut
import Derived.ChangeOld
import Derived.Lib.SmallJoins
import Derived.Carry
namespace Go.Proofs.YtbdgngfpofohpaaDoor

theorem gq_sg (b : Bool) (A B : Nat) (hB : 0 < B) (e : Int) : gq (Dm.sg b A) (B : Int) e = Dm.sg b (Dm.rnd (A * 10 ^ (-e).toNat) (B * 10 ^ e.toNat) false) := by
  unfold gq
  have e1 : Dm.sg b A * (10 : Int) ^ (-e).toNat = Dm.sg b (A * 10 ^ (-e).toNat) := by
    unfold Dm.sg
    cases b
    · simp
    · simp [Int.neg_mul]
  have e2 : (B : Int) * (10 : Int) ^ e.toNat = ((B * 10 ^ e.toNat : Nat) : Int) := by simp
  rw [e1, e2, Dm.nr_sg b _ _ (Nat.mul_pos hB (Dm.p10_pos _))]
theorem fitT_sg (b : Bool) (A B : Nat) (hB : 0 < B) : fitT (Dm.sg b A) (B : Int) = Dm.fitF (fun e => Dm.sg b (Dm.rnd (A * 10 ^ (-e).toNat) (B * 10 ^ e.toNat) false)) 121 (-40) := by
  unfold fitT
  congr 1
  exact funext fun e => gq_sg b A B hB e
theorem p10_add (a b : Nat) : (10 : Nat) ^ a * 10 ^ b = 10 ^ (a + b) := (Nat.pow_add 10 a b).symm
/-- an exact value, in units of 10^e -/
theorem rnd_sc {A B S : Nat} {x e : Int} (hB : 0 < B) (h : A * 10 ^ (-x).toNat = S * 10 ^ x.toNat * B) : Dm.rnd (A * 10 ^ (-e).toNat) (B * 10 ^ e.toNat) false = Dm.sc S (x - e) false := by
  have pB : 0 < B * 10 ^ e.toNat := Nat.mul_pos hB (Dm.p10_pos _)
  have one : ∀ M : Nat, Dm.rnd M 1 false = M := fun M => by
    have := Dm.rnd_exact M 0 false rfl
    simpa using this
  unfold Dm.sc
  split
  · rename_i hs
    rw [← one (S * 10 ^ (x - e).toNat)]
    refine Dm.rnd_ratio pB (by omega) ?_
    apply Nat.eq_of_mul_eq_mul_right (Dm.p10_pos (-x).toNat)
    calc A * 10 ^ (-e).toNat * 1 * 10 ^ (-x).toNat = (A * 10 ^ (-x).toNat) * 10 ^ (-e).toNat := by grind
      _ = S * B * 10 ^ (x.toNat + (-e).toNat) := by rw [h, Nat.pow_add]; grind
      _ = S * B * 10 ^ ((x - e).toNat + e.toNat + (-x).toNat) := by congr 2; omega
      _ = S * 10 ^ (x - e).toNat * (B * 10 ^ e.toNat) * 10 ^ (-x).toNat := by rw [Nat.pow_add, Nat.pow_add]; grind
  · rename_i hs
    refine Dm.rnd_ratio pB (Dm.p10_pos _) ?_
    apply Nat.eq_of_mul_eq_mul_right (Dm.p10_pos (-x).toNat)
    calc A * 10 ^ (-e).toNat * 10 ^ (-(x - e)).toNat * 10 ^ (-x).toNat = (A * 10 ^ (-x).toNat) * 10 ^ (-e).toNat * 10 ^ (-(x - e)).toNat := by grind
      _ = S * B * 10 ^ (x.toNat + (-e).toNat + (-(x - e)).toNat) := by rw [h, Nat.pow_add, Nat.pow_add]; grind
      _ = S * B * 10 ^ (e.toNat + (-x).toNat) := by congr 2; omega
      _ = S * (B * 10 ^ e.toNat) * 10 ^ (-x).toNat := by rw [Nat.pow_add]; grind
theorem rnd_ge {A B M : Nat} (hB : 0 < B) (h : M * B ≤ A) : M ≤ Dm.rnd A B false := by
  have : M ≤ A / B := (Nat.le_div_iff_mul_le hB).2 h
  unfold Dm.rnd
  split <;> omega
theorem e18 : (1000000000000000000 : Nat) = 10 ^ 18 := by decide
theorem sc_low {S : Nat} {x e : Int} (h1 : 1 ≤ S) (hS : S < 10 ^ 200) (he : -40 ≤ e) (hl : e < Dm.nE S x) : 1000000000000000000 ≤ Dm.sc S (x - e) false := by
  obtain ⟨a, _, c, _⟩ := Dm.nd_spec h1 hS
  have hx : Dm.nE S x = x + Dm.nd S - 18 := by unfold Dm.nE at *; omega
  rw [e18]
  unfold Dm.sc
  split
  · have : 10 ^ (Dm.nd S - 1) * 10 ^ (x - e).toNat ≤ S * 10 ^ (x - e).toNat := Nat.mul_le_mul_right _ c
    rw [p10_add] at this
    exact Nat.le_trans (Dm.p10_le (by omega)) this
  · refine rnd_ge (Dm.p10_pos _) ?_
    rw [p10_add]
    exact Nat.le_trans (Dm.p10_le (by omega)) c
theorem sg_self (N : Int) : Dm.sg (decide (N < 0)) N.natAbs = N := by
  unfold Dm.sg
  by_cases h : N < 0
  · simp [h]; omega
  · simp [h]; omega
/-- what is exact -/
theorem fit_exact {N D S x : Int} (hD : 0 < D) (hS : S.natAbs < 10 ^ 200) (h : N * (10 : Int) ^ (-x).toNat = S * (10 : Int) ^ x.toNat * D) :
    fitT N D = (Dm.fC (Dm.nearZ S x false) (Dm.nE S.natAbs x), Dm.fE (Dm.nearZ S x false) (Dm.nE S.natAbs x), Dm.fR (Dm.nearZ S x false) (Dm.nE S.natAbs x)) := by
  have hn : N.natAbs * 10 ^ (-x).toNat = S.natAbs * 10 ^ x.toNat * D.natAbs := by
    have := congrArg Int.natAbs h
    rw [Int.natAbs_mul, Int.natAbs_mul, Int.natAbs_mul, Int.natAbs_pow, Int.natAbs_pow] at this
    exact this
  have hB : 0 < D.natAbs := by omega
  have hsign : decide (N < 0) = decide (S < 0) := by
    have p1 : (0 : Int) < 10 ^ (-x).toNat := Int.pow_pos (by decide)
    have p2 : (0 : Int) < 10 ^ x.toNat := Int.pow_pos (by decide)
    have k1 : (N * (10 : Int) ^ (-x).toNat < 0) ↔ N < 0 := by
      constructor
      · intro g
        rcases Int.lt_or_le N 0 with k | k
        · exact k
        · have := Int.mul_nonneg k (Int.le_of_lt p1); omega
      · intro g; exact Int.mul_neg_of_neg_of_pos g p1
    have k2 : (S * (10 : Int) ^ x.toNat * D < 0) ↔ S < 0 := by
      constructor
      · intro g
        rcases Int.lt_or_le S 0 with k | k
        · exact k
        · have := Int.mul_nonneg (Int.mul_nonneg k (Int.le_of_lt p2)) (Int.le_of_lt hD); omega
      · intro g; exact Int.mul_neg_of_neg_of_pos (Int.mul_neg_of_neg_of_pos g p2) hD
    rw [h] at k1
    exact decide_eq_decide.2 (k1.symm.trans k2)
  have e1 : N = Dm.sg (decide (S < 0)) N.natAbs := by rw [← hsign]; exact (sg_self N).symm
  have e2 : D = ((D.natAbs : Nat) : Int) := by omega
  have e3 := fitT_sg (decide (S < 0)) N.natAbs D.natAbs hB
  rw [← e1, ← e2] at e3
  rw [e3]
  have hf : ∀ e : Int, Dm.rnd (N.natAbs * 10 ^ (-e).toNat) (D.natAbs * 10 ^ e.toNat) false = Dm.sc S.natAbs (x - e) false := fun e => rnd_sc hB hn
  simp only [hf]
  unfold Dm.nearZ
  by_cases h0 : S.natAbs = 0
  · rw [h0, Dm.nQ_zero]
    refine Dm.fit_zero _ (fun e => Dm.sc 0 (x - e) false) ?_ _
    unfold Dm.sc
    split
    · simp
    · unfold Dm.rnd Dm.up
      rw [Nat.zero_mod, Nat.zero_div, if_neg (by simp)]
  · exact Dm.fit_told _ S.natAbs x false (fun e => Dm.sc S.natAbs (x - e) false) (by omega) hS (fun _ _ => rfl) (fun e g1 g2 => sc_low (by omega) hS g1 g2)
/-- what is a quotient -/
theorem fit_quot {A B C1 C2 : Nat} {y : Int} (b : Bool) (hB : 0 < B) (hC : 0 < C2) (l2 : C2 < 1000000000000000000) (l1 : C1 < 1000000000000000000) (h : A * C2 * 10 ^ (-y).toNat = C1 * 10 ^ y.toNat * B) :
    fitT (Dm.sg b A) (B : Int) = (Dm.fC (Dm.sg b (Dm.nQ (C1 * 10 ^ 40 / C2) (y - 40) (decide (C1 * 10 ^ 40 % C2 ≠ 0)))) (Dm.nE (C1 * 10 ^ 40 / C2) (y - 40)), Dm.fE (Dm.sg b (Dm.nQ (C1 * 10 ^ 40 / C2) (y - 40) (decide (C1 * 10 ^ 40 % C2 ≠ 0)))) (Dm.nE (C1 * 10 ^ 40 / C2) (y - 40)), Dm.fR (Dm.sg b (Dm.nQ (C1 * 10 ^ 40 / C2) (y - 40) (decide (C1 * 10 ^ 40 % C2 ≠ 0)))) (Dm.nE (C1 * 10 ^ 40 / C2) (y - 40))) := by
  rw [fitT_sg b A B hB]
  by_cases h0 : C1 = 0
  · subst h0
    have hA : A = 0 := by
      rw [Nat.zero_mul, Nat.zero_mul] at h
      rcases Nat.mul_eq_zero.1 h with g | g
      · rcases Nat.mul_eq_zero.1 g with k | k
        · exact k
        · omega
      · have := Dm.p10_pos (-y).toNat; omega
    subst hA
    rw [Nat.zero_mul, Nat.zero_div, Nat.zero_mod, show decide ((0 : Nat) ≠ 0) = false from rfl, Dm.nQ_zero]
    refine Dm.fit_zero b (fun e => Dm.rnd (0 * 10 ^ (-e).toNat) (B * 10 ^ e.toNat) false) ?_ _
    unfold Dm.rnd Dm.up
    rw [Nat.zero_mul, Nat.zero_mod, Nat.zero_div, if_neg (by
      have := Nat.mul_pos hB (Dm.p10_pos (-40 : Int).toNat)
      simp only [Nat.mul_zero, decide_eq_true_eq]
      omega)]
  · have hS1 : 10 ^ 22 ≤ C1 * 10 ^ 40 / C2 := by
      rw [Nat.le_div_iff_mul_le hC]
      have : 10 ^ 22 * C2 ≤ 10 ^ 22 * 10 ^ 18 := Nat.mul_le_mul_left _ (by rw [← e18]; omega)
      rw [p10_add] at this
      have k : 1 * 10 ^ 40 ≤ C1 * 10 ^ 40 := Nat.mul_le_mul_right _ (by omega)
      omega
    have hS2 : C1 * 10 ^ 40 / C2 < 10 ^ 200 := by
      refine Nat.lt_of_le_of_lt (Nat.div_le_self _ _) ?_
      have : C1 * 10 ^ 40 < 10 ^ 18 * 10 ^ 40 := Nat.mul_lt_mul_of_pos_right (by rw [← e18]; omega) (Dm.p10_pos 40)
      rw [p10_add] at this
      exact Nat.lt_of_lt_of_le this (Dm.p10_le (by omega))
    have hdiv : C1 * 10 ^ 40 / C2 * C2 ≤ C1 * 10 ^ 40 := Nat.div_mul_le_self _ _
    obtain ⟨S, hS⟩ : ∃ S, C1 * 10 ^ 40 / C2 = S := ⟨_, rfl⟩
    have hS1' : 1 ≤ S := by rw [← hS]; exact Nat.le_trans (Dm.p10_pos 22) hS1
    rw [hS] at hS1 hS2 hdiv ⊢
    obtain ⟨n1, _, n3, n4⟩ := Dm.nd_spec hS1' hS2
    have nd23 : 23 ≤ Dm.nd S := by
      have : 10 ^ 22 < 10 ^ Dm.nd S := Nat.lt_of_le_of_lt hS1 n4
      have := Dm.p10_lt this
      omega
    have hE : y - 40 + Dm.nd S - 18 ≤ Dm.nE S (y - 40) := by unfold Dm.nE; omega
    refine Dm.fit_told b S (y - 40) _ (fun e => Dm.rnd (A * 10 ^ (-e).toNat) (B * 10 ^ e.toNat) false) hS1' hS2 (fun e he => ?_) (fun e g1 g2 => ?_)
    · have hneg : ¬ 0 ≤ y - 40 - e := by omega
      obtain ⟨k, hk⟩ : ∃ k : Nat, (-(y - 40 - e)).toNat = k + 1 := ⟨(-(y - 40 - e)).toNat - 1, by omega⟩
      unfold Dm.sc
      rw [if_neg hneg, hk, ← hS, ← Dm.rnd_rest (C1 * 10 ^ 40) C2 (10 ^ (k + 1)) hC (by rw [Nat.pow_succ]; omega) (Dm.p10_pos _)]
      refine Dm.rnd_ratio (Nat.mul_pos hB (Dm.p10_pos _)) (Nat.mul_pos hC (Dm.p10_pos _)) ?_
      apply Nat.eq_of_mul_eq_mul_right (Dm.p10_pos (-y).toNat)
      calc A * 10 ^ (-e).toNat * (C2 * 10 ^ (k + 1)) * 10 ^ (-y).toNat = (A * C2 * 10 ^ (-y).toNat) * 10 ^ (-e).toNat * 10 ^ (k + 1) := by grind
        _ = C1 * B * 10 ^ (y.toNat + (-e).toNat + (k + 1)) := by rw [h, Nat.pow_add 10 (y.toNat + (-e).toNat), Nat.pow_add]; grind
        _ = C1 * B * 10 ^ (40 + e.toNat + (-y).toNat) := by congr 2; omega
        _ = C1 * 10 ^ 40 * (B * 10 ^ e.toNat) * 10 ^ (-y).toNat := by rw [Nat.pow_add, Nat.pow_add]; grind
    · have hx : Dm.nE S (y - 40) = y - 40 + Dm.nd S - 18 := by unfold Dm.nE at *; omega
      rw [e18]
      refine rnd_ge (Nat.mul_pos hB (Dm.p10_pos _)) ?_
      have pos : 0 < C2 * 10 ^ (-y).toNat * 10 ^ 40 := Nat.mul_pos (Nat.mul_pos hC (Dm.p10_pos _)) (Dm.p10_pos _)
      apply Nat.le_of_mul_le_mul_right _ pos
      have r : A * 10 ^ (-e).toNat * (C2 * 10 ^ (-y).toNat * 10 ^ 40) = (C1 * 10 ^ 40) * B * 10 ^ (y.toNat + (-e).toNat) := by
        calc A * 10 ^ (-e).toNat * (C2 * 10 ^ (-y).toNat * 10 ^ 40) = (A * C2 * 10 ^ (-y).toNat) * 10 ^ (-e).toNat * 10 ^ 40 := by grind
          _ = (C1 * 10 ^ 40) * B * 10 ^ (y.toNat + (-e).toNat) := by rw [h, Nat.pow_add 10 y.toNat]; grind
      have l : 10 ^ 18 * (B * 10 ^ e.toNat) * (C2 * 10 ^ (-y).toNat * 10 ^ 40) = (10 ^ (18 + e.toNat + (-y).toNat + 40) * C2) * B := by
        rw [Nat.pow_add, Nat.pow_add, Nat.pow_add]; grind
      rw [r, l]
      have m1 : 10 ^ (Dm.nd S - 1) * C2 ≤ C1 * 10 ^ 40 := Nat.le_trans (Nat.mul_le_mul_right _ n3) hdiv
      have m2 : 10 ^ (18 + e.toNat + (-y).toNat + 40) ≤ 10 ^ (Dm.nd S - 1 + (y.toNat + (-e).toNat)) := Dm.p10_le (by omega)
      calc 10 ^ (18 + e.toNat + (-y).toNat + 40) * C2 * B ≤ 10 ^ (Dm.nd S - 1 + (y.toNat + (-e).toNat)) * C2 * B := Nat.mul_le_mul_right _ (Nat.mul_le_mul_right _ m2)
        _ = (10 ^ (Dm.nd S - 1) * C2) * B * 10 ^ (y.toNat + (-e).toNat) := by rw [Nat.pow_add]; grind
        _ ≤ (C1 * 10 ^ 40) * B * 10 ^ (y.toNat + (-e).toNat) := Nat.mul_le_mul_right _ (Nat.mul_le_mul_right _ m1)
theorem icmp_sgn (x y : Int) : icmp x y = Dm.sgn (x - y) := by
  unfold icmp Dm.sgn
  rcases Int.lt_trichotomy x y with h | h | h
  · rw [if_pos h, if_pos (by omega)]
  · rw [if_neg (by omega), if_pos h, if_neg (by omega), if_pos (by omega)]
  · rw [if_neg (by omega), if_neg (by omega), if_neg (by omega), if_neg (by omega)]
/-- two numbers compare as their fractions -/
theorem cmp_same {c1 x1 c2 x2 : Int} (a3 : -40 ≤ x1) (b3 : -40 ≤ x2) : icmp (c1 * (10 : Int) ^ x1.toNat * (10 : Int) ^ (-x2).toNat) (c2 * (10 : Int) ^ x2.toNat * (10 : Int) ^ (-x1).toNat) = Dm.sgn (Dm.V c1 x1 - Dm.V c2 x2) := by
  rw [← icmp_sgn]
  unfold Dm.V
  rw [Dm.tens_eq, Dm.tens_eq]
  refine icmp_cross (K := (10 : Int) ^ 40) (M := (10 : Int) ^ ((-x1).toNat + (-x2).toNat)) (Int.pow_pos (by decide)) (Int.pow_pos (by decide)) ?_ ?_
  · rw [Int.mul_assoc c1, ← Int.pow_add, Int.mul_assoc, ← Int.pow_add, Int.mul_assoc, ← Int.pow_add]
    congr 2
    omega
  · rw [Int.mul_assoc c2, ← Int.pow_add, Int.mul_assoc, ← Int.pow_add, Int.mul_assoc, ← Int.pow_add]
    congr 2
    omega
end Go.Proofs.YtbdgngfpofohpaaDoor

/- Walks: the document's answer on what is known: Halves, Of, Not, And, Or. -/
namespace Go.Proofs.YtbdgngfpofohpaaDoor
open Go.RowKit

set_option maxHeartbeats 1000000 in
theorem of_any (h : Nat) (l : h ≤ 2) (w : World) :
    Calls Tryd.prog 9 #[.int .i64 (h : Int)] w fun e w' => e = .returned (told h) ∧ Below w.heap.size w w' := by
  have h3 : h = 0 ∨ h = 1 ∨ h = 2 := by omega
  go_enter Tryd.func9, Tryd.ntmps9
  rcases h3 with rfl | rfl | rfl
  · go_wp2
    refine bodyPost_ret (v := told 0) (by simp [results, Tryd.results9, go_sem]; exact ⟨rfl, rfl⟩) rfl ?_
    exact ⟨rfl, vbelow_new _ _⟩
  · go_wp2
    refine bodyPost_ret (v := told 1) (by simp [results, Tryd.results9, go_sem]; exact ⟨rfl, rfl⟩) rfl ?_
    exact ⟨rfl, vbelow_new _ _⟩
  · go_wp2
    refine bodyPost_ret (v := told 2) (by simp [results, Tryd.results9, go_sem]; exact ⟨rfl, rfl⟩) rfl ?_
    exact ⟨rfl, vbelow_new _ _⟩
end Go.Proofs.YtbdgngfpofohpaaDoor

/- Types in plain words: so many lists around a kind; what fits, what is joined; a type as a tree, and what is wrong with it. -/
namespace Go.Proofs.YtbdgngfpofohpaaDoor

structure Sp where
  n : Nat
  k : Int
deriving DecidableEq

theorem Sp.eq {a b : Sp} (h : a.n = b.n) (g : a.k = b.k) : a = b := by
  cases a; cases b; simp_all

def Sp.Fits (a b : Sp) : Prop := (a.n ≤ b.n ∧ a.k = 1) ∨ (b.n ≤ a.n ∧ b.k = 6) ∨ (a.n = b.n ∧ a.k = b.k)
instance (a b : Sp) : Decidable (a.Fits b) := by unfold Sp.Fits; infer_instance
def Sp.join (a b : Sp) : Sp := if a.Fits b then b else if b.Fits a then a else ⟨min a.n b.n, 6⟩

theorem Sp.refl (a : Sp) : a.Fits a := by unfold Sp.Fits; omega
theorem Sp.anti {a b : Sp} (h : a.Fits b) (g : b.Fits a) : a = b := by
  unfold Sp.Fits at h g
  exact Sp.eq (by omega) (by omega)
theorem Sp.trans {a b c : Sp} (h : a.Fits b) (g : b.Fits c) : a.Fits c := by
  unfold Sp.Fits at *
  omega
theorem Sp.left (a b : Sp) : a.Fits (a.join b) := by
  unfold Sp.join
  split
  · assumption
  · split
    · exact Sp.refl a
    · exact Or.inr (Or.inl ⟨Nat.min_le_left _ _, rfl⟩)
theorem Sp.right (a b : Sp) : b.Fits (a.join b) := by
  unfold Sp.join
  split
  · exact Sp.refl b
  · split
    · assumption
    · exact Or.inr (Or.inl ⟨Nat.min_le_right _ _, rfl⟩)
theorem Sp.least {a b c : Sp} (h : a.Fits c) (g : b.Fits c) : (a.join b).Fits c := by
  unfold Sp.join
  split
  · exact g
  · split
    · exact h
    · rename_i h1 h2
      unfold Sp.Fits at *
      refine Or.inr (Or.inl ⟨?_, ?_⟩)
      · show c.n ≤ min a.n b.n
        omega
      · omega
theorem Sp.comm (a b : Sp) : a.join b = b.join a :=
  Sp.anti (Sp.least (Sp.right b a) (Sp.left b a)) (Sp.least (Sp.right a b) (Sp.left a b))
theorem Sp.self (a : Sp) : a.join a = a := by unfold Sp.join; rw [if_pos (Sp.refl a)]
theorem Sp.assoc (a b c : Sp) : (a.join b).join c = a.join (b.join c) :=
  Sp.anti (Sp.least (Sp.least (Sp.left _ _) (Sp.trans (Sp.left b c) (Sp.right _ _))) (Sp.trans (Sp.right b c) (Sp.right _ _)))
    (Sp.least (Sp.trans (Sp.left a b) (Sp.left _ _)) (Sp.least (Sp.trans (Sp.right a b) (Sp.left _ _)) (Sp.right _ _)))
/-- a shape that a right type may have -/
def Sp.ok (a : Sp) : Prop := a.n ≤ 9 ∧ (a.k = 1 ∨ a.k = 2 ∨ a.k = 3 ∨ a.k = 4 ∨ a.k = 6)
theorem Sp.join_ok {a b : Sp} (ha : a.ok) (hb : b.ok) : (a.join b).ok := by
  unfold Sp.join
  split
  · exact hb
  · split
    · exact ha
    · refine ⟨?_, by simp⟩
      have := ha.1
      show min a.n b.n ≤ 9
      omega

/-- a type as a tree -/
inductive TT where
  | mk (k : Int) (ks : List TT)
def TT.kind : TT → Int | .mk k _ => k
def TT.kids : TT → List TT | .mk _ ks => ks

def rtN : Nat → Int → TT
  | 0, k => .mk k []
  | n + 1, k => .mk 5 [rtN n k]
def rt (a : Sp) : TT := rtN a.n a.k
def wrongTy : Nat → TT → Int
  | d, .mk k ks => if (10 : Int) < (d : Int) then 4 else if k < 1 ∨ 6 < k then 1 else if k ≠ 5 ∧ ks.length ≠ 0 then 5 else if k ≠ 5 then 0 else
    match ks with
    | [e] => wrongTy (d + 1) e
    | _ => 5
theorem wrongTy_leaf (k : Int) (d : Nat) : wrongTy d (.mk k []) = if (10 : Int) < (d : Int) then 4 else if k < 1 ∨ 6 < k then 1 else if k ≠ 5 then 0 else 5 := by
  rw [wrongTy]
  · simp
  · intro e h; cases h
theorem wrongTy_one (k : Int) (e : TT) (d : Nat) : wrongTy d (.mk k [e]) = if (10 : Int) < (d : Int) then 4 else if k < 1 ∨ 6 < k then 1 else if k ≠ 5 then 5 else wrongTy (d + 1) e := by
  rw [wrongTy]
  by_cases h : k = 5 <;> simp [h]
theorem wrongTy_more (k : Int) (e f : TT) (r : List TT) (d : Nat) : wrongTy d (.mk k (e :: f :: r)) = if (10 : Int) < (d : Int) then 4 else if k < 1 ∨ 6 < k then 1 else 5 := by
  rw [wrongTy]
  · by_cases h : k = 5 <;> simp [h]
  · intro e h; cases h
theorem right_of : ∀ (T : TT) (d : Nat), 1 ≤ d → wrongTy d T = 0 → ∃ n k, T = rtN n k ∧ n + d ≤ 10 ∧ (k = 1 ∨ k = 2 ∨ k = 3 ∨ k = 4 ∨ k = 6)
  | .mk k [], d, hd, h => by
    rw [wrongTy_leaf] at h
    split at h
    · cases h
    split at h
    · cases h
    split at h
    · exact ⟨0, k, rfl, by omega, by omega⟩
    · cases h
  | .mk k [e], d, hd, h => by
    rw [wrongTy_one] at h
    split at h
    · cases h
    split at h
    · cases h
    split at h
    · cases h
    · rename_i h1 h2 h3
      obtain ⟨n, k', he, hn, hk⟩ := right_of e (d + 1) (by omega) h
      refine ⟨n + 1, k', ?_, by omega, hk⟩
      rw [rtN, ← he, show k = 5 by omega]
  | .mk k (e :: f :: r), d, hd, h => by
    rw [wrongTy_more] at h
    split at h
    · cases h
    split at h
    · cases h
    · cases h
theorem right_sp {T : TT} (h : wrongTy 1 T = 0) : ∃ a : Sp, a.ok ∧ T = rt a := by
  obtain ⟨n, k, he, hn, hk⟩ := right_of T 1 (by omega) h
  exact ⟨⟨n, k⟩, ⟨by simp only; omega, hk⟩, he⟩
end Go.Proofs.YtbdgngfpofohpaaDoor

/- Types in memory: two cells a node. -/
namespace Go.Proofs.YtbdgngfpofohpaaDoor
open Go.RowKit

/-- two cells in a row -/
def Two (w : World) (b o : Nat) (u : Array Value) : Prop := ∃ u0 u1, u = #[u0, u1] ∧ w.cell? ⟨b, o, none⟩ = some u0 ∧ w.cell? ⟨b, o + 1, none⟩ = some u1
theorem Two.below {B : Nat} {w w' : World} {b o : Nat} {u : Array Value} (h : Two w b o u) (hb : Below B w w') (l : b < B) : Two w' b o u := by
  have c : ∀ o, w'.cell? ⟨b, o, none⟩ = w.cell? ⟨b, o, none⟩ := fun o => hb.cell (p := ⟨b, o, none⟩) l
  obtain ⟨u0, u1, hu, h0, h1⟩ := h
  exact ⟨u0, u1, hu, by rw [c, h0], by rw [c, h1]⟩

mutual
/-- a type in memory, in blocks that are P -/
def MemTP (P : Nat → Prop) (w : World) : TT → Array Value → Prop
  | .mk k ks, v => ks.length ≤ 9223372036854775807 ∧
    ∃ (a : Option Addr) (cap : Nat), v = #[.int .i64 k, .slice a ks.length cap] ∧ (ks ≠ [] → ∃ b off, a = some ⟨b, off, none⟩ ∧ P b ∧ MemTL P w ks b off)
def MemTL (P : Nat → Prop) (w : World) : List TT → Nat → Nat → Prop
  | [], _, _ => True
  | u :: us, b, off => (∃ cs, Two w b off cs ∧ MemTP P w u cs) ∧ MemTL P w us b (off + 2)
end

theorem Two.keep {w w' : World} {b o : Nat} {u : Array Value} (h : Two w b o u) (c : ∀ o, w'.cell? ⟨b, o, none⟩ = w.cell? ⟨b, o, none⟩) : Two w' b o u := by
  obtain ⟨u0, u1, hu, h0, h1⟩ := h
  exact ⟨u0, u1, hu, by rw [c, h0], by rw [c, h1]⟩
mutual
theorem MemTP.keep {P Q : Nat → Prop} {w w' : World} (hb : ∀ b, P b → Q b ∧ ∀ o, w'.cell? ⟨b, o, none⟩ = w.cell? ⟨b, o, none⟩) : ∀ {T : TT} {v : Array Value}, MemTP P w T v → MemTP Q w' T v
  | .mk k ks, v, h => by
    rw [MemTP] at h ⊢
    obtain ⟨h2, a, cap, hv, hk⟩ := h
    refine ⟨h2, a, cap, hv, fun hne => ?_⟩
    obtain ⟨b, off, ha, hlt, hm⟩ := hk hne
    exact ⟨b, off, ha, (hb b hlt).1, MemTL.keep hb hlt hm⟩
theorem MemTL.keep {P Q : Nat → Prop} {w w' : World} (hb : ∀ b, P b → Q b ∧ ∀ o, w'.cell? ⟨b, o, none⟩ = w.cell? ⟨b, o, none⟩) : ∀ {ks : List TT} {b off : Nat}, P b → MemTL P w ks b off → MemTL Q w' ks b off
  | [], _, _, _, _ => by rw [MemTL]; trivial
  | u :: us, b, off, hlt, h => by
    rw [MemTL] at h ⊢
    obtain ⟨⟨cs, h6, hm⟩, hr⟩ := h
    exact ⟨⟨cs, h6.keep (hb b hlt).2, MemTP.keep hb hm⟩, MemTL.keep hb hlt hr⟩
end

/-- a type in memory, below B -/
def MemT (B : Nat) (w : World) (T : TT) (v : Array Value) : Prop := MemTP (· < B) w T v
theorem MemT.below {B : Nat} {w w' : World} (hb : Below B w w') {T : TT} {v : Array Value} (h : MemT B w T v) : MemT B w' T v :=
  MemTP.keep (fun b hlt => ⟨hlt, fun o => hb.cell (p := ⟨b, o, none⟩) hlt⟩) h
theorem MemT.mono {B B' : Nat} {w : World} (hB : B ≤ B') {T : TT} {v : Array Value} (h : MemT B w T v) : MemT B' w T v :=
  MemTP.keep (fun _ hlt => ⟨Nat.lt_of_lt_of_le hlt hB, fun _ => rfl⟩) h

/-- a type in memory that grew -/
theorem MemT.grow {w w' : World} {T : TT} {v : Array Value} (h : MemT w.heap.size w T v) (hb : Below w.heap.size w w') : MemT w'.heap.size w' T v :=
  (h.below hb).mono hb.size
theorem MemTP.kid {P : Nat → Prop} {w : World} {k : Int} {T : TT} {v : Array Value} (h : MemTP P w (.mk k [T]) v) :
    ∃ b off cap u0 u1, v = #[.int .i64 k, .slice (some ⟨b, off, none⟩) 1 cap] ∧ P b ∧ w.cell? ⟨b, off, none⟩ = some u0 ∧ w.cell? ⟨b, off + 1, none⟩ = some u1 ∧ MemTP P w T #[u0, u1] := by
  rw [MemTP] at h
  obtain ⟨_, a, cap, hv, hk⟩ := h
  obtain ⟨b, off, ha, hlt, hm⟩ := hk (by simp)
  rw [MemTL] at hm
  obtain ⟨⟨cs, ⟨u0, u1, hu, h0, h1⟩, hT⟩, _⟩ := hm
  subst hu ha
  exact ⟨b, off, cap, u0, u1, by simpa using hv, hlt, h0, h1, hT⟩
theorem MemTP.leaf {P : Nat → Prop} {w : World} {k : Int} {v : Array Value} (h : MemTP P w (.mk k []) v) : ∃ a cap, v = #[.int .i64 k, .slice a 0 cap] := by
  rw [MemTP] at h
  obtain ⟨_, a, cap, hv, _⟩ := h
  exact ⟨a, cap, by simpa using hv⟩
theorem MemTP.any {P : Nat → Prop} {w : World} {k : Int} {ks : List TT} {v : Array Value} (h : MemTP P w (.mk k ks) v) : ks.length ≤ 9223372036854775807 ∧ ∃ a cap, v = #[.int .i64 k, .slice a ks.length cap] := by
  rw [MemTP] at h
  obtain ⟨h2, a, cap, hv, _⟩ := h
  exact ⟨h2, a, cap, hv⟩
theorem MemTP.mkLeaf (P : Nat → Prop) (w : World) (k : Int) (a : Option Addr) (cap : Nat) : MemTP P w (.mk k []) #[.int .i64 k, .slice a 0 cap] := by
  rw [MemTP]
  exact ⟨by simp, a, cap, rfl, fun h => absurd rfl h⟩
theorem MemTP.mkKid {P : Nat → Prop} {w : World} {T : TT} {b off : Nat} {u0 u1 : Value} (k : Int) (cap : Nat) (hP : P b) (h0 : w.cell? ⟨b, off, none⟩ = some u0) (h1 : w.cell? ⟨b, off + 1, none⟩ = some u1) (h : MemTP P w T #[u0, u1]) :
    MemTP P w (.mk k [T]) #[.int .i64 k, .slice (some ⟨b, off, none⟩) 1 cap] := by
  rw [MemTP]
  refine ⟨by simp, some ⟨b, off, none⟩, cap, rfl, fun _ => ⟨b, off, rfl, hP, ?_⟩⟩
  rw [MemTL, MemTL]
  exact ⟨⟨_, ⟨u0, u1, rfl, h0, h1⟩, h⟩, trivial⟩
end Go.Proofs.YtbdgngfpofohpaaDoor

/- A value that came in, opened. -/
namespace Go.Proofs.YtbdgngfpofohpaaDoor
open Go.ChangeShapes Go.WideShapes Go.ChangeAt Go.RowKit Go.Joins

theorem cellsDec : Tryd.prog.cellsOf 23 = 2 := by kernel_rfl
theorem cellsVal : Tryd.prog.cellsOf 26 = 6 := by kernel_rfl
theorem cellsInt : Tryd.prog.cellsOf 3 = 1 := by kernel_rfl
theorem cellsBool : Tryd.prog.cellsOf 4 = 1 := by kernel_rfl
theorem cellsStr : Tryd.prog.cellsOf 9 = 1 := by kernel_rfl
theorem cellsList : Tryd.prog.cellsOf 24 = 1 := by kernel_rfl
theorem cellsI64 : Tryd.prog.cellsOf 2 = 1 := by kernel_rfl
theorem laidOut : laidOutB Tryd.prog = true := by kernel_rfl

theorem array6 {α : Type} {cs : Array α} (h : cs.size = 6) : ∃ c0 c1 c2 c3 c4 c5, cs = #[c0, c1, c2, c3, c4, c5] := by
  obtain ⟨l⟩ := cs
  match l, h with
  | [c0, c1, c2, c3, c4, c5], _ => exact ⟨c0, c1, c2, c3, c4, c5, rfl⟩

theorem list5 {α : Type} {l : List α} (h : l.length = 5) : ∃ c0 c1 c2 c3 c4, l = [c0, c1, c2, c3, c4] := by
  match l, h with
  | [c0, c1, c2, c3, c4], _ => exact ⟨c0, c1, c2, c3, c4, rfl⟩

section
variable {H : Type} {enc : TypeId × Value → H} {w : World} {base : Nat} {spare : Nat → Bool} {held : Bool}
set_option maxRecDepth 100000 in
theorem open_value {r : Reach} {b0 : Nat} {v : Value} {d : DataW H} {p : List MemPlace}
    (hv : Value.okWide Tryd.prog w r b0 26 v) (h : DataW.Trod enc Tryd.prog w base spare held 26 v d p) :
    ∃ (k : Int) (y : Bool) (c x : Int) (t : ByteArray) (a : Option Addr) (n m : Nat), v = .agg #[.int .i64 k, .bool y, .int .i64 c, .int .i64 x, .string t, .slice a n m] := by
  obtain ⟨cs, rfl, hsz⟩ := okWide_struct Tryd.underlying26 hv
  obtain ⟨c0, c1, c2, c3, c4, c5, rfl⟩ := array6 (hsz.trans cellsVal)
  obtain ⟨fuel, hf⟩ := h
  obtain ⟨xs, n, _, hx, hl, hlen, hf⟩ := DataW.trod_struct Tryd.underlying26 hf
  have h0 := hf 0 _ rfl
  have h1 := hf 1 _ rfl
  have h2 := hf 2 _ rfl
  have h3 := hf 3 _ rfl
  have h4 := hf 4 _ rfl
  simp [Value.cells, cellsInt, cellsBool, cellsDec, cellsStr, cellsList] at h0 h1 h2 h3 h4
  obtain ⟨y0, y1, y2, y3, y4, rfl⟩ := list5 hlen
  simp at h0 h1 h2 h3 h4
  obtain ⟨k, e0, _⟩ := DataW.trod_int Tryd.underlying3 h0
  obtain ⟨y, e1, _⟩ := DataW.trod_bool Tryd.underlying4 h1
  obtain ⟨z0, z1, n2, _, _, g0, g1⟩ := trod_struct2 Tryd.underlying23 h2
  simp [cellsI64, cellsInt] at g0 g1
  obtain ⟨c, e2, _⟩ := DataW.trod_int Tryd.underlying2 g0
  obtain ⟨x, e3, _⟩ := DataW.trod_int Tryd.underlying3 g1
  obtain ⟨t, e4, _⟩ := DataW.trod_string Tryd.underlying9 h3
  obtain ⟨a, l, m, e5⟩ := slice_form Tryd.underlying24 h4
  simp at e0 e1 e2 e3 e4 e5
  subst e0 e1 e2 e3 e4 e5
  exact ⟨k, y, c, x, t, a, l, m, rfl⟩
end
end Go.Proofs.YtbdgngfpofohpaaDoor
