/- Plain facts: when two trees are told the same. -/
import Derived.Test.YtdkgapapdjefdaaGreatDoorG19
namespace Go.Proofs.YtdkgapapdjefdaaGreatDoor

mutual
/-- what matching.equal tells (yes 2, not known 1, no 0), and how many pairs it has counted -/
def eqF : Tree → Tree → Nat → Nat → Nat × Nat
  | .mk k y c x t ks, .mk k' y' c' x' t' ks', s, d =>
    if 2000 < s + 1 ∨ 20 < d then (1, s + 1)
    else if k = 1 ∨ k' = 1 then (if k = k' then 2 else 0, s + 1)
    else if k = k' then
      (if k = 2 then (if y = y' then 2 else 0, s + 1)
      else if k = 3 then (if c = c' ∧ x = x' then 2 else 0, s + 1)
      else if k = 4 then (if t.toList = t'.toList then 2 else 0, s + 1)
      else if k = 5 then (if ks.length = ks'.length then eqL ks ks' 2 (s + 1) (d + 1) else (0, s + 1))
      else (1, s + 1))
    else (1, s + 1)
def eqL : List Tree → List Tree → Nat → Nat → Nat → Nat × Nat
  | [], _, a, s, _ => (a, s)
  | _ :: _, [], a, s, _ => (a, s)
  | u :: us, v :: vs, a, s, d => if min a (eqF u v s d).1 = 0 ∨ 2000 < (eqF u v s d).2 then (min a (eqF u v s d).1, (eqF u v s d).2) else eqL us vs (min a (eqF u v s d).1) (eqF u v s d).2 d
end

mutual
/-- what a value says, bare of what its kind has not -/
def bareT : Tree → Tree
  | .mk k y c x t ks => .mk k (if k = 2 then y else false) (if k = 3 then c else 0) (if k = 3 then x else 0) (if k = 4 then t else ⟨#[]⟩) (if k = 5 then bareL ks else [])
def bareL : List Tree → List Tree
  | [] => []
  | u :: us => bareT u :: bareL us
end
theorem bareL_len : ∀ ks : List Tree, (bareL ks).length = ks.length
  | [] => by rw [bareL]
  | u :: us => by rw [bareL, List.length_cons, List.length_cons, bareL_len us]

mutual
theorem eq_sym : ∀ (A B : Tree) (s d : Nat), eqF A B s d = eqF B A s d
  | .mk k y c x t ks, .mk k' y' c' x' t' ks', s, d => by
    rw [eqF, eqF]
    by_cases h1 : 2000 < s + 1 ∨ 20 < d
    · rw [if_pos h1, if_pos h1]
    rw [if_neg h1, if_neg h1]
    by_cases h2 : k = 1 ∨ k' = 1
    · rw [if_pos h2, if_pos (Or.comm.1 h2)]
      by_cases e : k = k'
      · rw [if_pos e, if_pos e.symm]
      · rw [if_neg e, if_neg (Ne.symm e)]
    rw [if_neg h2, if_neg (fun q => h2 (Or.comm.1 q))]
    by_cases e : k = k'
    · subst e
      rw [if_pos rfl, if_pos rfl, eqL_sym ks ks' 2 (s + 1) (d + 1)]
      simp only [eq_comm (a := y), eq_comm (a := c), eq_comm (a := x), eq_comm (a := t.toList), eq_comm (a := ks.length)]
    · rw [if_neg e, if_neg (Ne.symm e)]
theorem eqL_sym : ∀ (ks ks' : List Tree) (a s d : Nat), eqL ks ks' a s d = eqL ks' ks a s d
  | [], [], a, s, d => rfl
  | [], v :: vs, a, s, d => by rw [eqL, eqL]
  | u :: us, [], a, s, d => by rw [eqL, eqL]
  | u :: us, v :: vs, a, s, d => by
    rw [eqL, eqL, eq_sym u v s d, eqL_sym us vs]
end

mutual
theorem eq_le : ∀ (A B : Tree) (s d : Nat), (eqF A B s d).1 ≤ 2
  | .mk k y c x t ks, .mk k' y' c' x' t' ks', s, d => by
    rw [eqF]
    have h := eqL_le ks ks' 2 (s + 1) (d + 1) (Nat.le_refl _)
    (repeat' split) <;> first | exact h | (simp only; omega) | (simp only; split <;> omega)
theorem eqL_le : ∀ (ks ks' : List Tree) (a s d : Nat), a ≤ 2 → (eqL ks ks' a s d).1 ≤ 2
  | [], _, a, s, d, h => by rw [eqL]; exact h
  | u :: us, [], a, s, d, h => by rw [eqL]; exact h
  | u :: us, v :: vs, a, s, d, h => by
    rw [eqL]
    have h2 := eq_le u v s d
    split
    · simp only; omega
    · exact eqL_le us vs _ _ d (by omega)
end

mutual
theorem wrongF_ge : ∀ (T : Tree) (s d : Nat), s ≤ (wrongF T s d).2
  | .mk k y c x t ks, s, d => by
    rw [wrongF]
    have h := wrongL_ge ks (s + 1) (d + 1)
    (repeat' split) <;> (try simp only) <;> omega
theorem wrongL_ge : ∀ (ks : List Tree) (s d : Nat), s ≤ (wrongL ks s d).2
  | [], s, d => by rw [wrongL]; exact Nat.le_refl _
  | v :: vs, s, d => by
    rw [wrongL]
    have h := wrongF_ge v s d
    have h2 := wrongL_ge vs (wrongF v s d).2 d
    split <;> omega
end

theorem tl_eq {t t' : ByteArray} : t.toList = t'.toList ↔ t = t' := by
  constructor
  · intro h
    have e1 : t.data.toList = t'.data.toList := by rw [← Lib.toList_data, ← Lib.toList_data]; exact h
    cases t; cases t'
    simp only at e1
    rw [Array.toList_inj.1 e1]
  · intro h; rw [h]

mutual
/-- of right values: no bound is met, and yes is told of the same alone -/
theorem eq_ok : ∀ (A B : Tree) (s s0 d : Nat), s ≤ s0 → s0 ≤ 2000 → (wrongF A s0 d).1 = 0 → (eqF A B s d).2 ≤ (wrongF A s0 d).2 ∧ ((eqF A B s d).1 = 2 ↔ bareT A = bareT B)
  | .mk k y c x t ks, .mk k' y' c' x' t' ks', s, s0, d, hs, h0, hw => by
    rw [wrongF] at hw ⊢
    by_cases h1 : 2000 < s0 + 1 ∨ 20 < d
    · rw [if_pos h1] at hw; exact absurd hw (by simp)
    rw [if_neg h1] at hw ⊢
    rw [eqF, if_neg (by omega), bareT, bareT]
    by_cases hk : k = k'
    · subst hk
      by_cases k1 : k = 1
      · subst k1
        simp
        omega
      rw [if_neg (by omega), if_pos rfl]
      by_cases k2 : k = 2
      · subst k2
        by_cases e : y = y'
        · simp [e]; omega
        · simp [e]; omega
      rw [if_neg (by omega)] at hw ⊢
      rw [if_neg k2]
      by_cases k3 : k = 3
      · subst k3
        by_cases e : c = c' ∧ x = x'
        · simp [e]; omega
        · simp [e]; omega
      rw [if_neg k3] at hw ⊢
      rw [if_neg k3]
      by_cases k4 : k = 4
      · subst k4
        by_cases e : t = t'
        · simp [e]; omega
        · simp [e, tl_eq]; omega
      rw [if_neg k4] at hw ⊢
      rw [if_neg k4]
      by_cases k5 : k = 5
      · subst k5
        rw [if_pos rfl] at hw ⊢
        rw [if_pos rfl]
        by_cases l2 : 200 < ks.length
        · rw [if_pos l2] at hw; exact absurd hw (by simp)
        rw [if_neg l2] at hw ⊢
        by_cases e : ks.length = ks'.length
        · rw [if_pos e]
          obtain ⟨i1, i2⟩ := eqL_ok ks ks' 2 (s + 1) (s0 + 1) (d + 1) e (Nat.le_refl _) (by omega) (by omega) hw
          refine ⟨i1, ?_⟩
          rw [i2]
          simp
        · rw [if_neg e]
          have hm := wrongL_ge ks (s0 + 1) (d + 1)
          refine ⟨Nat.le_trans (by omega : s + 1 ≤ s0 + 1) hm, ?_⟩
          constructor
          · intro q; simp at q
          · intro q
            exfalso
            simp at q
            exact e (by rw [← bareL_len ks, q, bareL_len])
      · rw [if_neg k5] at hw; exact absurd hw (by simp)
    · have hn : ∀ a b c d e a' b' c' d' e', ¬ Tree.mk k a b c d e = Tree.mk k' a' b' c' d' e' := by
        intro a b c d e a' b' c' d' e' q
        injection q with q1
        exact hk q1
      have hge : s + 1 ≤ (if k = 1 ∨ k = 2 then (0, s0 + 1) else if k = 3 then (Dm.wrongN c x, s0 + 1) else if k = 4 then (wrongT t, s0 + 1) else if k = 5 then if 200 < ks.length then (5, s0 + 1) else wrongL ks (s0 + 1) (d + 1) else (1, s0 + 1) : Int × Nat).2 := by
        have := wrongL_ge ks (s0 + 1) (d + 1)
        (repeat' split) <;> (try simp only) <;> omega
      by_cases h2 : k = 1 ∨ k' = 1
      · rw [if_pos h2, if_neg hk]
        exact ⟨hge, ⟨fun q => by simp at q, fun q => absurd q (hn _ _ _ _ _ _ _ _ _ _)⟩⟩
      · rw [if_neg h2, if_neg hk]
        exact ⟨hge, ⟨fun q => by simp at q, fun q => absurd q (hn _ _ _ _ _ _ _ _ _ _)⟩⟩
theorem eqL_ok : ∀ (ks ks' : List Tree) (a s s0 d : Nat), ks.length = ks'.length → a ≤ 2 → s ≤ s0 → s0 ≤ 2000 → (wrongL ks s0 d).1 = 0 → (eqL ks ks' a s d).2 ≤ (wrongL ks s0 d).2 ∧ ((eqL ks ks' a s d).1 = 2 ↔ (a = 2 ∧ bareL ks = bareL ks'))
  | [], [], a, s, s0, d, _, _, hs, _, _ => by rw [eqL, wrongL]; simp; exact hs
  | [], v :: vs, a, s, s0, d, hl, _, _, _, _ => by simp at hl
  | u :: us, [], a, s, s0, d, hl, _, _, _, _ => by simp at hl
  | u :: us, v :: vs, a, s, s0, d, hl, ha, hs, h0, hw => by
    rw [wrongL] at hw ⊢
    by_cases hu : (wrongF u s0 d).1 = 0
    · rw [if_pos hu] at hw ⊢
      obtain ⟨i1, i2⟩ := eq_ok u v s s0 d hs h0 hu
      have hb := (wrongF_bd u s0 d h0).2 hu
      have hle := eq_le u v s d
      have hge := wrongL_ge us (wrongF u s0 d).2 d
      rw [eqL]
      have n2 : ¬ 2000 < (eqF u v s d).2 := by omega
      by_cases hz : min a (eqF u v s d).1 = 0
      · rw [if_pos (.inl hz)]
        refine ⟨by simp only; omega, ⟨fun q => by simp only at q; omega, ?_⟩⟩
        rintro ⟨rfl, q⟩
        rw [bareL, bareL] at q
        injection q with q1 q2
        have := i2.2 q1
        omega
      · rw [if_neg (by omega)]
        obtain ⟨j1, j2⟩ := eqL_ok us vs (min a (eqF u v s d).1) (eqF u v s d).2 (wrongF u s0 d).2 d (by simpa using hl) (by omega) i1 hb hw
        refine ⟨j1, ?_⟩
        rw [j2, bareL, bareL]
        constructor
        · rintro ⟨q1, q2⟩
          refine ⟨by omega, ?_⟩
          rw [i2.1 (by omega), q2]
        · rintro ⟨rfl, q⟩
          injection q with q1 q2
          have := i2.2 q1
          exact ⟨by omega, q2⟩
    · rw [if_neg hu] at hw; exact absurd hw hu
end
mutual
theorem bare_bare : ∀ A : Tree, bareT (bareT A) = bareT A
  | .mk k y c x t ks => by
    rw [bareT, bareT]
    by_cases k5 : k = 5
    · subst k5
      simp [bareL_bare ks]
    · simp only [if_neg k5]
      congr 1 <;> split <;> rfl
theorem bareL_bare : ∀ ks : List Tree, bareL (bareL ks) = bareL ks
  | [] => by rw [bareL, bareL]
  | u :: us => by rw [bareL, bareL, bare_bare u, bareL_bare us]
end

mutual
/-- what Same tells -/
def sameB : Tree → Tree → Bool
  | .mk k y c x t ks, .mk k' y' c' x' t' ks' => decide (k = k') && decide (y = y') && decide (c = c') && decide (x = x') && decide (t.toList = t'.toList) && decide (ks.length = ks'.length) && sameL ks ks'
def sameL : List Tree → List Tree → Bool
  | [], _ => true
  | _ :: _, [] => true
  | u :: us, v :: vs => sameB u v && sameL us vs
end
mutual
theorem same_iff : ∀ (A B : Tree), sameB A B = true ↔ A = B
  | .mk k y c x t ks, .mk k' y' c' x' t' ks' => by
    rw [sameB]
    simp only [Bool.and_eq_true, decide_eq_true_eq, tl_eq]
    constructor
    · rintro ⟨⟨⟨⟨⟨⟨rfl, rfl⟩, rfl⟩, rfl⟩, rfl⟩, hl⟩, hs⟩
      rw [(sameL_iff ks ks' hl).1 hs]
    · intro q
      injection q with q1 q2 q3 q4 q5 q6
      subst q1 q2 q3 q4 q5 q6
      exact ⟨⟨⟨⟨⟨⟨rfl, rfl⟩, rfl⟩, rfl⟩, rfl⟩, rfl⟩, (sameL_iff ks ks rfl).2 rfl⟩
theorem sameL_iff : ∀ (ks ks' : List Tree), ks.length = ks'.length → (sameL ks ks' = true ↔ ks = ks')
  | [], [], _ => by simp [sameL]
  | [], v :: vs, h => by simp at h
  | u :: us, [], h => by simp at h
  | u :: us, v :: vs, h => by
    rw [sameL, Bool.and_eq_true, same_iff u v, sameL_iff us vs (by simpa using h), List.cons.injEq]
end
/-- the two answers agree -/
theorem eq_same {A B : Tree} (hA : (wrongF A 0 1).1 = 0) : decide ((eqF A B 0 1).1 = 2) = sameB (bareT A) (bareT B) := by
  have h := (eq_ok A B 0 0 1 (Nat.le_refl _) (by omega) hA).2
  rw [← same_iff] at h
  cases hb : sameB (bareT A) (bareT B) with
  | true => exact decide_eq_true (h.2 hb)
  | false => exact decide_eq_false (fun q => by rw [h.1 q] at hb; cases hb)
theorem eq_bare {A : Tree} (hA : (wrongF A 0 1).1 = 0) : (eqF A (bareT A) 0 1).1 = 2 :=
  (eq_ok A (bareT A) 0 0 1 (Nat.le_refl _) (by omega) hA).2.2 (bare_bare A).symm
end Go.Proofs.YtdkgapapdjefdaaGreatDoor

/- Plain: what the document's Equal tells (without a count), and that of right values matching tells the same. -/
namespace Go.Proofs.YtdkgapapdjefdaaGreatDoor

mutual
def eqP : Tree → Tree → Nat
  | .mk k y c x t ks, .mk k' y' c' x' t' ks' =>
    if k = 1 ∨ k' = 1 then (if k = k' then 2 else 0)
    else if k = k' then
      (if k = 2 then (if y = y' then 2 else 0)
      else if k = 3 then (if c = c' ∧ x = x' then 2 else 0)
      else if k = 4 then (if t.toList = t'.toList then 2 else 0)
      else if k = 5 then (if ks.length = ks'.length then eqPL ks ks' 2 else 0)
      else 0)
    else 1
def eqPL : List Tree → List Tree → Nat → Nat
  | [], _, a => a
  | _ :: _, [], a => a
  | u :: us, v :: vs, a => eqPL us vs (min a (eqP u v))
end

theorem eqPL_zero : ∀ (us vs : List Tree), eqPL us vs 0 = 0
  | [], _ => by rw [eqPL]
  | _ :: _, [] => by rw [eqPL]
  | u :: us, v :: vs => by rw [eqPL, Nat.zero_min, eqPL_zero us vs]

mutual
theorem eqP_le : ∀ (A B : Tree), eqP A B ≤ 2
  | .mk k y c x t ks, .mk k' y' c' x' t' ks' => by
    rw [eqP]
    have h := eqPL_le ks ks' 2 (Nat.le_refl _)
    (repeat' split) <;> omega
theorem eqPL_le : ∀ (ks ks' : List Tree) (a : Nat), a ≤ 2 → eqPL ks ks' a ≤ 2
  | [], _, a, h => by rw [eqPL]; exact h
  | u :: us, [], a, h => by rw [eqPL]; exact h
  | u :: us, v :: vs, a, h => by
    rw [eqPL]
    exact eqPL_le us vs _ (by omega)
end

mutual
/-- of right values the two tell the same -/
theorem eqp_same : ∀ (A B : Tree) (s s0 d : Nat), s ≤ s0 → s0 ≤ 2000 → (wrongF A s0 d).1 = 0 → (eqF A B s d).1 = eqP A B
  | .mk k y c x t ks, .mk k' y' c' x' t' ks', s, s0, d, hs, h0, hw => by
    rw [wrongF] at hw
    by_cases h1 : 2000 < s0 + 1 ∨ 20 < d
    · rw [if_pos h1] at hw; exact absurd hw (by simp)
    rw [if_neg h1] at hw
    rw [eqF, if_neg (by omega), eqP]
    by_cases h2 : k = 1 ∨ k' = 1
    · rw [if_pos h2, if_pos h2]
    rw [if_neg h2, if_neg h2]
    by_cases hk : k = k'
    · subst hk
      rw [if_pos rfl, if_pos rfl]
      by_cases k2 : k = 2
      · rw [if_pos k2, if_pos k2]
      rw [if_neg k2, if_neg k2]
      by_cases k3 : k = 3
      · rw [if_pos k3, if_pos k3]
      rw [if_neg k3, if_neg k3]
      by_cases k4 : k = 4
      · rw [if_pos k4, if_pos k4]
      rw [if_neg k4, if_neg k4]
      by_cases k5 : k = 5
      · rw [if_pos k5, if_pos k5]
        rw [if_neg (by omega), if_neg k3, if_neg k4, if_pos k5] at hw
        by_cases l2 : 200 < ks.length
        · rw [if_pos l2] at hw; exact absurd hw (by simp)
        rw [if_neg l2] at hw
        by_cases e : ks.length = ks'.length
        · rw [if_pos e, if_pos e]
          exact eqpL_same ks ks' 2 (s + 1) (s0 + 1) (d + 1) e (Nat.le_refl _) (by omega) (by omega) hw
        · rw [if_neg e, if_neg e]
      · rw [if_neg (by omega), if_neg k3, if_neg k4, if_neg k5] at hw; exact absurd hw (by simp)
    · rw [if_neg hk, if_neg hk]
theorem eqpL_same : ∀ (ks ks' : List Tree) (a s s0 d : Nat), ks.length = ks'.length → a ≤ 2 → s ≤ s0 → s0 ≤ 2000 → (wrongL ks s0 d).1 = 0 → (eqL ks ks' a s d).1 = eqPL ks ks' a
  | [], [], a, s, s0, d, _, _, hs, _, _ => by rw [eqL, eqPL]
  | [], v :: vs, a, s, s0, d, hl, _, _, _, _ => by simp at hl
  | u :: us, [], a, s, s0, d, hl, _, _, _, _ => by simp at hl
  | u :: us, v :: vs, a, s, s0, d, hl, ha, hs, h0, hw => by
    rw [wrongL] at hw
    by_cases hu : (wrongF u s0 d).1 = 0
    · rw [if_pos hu] at hw
      obtain ⟨i1, _⟩ := eq_ok u v s s0 d hs h0 hu
      have i3 := eqp_same u v s s0 d hs h0 hu
      have hb := (wrongF_bd u s0 d h0).2 hu
      rw [eqL, eqPL, i3]
      by_cases hz : min a (eqP u v) = 0
      · rw [if_pos (.inl hz), hz, eqPL_zero]
      · rw [if_neg (by omega)]
        have := eqP_le u v
        exact eqpL_same us vs _ _ (wrongF u s0 d).2 d (by simpa using hl) (by omega) i1 hb hw
    · rw [if_neg hu] at hw; exact absurd hw hu
end
end Go.Proofs.YtdkgapapdjefdaaGreatDoor

/- Tests as trees: what is wrong with one, what it says of a value, of which types it may be asked; how it lies in memory (sixteen cells a node). -/
namespace Go.Proofs.YtdkgapapdjefdaaGreatDoor
open Go.RowKit

inductive TS where
  | mk (k : Int) (a b : Tree) (oa ob : Bool) (ks : List TS)

def Tree.kd : Tree → Int | .mk k _ _ _ _ _ => k
/-- a number that may stand in a test -/
def inR (c x : Int) : Prop := Dm.sgn (Dm.V (max c (-c)) x - Dm.V 1 9) ≤ 0 ∧ -6 ≤ x
instance (c x : Int) : Decidable (inR c x) := by unfold inR; infer_instance
/-- what is wrong with a value in a test -/
def valW : Tree → Int
  | .mk k y c x t ks => if (wrongF (.mk k y c x t ks) 0 1).1 = 0 then (if k = 5 then 8 else if k = 3 ∧ ¬ inR c x then 3 else 0) else (wrongF (.mk k y c x t ks) 0 1).1
def oneW (a : Tree) : Int := if valW a = 0 then (if a.kd = 3 ∨ a.kd = 4 then 0 else 9) else valW a
def twoW (a b : Tree) : Int := if valW a = 0 then (if valW b = 0 then (if a.kd = 3 ∨ a.kd = 4 then (if b.kd = a.kd then 0 else 9) else 9) else valW b) else valW a

mutual
def wrongS : TS → Nat → Int
  | .mk k a b _ _ ks, d => if 4 < d then 4 else if k < 1 ∨ 9 < k then 1 else if k = 8 ∨ k = 9 then (if ks.length < 1 ∨ 20 < ks.length then 5 else wrongSL ks (d + 1))
    else if k = 1 then 0 else if k = 2 then valW a else if k = 7 then twoW a b else oneW a
def wrongSL : List TS → Nat → Int
  | [], _ => 0
  | u :: us, d => if wrongS u d = 0 then wrongSL us d else wrongS u d
end

mutual
/-- what a right test says of a right value, in halves -/
def doesS : TS → Tree → Nat
  | .mk k a b oa ob ks, v => if k = 1 then 2 else if k = 2 then eqP v a else if k = 3 then lessH v a else if k = 4 then 2 - lessH a v else if k = 5 then lessH a v else if k = 6 then 2 - lessH v a
    else if k = 7 then min (if oa = true then lessH a v else 2 - lessH v a) (if ob = true then lessH v b else 2 - lessH b v) else if k = 8 then doesL ks v else 2 - doesL ks v
def doesL : List TS → Tree → Nat
  | [], _ => 0
  | u :: us, v => max (doesS u v) (doesL us v)
end

def fitV (k ty : Int) : Bool := k == 1 || ty == 6 || (k == 2 && ty == 2) || (k == 3 && ty == 3) || (k == 4 && ty == 4)
mutual
def fitsS : TS → Int → Bool
  | .mk k a _ _ _ ks, ty => if k = 1 then true else if k = 8 ∨ k = 9 then fitsL ks ty else fitV a.kd ty
def fitsL : List TS → Int → Bool
  | [], _ => true
  | u :: us, ty => fitsS u ty && fitsL us ty
end

mutual
theorem doesS_le : ∀ (T : TS) (v : Tree), doesS T v ≤ 2
  | .mk k a b oa ob ks, v => by
    rw [doesS]
    have h1 := lessH_le v a
    have h2 := lessH_le a v
    have h3 := lessH_le v b
    have h4 := lessH_le b v
    have h5 := eqP_le v a
    have h6 := doesL_le ks v
    repeat' split
    all_goals omega
theorem doesL_le : ∀ (ks : List TS) (v : Tree), doesL ks v ≤ 2
  | [], v => by rw [doesL]; omega
  | u :: us, v => by
    rw [doesL]
    have h1 := doesS_le u v
    have h2 := doesL_le us v
    omega
end

/-- sixteen cells in a row -/
structure C16 (w : World) (b o : Nat) (u : Array Value) : Prop where
  size : u.size = 16
  cell : ∀ i v, u[i]? = some v → w.cell? ⟨b, o + i, none⟩ = some v
theorem C16.below {B : Nat} {w w' : World} {b o : Nat} {u : Array Value} (h : C16 w b o u) (hb : Below B w w') (l : b < B) : C16 w' b o u :=
  ⟨h.size, fun i v hv => (hb.cell (p := ⟨b, o + i, none⟩) l).trans (h.cell i v hv)⟩

theorem C16.tell {w : World} {b o : Nat} {v0 v1 v2 v3 v4 v5 v6 v7 v8 v9 v10 v11 v12 v13 v14 v15 : Value} (h : C16 w b o #[v0, v1, v2, v3, v4, v5, v6, v7, v8, v9, v10, v11, v12, v13, v14, v15]) :
    w.cell? ⟨b, o, none⟩ = some v0 ∧ w.cell? ⟨b, o + 1, none⟩ = some v1 ∧ w.cell? ⟨b, o + 2, none⟩ = some v2 ∧ w.cell? ⟨b, o + 3, none⟩ = some v3 ∧ w.cell? ⟨b, o + 4, none⟩ = some v4 ∧ w.cell? ⟨b, o + 5, none⟩ = some v5 ∧ w.cell? ⟨b, o + 6, none⟩ = some v6 ∧ w.cell? ⟨b, o + 7, none⟩ = some v7 ∧ w.cell? ⟨b, o + 8, none⟩ = some v8 ∧ w.cell? ⟨b, o + 9, none⟩ = some v9 ∧ w.cell? ⟨b, o + 10, none⟩ = some v10 ∧ w.cell? ⟨b, o + 11, none⟩ = some v11 ∧ w.cell? ⟨b, o + 12, none⟩ = some v12 ∧ w.cell? ⟨b, o + 13, none⟩ = some v13 ∧ w.cell? ⟨b, o + 14, none⟩ = some v14 ∧ w.cell? ⟨b, o + 15, none⟩ = some v15 :=
  ⟨h.cell 0 _ rfl, h.cell 1 _ rfl, h.cell 2 _ rfl, h.cell 3 _ rfl, h.cell 4 _ rfl, h.cell 5 _ rfl, h.cell 6 _ rfl, h.cell 7 _ rfl, h.cell 8 _ rfl, h.cell 9 _ rfl, h.cell 10 _ rfl, h.cell 11 _ rfl, h.cell 12 _ rfl, h.cell 13 _ rfl, h.cell 14 _ rfl, h.cell 15 _ rfl⟩
/-- a block of a test's sixteen cells that is carried along -/
structure B16 (w : World) (b : Nat) (u : Array Value) : Prop where
  low : b < w.heap.size
  cell : ∀ i v, u[i]? = some v → w.cell? ⟨b, i, none⟩ = some v
theorem B16.keep {w w' : World} {b n : Nat} {u : Array Value} (h : B16 w b u) (hb : Below n w w') (l : b < n) : B16 w' b u :=
  ⟨Nat.lt_of_lt_of_le h.low hb.size, fun i v hv => (hb.cell (p := ⟨b, i, none⟩) l).trans (h.cell i v hv)⟩
theorem B16.tell {w : World} {b : Nat} {v0 v1 v2 v3 v4 v5 v6 v7 v8 v9 v10 v11 v12 v13 v14 v15 : Value} (h : B16 w b #[v0, v1, v2, v3, v4, v5, v6, v7, v8, v9, v10, v11, v12, v13, v14, v15]) :
    w.cell? ⟨b, 0, none⟩ = some v0 ∧ w.cell? ⟨b, 1, none⟩ = some v1 ∧ w.cell? ⟨b, 2, none⟩ = some v2 ∧ w.cell? ⟨b, 3, none⟩ = some v3 ∧ w.cell? ⟨b, 4, none⟩ = some v4 ∧ w.cell? ⟨b, 5, none⟩ = some v5 ∧ w.cell? ⟨b, 6, none⟩ = some v6 ∧ w.cell? ⟨b, 7, none⟩ = some v7 ∧ w.cell? ⟨b, 8, none⟩ = some v8 ∧ w.cell? ⟨b, 9, none⟩ = some v9 ∧ w.cell? ⟨b, 10, none⟩ = some v10 ∧ w.cell? ⟨b, 11, none⟩ = some v11 ∧ w.cell? ⟨b, 12, none⟩ = some v12 ∧ w.cell? ⟨b, 13, none⟩ = some v13 ∧ w.cell? ⟨b, 14, none⟩ = some v14 ∧ w.cell? ⟨b, 15, none⟩ = some v15 :=
  ⟨h.cell 0 _ rfl, h.cell 1 _ rfl, h.cell 2 _ rfl, h.cell 3 _ rfl, h.cell 4 _ rfl, h.cell 5 _ rfl, h.cell 6 _ rfl, h.cell 7 _ rfl, h.cell 8 _ rfl, h.cell 9 _ rfl, h.cell 10 _ rfl, h.cell 11 _ rfl, h.cell 12 _ rfl, h.cell 13 _ rfl, h.cell 14 _ rfl, h.cell 15 _ rfl⟩
theorem B16.new {w : World} {t : TypeId} {u : Array Value} : B16 (w.alloc (.cells u t)) w.heap.size u :=
  ⟨by simp, fun i v hv => by simp [go_sem, hv]⟩
theorem B16.over {w : World} {b : Nat} {u : Array Value} {o : Obj} (h : B16 w b u) : B16 (w.alloc o) b u := h.keep (vbelow_new _ _) h.low

mutual
/-- a test in memory, below B -/
def MemS (B : Nat) (w : World) : TS → Array Value → Prop
  | .mk k a b oa ob ks, v => ks.length ≤ 9223372036854775807 ∧ ∃ (a0 a1 a2 a3 a4 a5 b0 b1 b2 b3 b4 b5 : Value) (ad : Option Addr) (cap : Nat), Mem B w a #[a0, a1, a2, a3, a4, a5] ∧ Mem B w b #[b0, b1, b2, b3, b4, b5] ∧
    v = #[.int .i64 k, a0, a1, a2, a3, a4, a5, b0, b1, b2, b3, b4, b5, .bool oa, .bool ob, .slice ad ks.length cap] ∧ (ks ≠ [] → ∃ bl off, ad = some ⟨bl, off, none⟩ ∧ bl < B ∧ MemSL B w ks bl off)
def MemSL (B : Nat) (w : World) : List TS → Nat → Nat → Prop
  | [], _, _ => True
  | u :: us, b, off => (∃ cs, C16 w b off cs ∧ MemS B w u cs) ∧ MemSL B w us b (off + 16)
end

mutual
theorem MemS.below {B : Nat} {w w' : World} (hb : Below B w w') : ∀ {T : TS} {v : Array Value}, MemS B w T v → MemS B w' T v
  | .mk k a b oa ob ks, v, h => by
    rw [MemS] at h ⊢
    obtain ⟨h1, a0, a1, a2, a3, a4, a5, b0, b1, b2, b3, b4, b5, ad, cap, ha, hb', hv, hk⟩ := h
    refine ⟨h1, a0, a1, a2, a3, a4, a5, b0, b1, b2, b3, b4, b5, ad, cap, Mem.below hb ha, Mem.below hb hb', hv, fun hne => ?_⟩
    obtain ⟨bl, off, e, hlt, hm⟩ := hk hne
    exact ⟨bl, off, e, hlt, MemSL.below hb hlt hm⟩
theorem MemSL.below {B : Nat} {w w' : World} (hb : Below B w w') : ∀ {ks : List TS} {b off : Nat}, b < B → MemSL B w ks b off → MemSL B w' ks b off
  | [], _, _, _, _ => by rw [MemSL]; trivial
  | u :: us, b, off, hlt, h => by
    rw [MemSL] at h ⊢
    obtain ⟨⟨cs, h6, hm⟩, hr⟩ := h
    exact ⟨⟨cs, h6.below hb hlt, MemS.below hb hm⟩, MemSL.below hb hlt hr⟩
end
mutual
theorem MemS.mono {B B' : Nat} {w : World} (hB : B ≤ B') : ∀ {T : TS} {v : Array Value}, MemS B w T v → MemS B' w T v
  | .mk k a b oa ob ks, v, h => by
    rw [MemS] at h ⊢
    obtain ⟨h1, a0, a1, a2, a3, a4, a5, b0, b1, b2, b3, b4, b5, ad, cap, ha, hb', hv, hk⟩ := h
    refine ⟨h1, a0, a1, a2, a3, a4, a5, b0, b1, b2, b3, b4, b5, ad, cap, Mem.mono hB ha, Mem.mono hB hb', hv, fun hne => ?_⟩
    obtain ⟨bl, off, e, hlt, hm⟩ := hk hne
    exact ⟨bl, off, e, Nat.lt_of_lt_of_le hlt hB, MemSL.mono hB hm⟩
theorem MemSL.mono {B B' : Nat} {w : World} (hB : B ≤ B') : ∀ {ks : List TS} {b off : Nat}, MemSL B w ks b off → MemSL B' w ks b off
  | [], _, _, _ => by rw [MemSL]; trivial
  | u :: us, b, off, h => by
    rw [MemSL] at h ⊢
    obtain ⟨⟨cs, h6, hm⟩, hr⟩ := h
    exact ⟨⟨cs, h6, MemS.mono hB hm⟩, MemSL.mono hB hr⟩
end
theorem MemSL.at {B : Nat} {w : World} : ∀ {ks : List TS} {b off : Nat}, MemSL B w ks b off → ∀ (i : Nat) (u : TS), ks[i]? = some u → ∃ cs, C16 w b (off + i * 16) cs ∧ MemS B w u cs
  | [], b, off, _, i, u, hi => by simp at hi
  | v :: vs, b, off, h, 0, u, hi => by
    rw [MemSL] at h
    simp only [List.getElem?_cons_zero, Option.some.injEq] at hi
    subst hi
    simpa using h.1
  | v :: vs, b, off, h, i + 1, u, hi => by
    rw [MemSL] at h
    obtain ⟨cs, h6, hm⟩ := MemSL.at h.2 i u (by simpa using hi)
    exact ⟨cs, by rw [show off + (i + 1) * 16 = off + 16 + i * 16 by omega]; exact h6, hm⟩
theorem MemS.grow {w w' : World} {T : TS} {v : Array Value} (h : MemS w.heap.size w T v) (hb : Below w.heap.size w w') : MemS w'.heap.size w' T v :=
  (h.below hb).mono hb.size
theorem Mem.six {B : Nat} {w : World} {T : Tree} {a0 a1 a2 a3 a4 a5 : Value} (h : Mem B w T #[a0, a1, a2, a3, a4, a5]) :
    ∃ (y : Bool) (c x : Int) (t : ByteArray) (l : Option Addr) (n m : Nat), a0 = .int .i64 T.kd ∧ a1 = .bool y ∧ a2 = .int .i64 c ∧ a3 = .int .i64 x ∧ a4 = .string t ∧ a5 = .slice l n m := by
  obtain ⟨k, y, c, x, t, ks⟩ := T
  rw [Mem] at h
  obtain ⟨_, _, a, cap, e, _⟩ := h
  simp only [Array.mk.injEq, List.cons.injEq, and_true] at e
  obtain ⟨e0, e1, e2, e3, e4, e5⟩ := e
  exact ⟨y, c, x, t, a, ks.length, cap, e0, e1, e2, e3, e4, e5⟩
theorem tdrop_at {ks : List Tree} {m : Nat} {u : Tree} (hlt : m < ks.length) (hu : ks[m]? = some u) : ks.drop m = u :: ks.drop (m + 1) := by
  rw [List.drop_eq_getElem_cons hlt]
  congr 1
  rw [List.getElem?_eq_getElem hlt] at hu
  exact Option.some.inj hu
theorem bv {w0 wp w1 : World} (h : Below w0.heap.size w0 wp) (k : Below wp.heap.size wp w1) : Below w0.heap.size w0 w1 := h.trans (k.mono h.size)
theorem sdrop_at {ks : List TS} {m : Nat} {u : TS} (hlt : m < ks.length) (hu : ks[m]? = some u) : ks.drop m = u :: ks.drop (m + 1) := by
  rw [List.drop_eq_getElem_cons hlt]
  congr 1
  rw [List.getElem?_eq_getElem hlt] at hu
  exact Option.some.inj hu
end Go.Proofs.YtdkgapapdjefdaaGreatDoor

/- Walks: what is wrong with a value in a test, and with values that others are less or more than, as the program tells. -/
namespace Go.Proofs.YtdkgapapdjefdaaGreatDoor
open Go.RowKit

theorem wrongN_abs {c x : Int} (h : Dm.wrongN c x = 0) : Dm.wrongN (max c (-c)) x = 0 := by
  rcases Int.le_total 0 c with h0 | h0
  · rw [show max c (-c) = c by omega]; exact h
  · rw [show max c (-c) = -c by omega]
    unfold Dm.wrongN at h ⊢
    rw [Int.neg_tmod]
    split at h
    · cases h
    split at h
    · cases h
    · rw [if_neg (by omega), if_neg (by omega)]

set_option maxHeartbeats 2000000 in
theorem inRange_any (c x : Int) (w : World) (h : Dm.wrongN c x = 0) :
    Calls Tryz.prog 121 #[.agg #[.int .i64 c, .int .i64 x]] w fun e w' => e = .returned (.bool (decide (inR c x))) ∧ Below w.heap.size w w' := by
  have CM := hide (fun wx => cmp_ok (max c (-c)) x 1 9 wx (wrongN_abs h) (by decide))
  obtain ⟨p1, p2, p3, p4, _⟩ := Dm.wrong_ok h
  have hn : IntKind.i64.wrap (-c) = -c := by rw [IntKind.wrap_i64]; omega
  have hd : decide (inR c x) = (decide (Dm.sgn (Dm.V (max c (-c)) x - Dm.V 1 9) ≤ 0) && decide (-6 ≤ x)) := by
    by_cases h1 : Dm.sgn (Dm.V (max c (-c)) x - Dm.V 1 9) ≤ 0 <;> by_cases h2 : -6 ≤ x <;> simp only [inR, h1, h2, and_true, and_false, decide_true, decide_false, Bool.and_true, Bool.and_false]
  rw [hd]
  generalize Dm.sgn (Dm.V (max c (-c)) x - Dm.V 1 9) = g at *
  clear hd h p1 p2 p3 p4
  go_enter Tryz.func121, Tryz.ntmps121
  go_wp2_with fail
  refine (unhide CM _).mono ?_
  rintro e w1 ⟨rfl, hb⟩
  have B2 := (vbelow_new w (.cells #[.int .i64 (max c (-c)), .int .i64 x] 24))
  have HB := hide (bv (bv B2 (vbelow_new _ (.cells #[.int .i64 1, .int .i64 9] 24))) hb)
  have q1 : w1.cell? ⟨w.heap.size, 1, none⟩ = some (.int .i64 x) := (hb.cell (p := ⟨w.heap.size, 1, none⟩) (by simp; omega)).trans (by simp [go_sem])
  clear hb B2 CM
  by_cases h1 : g ≤ 0
  · by_cases h2 : -6 ≤ x
    · go_wp2
      go_ret
      exact ⟨by simp [h1, h2], unhide HB⟩
    · go_wp2
      go_ret
      exact ⟨by simp; omega, unhide HB⟩
  · go_wp2
    go_ret
    exact ⟨by simp; omega, unhide HB⟩

/-- what is known when Wrong of a number tells nothing -/
theorem wf_num0 {y : Bool} {c x : Int} {t : ByteArray} {ks : List Tree} (h : (wrongF (.mk 3 y c x t ks) 0 1).1 = 0) : Dm.wrongN c x = 0 := by
  rw [wf_num (by omega)] at h
  exact h

set_option maxHeartbeats 2000000 in
theorem wrongValue_any (T : Tree) (v : Array Value) (B : Nat) (w : World) (hB : B ≤ w.heap.size) (hM : Mem B w T v) (hT : TabsIn B w) :
    Calls Tryz.prog 85 #[.agg v] w fun e w' => e = .returned (.int .i64 (valW T)) ∧ Below w.heap.size w w' := by
  have LW := hide (fun wx (hb : Below w.heap.size w wx) => logicWrong_any T v B wx (Nat.le_trans hB hb.size) (Mem.below (hb.mono hB) hM) (hT.below (hb.mono hB)))
  obtain ⟨k, y, c, x, t, ks⟩ := T
  rw [Mem] at hM
  obtain ⟨_, _, a, cap, rfl, _⟩ := hM
  have HV := hide (show valW (.mk k y c x t ks) = _ from by rw [valW])
  have HN : Hid (k = 3 → (wrongF (.mk k y c x t ks) 0 1).1 = 0 → Dm.wrongN c x = 0) := hide fun e h => by subst e; exact wf_num0 h
  generalize (wrongF (.mk k y c x t ks) 0 1).1 = W at *
  generalize valW (.mk k y c x t ks) = R at *
  clear hT
  go_enter Tryz.func85, Tryz.ntmps85
  go_wp2_with fail
  refine (unhide LW _ (vbelow_new _ _)).mono ?_
  rintro e w1 ⟨rfl, hb⟩
  have HB := hide (bv (vbelow_new w _) hb)
  have BX := Box.new.keep hb (by simp)
  obtain ⟨q0, q1, q2, q3, q4, q5⟩ := BX.tell
  clear hb BX LW
  by_cases h0 : W = 0
  · subst h0
    by_cases k5 : k = 5
    · subst k5
      have HE : Hid (R = 8) := hide (by rw [unhide HV, if_pos rfl, if_pos rfl])
      go_wp2
      go_ret
      rw [unhide HE]
      exact ⟨rfl, unhide HB⟩
    by_cases k3 : k = 3
    · subst k3
      have IR := hide (fun wx => inRange_any c x wx (unhide HN rfl rfl))
      by_cases hr : inR c x
      · have HE : Hid (R = 0) := hide (by rw [unhide HV, if_pos rfl, if_neg (by decide), if_neg (fun h => h.2 hr)])
        rw [decide_eq_true hr] at IR
        go_wp2_with fail
        refine (unhide IR _).mono ?_
        rintro e w2 ⟨rfl, hb⟩
        have HB2 := hide (bv (unhide HB) hb)
        clear hb
        go_wp2
        go_ret
        rw [unhide HE]
        exact ⟨rfl, unhide HB2⟩
      · have HE : Hid (R = 3) := hide (by rw [unhide HV, if_pos rfl, if_neg (by decide), if_pos ⟨rfl, hr⟩])
        rw [decide_eq_false hr] at IR
        go_wp2_with fail
        refine (unhide IR _).mono ?_
        rintro e w2 ⟨rfl, hb⟩
        have HB2 := hide (bv (unhide HB) hb)
        clear hb
        go_wp2
        go_ret
        rw [unhide HE]
        exact ⟨rfl, unhide HB2⟩
    · have HE : Hid (R = 0) := hide (by rw [unhide HV, if_pos rfl, if_neg k5, if_neg (fun h => k3 h.1)])
      have k5' : (k == 5) = false := by simpa using k5
      have k3' : (k == 3) = false := by simpa using k3
      go_wp2
      go_ret
      rw [unhide HE]
      exact ⟨rfl, unhide HB⟩
  · have HE : Hid (R = W) := hide (by rw [unhide HV, if_neg h0])
    have h0' : (W != 0) = true := by simp [h0]
    clear q0 q1 q2 q3 q4 q5
    go_wp2
    go_ret
    rw [unhide HE]
    exact ⟨rfl, unhide HB⟩
end Go.Proofs.YtdkgapapdjefdaaGreatDoor

/- Walks: Same of two trees. -/
namespace Go.Proofs.YtdkgapapdjefdaaGreatDoor
open Go.RowKit

/-- what Same tells of two trees -/
def SameC (T : Tree) : Prop := ∀ (U : Tree) (B : Nat) (w : World) (v u : Array Value), Mem B w T v → Mem B w U u → B ≤ w.heap.size →
  Calls Tryz.prog 10 #[.agg v, .agg u] w fun e w' => e = .returned (.bool (sameB T U)) ∧ Below w.heap.size w w'

theorem sameL_cons (u v : Tree) (us vs : List Tree) : sameL (u :: us) (v :: vs) = (sameB u v && sameL us vs) := by rw [sameL]
theorem sameL_nil (vs : List Tree) : sameL [] vs = true := by rw [sameL]

set_option maxHeartbeats 2000000 in
theorem same_no (k : Int) (y : Bool) (c x : Int) (t : ByteArray) (k' : Int) (y' : Bool) (c' x' : Int) (t' : ByteArray) (a a' : Option Addr) (n n' cap cap' B : Nat) (w : World) (hB : B ≤ w.heap.size)
    (h : ¬ (k = k' ∧ y = y' ∧ c = c' ∧ x = x' ∧ t.toList = t'.toList ∧ n = n')) :
    Calls Tryz.prog 10 #[.agg #[.int .i64 k, .bool y, .int .i64 c, .int .i64 x, .string t, .slice a n cap], .agg #[.int .i64 k', .bool y', .int .i64 c', .int .i64 x', .string t', .slice a' n' cap']] w fun e w' => e = .returned (.bool false) ∧ Below B w w' := by
  have hb : ∀ o o', Below B w ((w.alloc o).alloc o') := fun o o' => ((Below.refl B w).alloc hB o).alloc (by simp; omega) o'
  have HB := hide hb
  clear hb
  by_cases h1 : k = k'
  · subst h1
    by_cases h2 : y = y'
    · subst h2
      by_cases h3 : c = c' ∧ x = x'
      · obtain ⟨rfl, rfl⟩ := h3
        by_cases h4 : t.toList = t'.toList
        · have h5 : ¬ n = n' := fun q => h ⟨rfl, rfl, rfl, rfl, h4, q⟩
          have h5' : ((n : Int) != (n' : Int)) = true := by simp; omega
          clear h
          go_enter Tryz.func10, Tryz.ntmps10
          go_wp2
          go_ret
          exact ⟨rfl, unhide HB _ _⟩
        · have h4' : (t.toList == t'.toList) = false := by simp [h4]
          clear h
          go_enter Tryz.func10, Tryz.ntmps10
          go_wp2
          go_ret
          exact ⟨rfl, unhide HB _ _⟩
      · clear h
        by_cases h6 : c = c'
        · have h7 : ¬ x = x' := fun q => h3 ⟨h6, q⟩
          subst h6
          clear h3
          go_enter Tryz.func10, Tryz.ntmps10
          go_wp2
          go_ret
          exact ⟨rfl, unhide HB _ _⟩
        · clear h3
          go_enter Tryz.func10, Tryz.ntmps10
          go_wp2
          go_ret
          exact ⟨rfl, unhide HB _ _⟩
    · clear h
      have h2' : (y != y') = true := by simp [h2]
      go_enter Tryz.func10, Tryz.ntmps10
      go_wp2
      go_ret
      exact ⟨rfl, unhide HB _ _⟩
  · clear h
    have h1' : (k != k') = true := by simp [h1]
    go_enter Tryz.func10, Tryz.ntmps10
    go_wp2
    go_ret
    exact ⟨rfl, unhide HB _ _⟩
end Go.Proofs.YtdkgapapdjefdaaGreatDoor
