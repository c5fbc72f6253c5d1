/- Plain facts: when two trees are told the same. -/
import Derived.Test.YthhdgimphnbjbaaDoorT0
namespace Go.Proofs.YthhdgimphnbjbaaDoor

mutual
/-- what matching.equal tells (yes 2, not known 1, no 0), and how many pairs it has counted -/
def eqF : Tree → Tree → Nat → Nat → Nat × Nat
  | .mk k y c x t ks, .mk k' y' c' x' t' ks', s, d =>
    if 2000 < s + 1 ∨ 20 < d then (1, s + 1)
    else if k = 1 ∨ k' = 1 then (if k = k' then 2 else 0, s + 1)
    else if k = k' then
      (if k = 2 then (if y = y' then 2 else 0, s + 1)
      else if k = 3 then (if c = c' ∧ x = x' then 2 else 0, s + 1)
      else if k = 4 then (if t.toList = t'.toList then 2 else 0, s + 1)
      else if k = 5 then (if ks.length = ks'.length then eqL ks ks' 2 (s + 1) (d + 1) else (0, s + 1))
      else (1, s + 1))
    else (1, s + 1)
def eqL : List Tree → List Tree → Nat → Nat → Nat → Nat × Nat
  | [], _, a, s, _ => (a, s)
  | _ :: _, [], a, s, _ => (a, s)
  | u :: us, v :: vs, a, s, d => if min a (eqF u v s d).1 = 0 ∨ 2000 < (eqF u v s d).2 then (min a (eqF u v s d).1, (eqF u v s d).2) else eqL us vs (min a (eqF u v s d).1) (eqF u v s d).2 d
end

mutual
/-- what a value says, bare of what its kind has not -/
def bareT : Tree → Tree
  | .mk k y c x t ks => .mk k (if k = 2 then y else false) (if k = 3 then c else 0) (if k = 3 then x else 0) (if k = 4 then t else ⟨#[]⟩) (if k = 5 then bareL ks else [])
def bareL : List Tree → List Tree
  | [] => []
  | u :: us => bareT u :: bareL us
end
theorem bareL_len : ∀ ks : List Tree, (bareL ks).length = ks.length
  | [] => by rw [bareL]
  | u :: us => by rw [bareL, List.length_cons, List.length_cons, bareL_len us]

mutual
theorem eq_sym : ∀ (A B : Tree) (s d : Nat), eqF A B s d = eqF B A s d
  | .mk k y c x t ks, .mk k' y' c' x' t' ks', s, d => by
    rw [eqF, eqF]
    by_cases h1 : 2000 < s + 1 ∨ 20 < d
    · rw [if_pos h1, if_pos h1]
    rw [if_neg h1, if_neg h1]
    by_cases h2 : k = 1 ∨ k' = 1
    · rw [if_pos h2, if_pos (Or.comm.1 h2)]
      by_cases e : k = k'
      · rw [if_pos e, if_pos e.symm]
      · rw [if_neg e, if_neg (Ne.symm e)]
    rw [if_neg h2, if_neg (fun q => h2 (Or.comm.1 q))]
    by_cases e : k = k'
    · subst e
      rw [if_pos rfl, if_pos rfl, eqL_sym ks ks' 2 (s + 1) (d + 1)]
      simp only [eq_comm (a := y), eq_comm (a := c), eq_comm (a := x), eq_comm (a := t.toList), eq_comm (a := ks.length)]
    · rw [if_neg e, if_neg (Ne.symm e)]
theorem eqL_sym : ∀ (ks ks' : List Tree) (a s d : Nat), eqL ks ks' a s d = eqL ks' ks a s d
  | [], [], a, s, d => rfl
  | [], v :: vs, a, s, d => by rw [eqL, eqL]
  | u :: us, [], a, s, d => by rw [eqL, eqL]
  | u :: us, v :: vs, a, s, d => by
    rw [eqL, eqL, eq_sym u v s d, eqL_sym us vs]
end

mutual
theorem eq_le : ∀ (A B : Tree) (s d : Nat), (eqF A B s d).1 ≤ 2
  | .mk k y c x t ks, .mk k' y' c' x' t' ks', s, d => by
    rw [eqF]
    have h := eqL_le ks ks' 2 (s + 1) (d + 1) (Nat.le_refl _)
    (repeat' split) <;> first | exact h | (simp only; omega) | (simp only; split <;> omega)
theorem eqL_le : ∀ (ks ks' : List Tree) (a s d : Nat), a ≤ 2 → (eqL ks ks' a s d).1 ≤ 2
  | [], _, a, s, d, h => by rw [eqL]; exact h
  | u :: us, [], a, s, d, h => by rw [eqL]; exact h
  | u :: us, v :: vs, a, s, d, h => by
    rw [eqL]
    have h2 := eq_le u v s d
    split
    · simp only; omega
    · exact eqL_le us vs _ _ d (by omega)
end

mutual
theorem wrongF_ge : ∀ (T : Tree) (s d : Nat), s ≤ (wrongF T s d).2
  | .mk k y c x t ks, s, d => by
    rw [wrongF]
    have h := wrongL_ge ks (s + 1) (d + 1)
    (repeat' split) <;> (try simp only) <;> omega
theorem wrongL_ge : ∀ (ks : List Tree) (s d : Nat), s ≤ (wrongL ks s d).2
  | [], s, d => by rw [wrongL]; exact Nat.le_refl _
  | v :: vs, s, d => by
    rw [wrongL]
    have h := wrongF_ge v s d
    have h2 := wrongL_ge vs (wrongF v s d).2 d
    split <;> omega
end

theorem tl_eq {t t' : ByteArray} : t.toList = t'.toList ↔ t = t' := by
  constructor
  · intro h
    have e1 : t.data.toList = t'.data.toList := by rw [← Lib.toList_data, ← Lib.toList_data]; exact h
    cases t; cases t'
    simp only at e1
    rw [Array.toList_inj.1 e1]
  · intro h; rw [h]

mutual
/-- of right values: no bound is met, and yes is told of the same alone -/
theorem eq_ok : ∀ (A B : Tree) (s s0 d : Nat), s ≤ s0 → s0 ≤ 2000 → (wrongF A s0 d).1 = 0 → (eqF A B s d).2 ≤ (wrongF A s0 d).2 ∧ ((eqF A B s d).1 = 2 ↔ bareT A = bareT B)
  | .mk k y c x t ks, .mk k' y' c' x' t' ks', s, s0, d, hs, h0, hw => by
    rw [wrongF] at hw ⊢
    by_cases h1 : 2000 < s0 + 1 ∨ 20 < d
    · rw [if_pos h1] at hw; exact absurd hw (by simp)
    rw [if_neg h1] at hw ⊢
    rw [eqF, if_neg (by omega), bareT, bareT]
    by_cases hk : k = k'
    · subst hk
      by_cases k1 : k = 1
      · subst k1
        simp
        omega
      rw [if_neg (by omega), if_pos rfl]
      by_cases k2 : k = 2
      · subst k2
        by_cases e : y = y'
        · simp [e]; omega
        · simp [e]; omega
      rw [if_neg (by omega)] at hw ⊢
      rw [if_neg k2]
      by_cases k3 : k = 3
      · subst k3
        by_cases e : c = c' ∧ x = x'
        · simp [e]; omega
        · simp [e]; omega
      rw [if_neg k3] at hw ⊢
      rw [if_neg k3]
      by_cases k4 : k = 4
      · subst k4
        by_cases e : t = t'
        · simp [e]; omega
        · simp [e, tl_eq]; omega
      rw [if_neg k4] at hw ⊢
      rw [if_neg k4]
      by_cases k5 : k = 5
      · subst k5
        rw [if_pos rfl] at hw ⊢
        rw [if_pos rfl]
        by_cases l2 : 200 < ks.length
        · rw [if_pos l2] at hw; exact absurd hw (by simp)
        rw [if_neg l2] at hw ⊢
        by_cases e : ks.length = ks'.length
        · rw [if_pos e]
          obtain ⟨i1, i2⟩ := eqL_ok ks ks' 2 (s + 1) (s0 + 1) (d + 1) e (Nat.le_refl _) (by omega) (by omega) hw
          refine ⟨i1, ?_⟩
          rw [i2]
          simp
        · rw [if_neg e]
          have hm := wrongL_ge ks (s0 + 1) (d + 1)
          refine ⟨Nat.le_trans (by omega : s + 1 ≤ s0 + 1) hm, ?_⟩
          constructor
          · intro q; simp at q
          · intro q
            exfalso
            simp at q
            exact e (by rw [← bareL_len ks, q, bareL_len])
      · rw [if_neg k5] at hw; exact absurd hw (by simp)
    · have hn : ∀ a b c d e a' b' c' d' e', ¬ Tree.mk k a b c d e = Tree.mk k' a' b' c' d' e' := by
        intro a b c d e a' b' c' d' e' q
        injection q with q1
        exact hk q1
      have hge : s + 1 ≤ (if k = 1 ∨ k = 2 then (0, s0 + 1) else if k = 3 then (Dm.wrongN c x, s0 + 1) else if k = 4 then (wrongT t, s0 + 1) else if k = 5 then if 200 < ks.length then (5, s0 + 1) else wrongL ks (s0 + 1) (d + 1) else (1, s0 + 1) : Int × Nat).2 := by
        have := wrongL_ge ks (s0 + 1) (d + 1)
        (repeat' split) <;> (try simp only) <;> omega
      by_cases h2 : k = 1 ∨ k' = 1
      · rw [if_pos h2, if_neg hk]
        exact ⟨hge, ⟨fun q => by simp at q, fun q => absurd q (hn _ _ _ _ _ _ _ _ _ _)⟩⟩
      · rw [if_neg h2, if_neg hk]
        exact ⟨hge, ⟨fun q => by simp at q, fun q => absurd q (hn _ _ _ _ _ _ _ _ _ _)⟩⟩
theorem eqL_ok : ∀ (ks ks' : List Tree) (a s s0 d : Nat), ks.length = ks'.length → a ≤ 2 → s ≤ s0 → s0 ≤ 2000 → (wrongL ks s0 d).1 = 0 → (eqL ks ks' a s d).2 ≤ (wrongL ks s0 d).2 ∧ ((eqL ks ks' a s d).1 = 2 ↔ (a = 2 ∧ bareL ks = bareL ks'))
  | [], [], a, s, s0, d, _, _, hs, _, _ => by rw [eqL, wrongL]; simp; exact hs
  | [], v :: vs, a, s, s0, d, hl, _, _, _, _ => by simp at hl
  | u :: us, [], a, s, s0, d, hl, _, _, _, _ => by simp at hl
  | u :: us, v :: vs, a, s, s0, d, hl, ha, hs, h0, hw => by
    rw [wrongL] at hw ⊢
    by_cases hu : (wrongF u s0 d).1 = 0
    · rw [if_pos hu] at hw ⊢
      obtain ⟨i1, i2⟩ := eq_ok u v s s0 d hs h0 hu
      have hb := (wrongF_bd u s0 d h0).2 hu
      have hle := eq_le u v s d
      have hge := wrongL_ge us (wrongF u s0 d).2 d
      rw [eqL]
      have n2 : ¬ 2000 < (eqF u v s d).2 := by omega
      by_cases hz : min a (eqF u v s d).1 = 0
      · rw [if_pos (.inl hz)]
        refine ⟨by simp only; omega, ⟨fun q => by simp only at q; omega, ?_⟩⟩
        rintro ⟨rfl, q⟩
        rw [bareL, bareL] at q
        injection q with q1 q2
        have := i2.2 q1
        omega
      · rw [if_neg (by omega)]
        obtain ⟨j1, j2⟩ := eqL_ok us vs (min a (eqF u v s d).1) (eqF u v s d).2 (wrongF u s0 d).2 d (by simpa using hl) (by omega) i1 hb hw
        refine ⟨j1, ?_⟩
        rw [j2, bareL, bareL]
        constructor
        · rintro ⟨q1, q2⟩
          refine ⟨by omega, ?_⟩
          rw [i2.1 (by omega), q2]
        · rintro ⟨rfl, q⟩
          injection q with q1 q2
          have := i2.2 q1
          exact ⟨by omega, q2⟩
    · rw [if_neg hu] at hw; exact absurd hw hu
end
mutual
theorem bare_bare : ∀ A : Tree, bareT (bareT A) = bareT A
  | .mk k y c x t ks => by
    rw [bareT, bareT]
    by_cases k5 : k = 5
    · subst k5
      simp [bareL_bare ks]
    · simp only [if_neg k5]
      congr 1 <;> split <;> rfl
theorem bareL_bare : ∀ ks : List Tree, bareL (bareL ks) = bareL ks
  | [] => by rw [bareL, bareL]
  | u :: us => by rw [bareL, bareL, bare_bare u, bareL_bare us]
end

mutual
/-- what Same tells -/
def sameB : Tree → Tree → Bool
  | .mk k y c x t ks, .mk k' y' c' x' t' ks' => decide (k = k') && decide (y = y') && decide (c = c') && decide (x = x') && decide (t.toList = t'.toList) && decide (ks.length = ks'.length) && sameL ks ks'
def sameL : List Tree → List Tree → Bool
  | [], _ => true
  | _ :: _, [] => true
  | u :: us, v :: vs => sameB u v && sameL us vs
end
mutual
theorem same_iff : ∀ (A B : Tree), sameB A B = true ↔ A = B
  | .mk k y c x t ks, .mk k' y' c' x' t' ks' => by
    rw [sameB]
    simp only [Bool.and_eq_true, decide_eq_true_eq, tl_eq]
    constructor
    · rintro ⟨⟨⟨⟨⟨⟨rfl, rfl⟩, rfl⟩, rfl⟩, rfl⟩, hl⟩, hs⟩
      rw [(sameL_iff ks ks' hl).1 hs]
    · intro q
      injection q with q1 q2 q3 q4 q5 q6
      subst q1 q2 q3 q4 q5 q6
      exact ⟨⟨⟨⟨⟨⟨rfl, rfl⟩, rfl⟩, rfl⟩, rfl⟩, rfl⟩, (sameL_iff ks ks rfl).2 rfl⟩
theorem sameL_iff : ∀ (ks ks' : List Tree), ks.length = ks'.length → (sameL ks ks' = true ↔ ks = ks')
  | [], [], _ => by simp [sameL]
  | [], v :: vs, h => by simp at h
  | u :: us, [], h => by simp at h
  | u :: us, v :: vs, h => by
    rw [sameL, Bool.and_eq_true, same_iff u v, sameL_iff us vs (by simpa using h), List.cons.injEq]
end
/-- the two answers agree -/
theorem eq_same {A B : Tree} (hA : (wrongF A 0 1).1 = 0) : decide ((eqF A B 0 1).1 = 2) = sameB (bareT A) (bareT B) := by
  have h := (eq_ok A B 0 0 1 (Nat.le_refl _) (by omega) hA).2
  rw [← same_iff] at h
  cases hb : sameB (bareT A) (bareT B) with
  | true => exact decide_eq_true (h.2 hb)
  | false => exact decide_eq_false (fun q => by rw [h.1 q] at hb; cases hb)
theorem eq_bare {A : Tree} (hA : (wrongF A 0 1).1 = 0) : (eqF A (bareT A) 0 1).1 = 2 :=
  (eq_ok A (bareT A) 0 0 1 (Nat.le_refl _) (by omega) hA).2.2 (bare_bare A).symm
end Go.Proofs.YthhdgimphnbjbaaDoor
