/- Types in plain words: so many lists around a kind; what fits, what is joined; a type as a tree, and what is wrong with it. -/
import Derived.Test.YtjgonkcfnfgakaaGreatDoorW1
namespace Go.Proofs.YtjgonkcfnfgakaaGreatDoor

structure Sp where
  n : Nat
  k : Int
deriving DecidableEq

theorem Sp.eq {a b : Sp} (h : a.n = b.n) (g : a.k = b.k) : a = b := by
  cases a; cases b; simp_all

def Sp.Fits (a b : Sp) : Prop := (a.n ≤ b.n ∧ a.k = 1) ∨ (b.n ≤ a.n ∧ b.k = 6) ∨ (a.n = b.n ∧ a.k = b.k)
instance (a b : Sp) : Decidable (a.Fits b) := by unfold Sp.Fits; infer_instance
def Sp.join (a b : Sp) : Sp := if a.Fits b then b else if b.Fits a then a else ⟨min a.n b.n, 6⟩

theorem Sp.refl (a : Sp) : a.Fits a := by unfold Sp.Fits; omega
theorem Sp.anti {a b : Sp} (h : a.Fits b) (g : b.Fits a) : a = b := by
  unfold Sp.Fits at h g
  exact Sp.eq (by omega) (by omega)
theorem Sp.trans {a b c : Sp} (h : a.Fits b) (g : b.Fits c) : a.Fits c := by
  unfold Sp.Fits at *
  omega
theorem Sp.left (a b : Sp) : a.Fits (a.join b) := by
  unfold Sp.join
  split
  · assumption
  · split
    · exact Sp.refl a
    · exact Or.inr (Or.inl ⟨Nat.min_le_left _ _, rfl⟩)
theorem Sp.right (a b : Sp) : b.Fits (a.join b) := by
  unfold Sp.join
  split
  · exact Sp.refl b
  · split
    · assumption
    · exact Or.inr (Or.inl ⟨Nat.min_le_right _ _, rfl⟩)
theorem Sp.least {a b c : Sp} (h : a.Fits c) (g : b.Fits c) : (a.join b).Fits c := by
  unfold Sp.join
  split
  · exact g
  · split
    · exact h
    · rename_i h1 h2
      unfold Sp.Fits at *
      refine Or.inr (Or.inl ⟨?_, ?_⟩)
      · show c.n ≤ min a.n b.n
        omega
      · omega
theorem Sp.comm (a b : Sp) : a.join b = b.join a :=
  Sp.anti (Sp.least (Sp.right b a) (Sp.left b a)) (Sp.least (Sp.right a b) (Sp.left a b))
theorem Sp.self (a : Sp) : a.join a = a := by unfold Sp.join; rw [if_pos (Sp.refl a)]
theorem Sp.assoc (a b c : Sp) : (a.join b).join c = a.join (b.join c) :=
  Sp.anti (Sp.least (Sp.least (Sp.left _ _) (Sp.trans (Sp.left b c) (Sp.right _ _))) (Sp.trans (Sp.right b c) (Sp.right _ _)))
    (Sp.least (Sp.trans (Sp.left a b) (Sp.left _ _)) (Sp.least (Sp.trans (Sp.right a b) (Sp.left _ _)) (Sp.right _ _)))
/-- a shape that a right type may have -/
def Sp.ok (a : Sp) : Prop := a.n ≤ 9 ∧ (a.k = 1 ∨ a.k = 2 ∨ a.k = 3 ∨ a.k = 4 ∨ a.k = 6)
theorem Sp.join_ok {a b : Sp} (ha : a.ok) (hb : b.ok) : (a.join b).ok := by
  unfold Sp.join
  split
  · exact hb
  · split
    · exact ha
    · refine ⟨?_, by simp⟩
      have := ha.1
      show min a.n b.n ≤ 9
      omega

/-- a type as a tree -/
inductive TT where
  | mk (k : Int) (ks : List TT)
def TT.kind : TT → Int | .mk k _ => k
def TT.kids : TT → List TT | .mk _ ks => ks

def rtN : Nat → Int → TT
  | 0, k => .mk k []
  | n + 1, k => .mk 5 [rtN n k]
def rt (a : Sp) : TT := rtN a.n a.k
def wrongTy : Nat → TT → Int
  | d, .mk k ks => if (10 : Int) < (d : Int) then 4 else if k < 1 ∨ 6 < k then 1 else if k ≠ 5 ∧ ks.length ≠ 0 then 5 else if k ≠ 5 then 0 else
    match ks with
    | [e] => wrongTy (d + 1) e
    | _ => 5
theorem wrongTy_leaf (k : Int) (d : Nat) : wrongTy d (.mk k []) = if (10 : Int) < (d : Int) then 4 else if k < 1 ∨ 6 < k then 1 else if k ≠ 5 then 0 else 5 := by
  rw [wrongTy]
  · simp
  · intro e h; cases h
theorem wrongTy_one (k : Int) (e : TT) (d : Nat) : wrongTy d (.mk k [e]) = if (10 : Int) < (d : Int) then 4 else if k < 1 ∨ 6 < k then 1 else if k ≠ 5 then 5 else wrongTy (d + 1) e := by
  rw [wrongTy]
  by_cases h : k = 5 <;> simp [h]
theorem wrongTy_more (k : Int) (e f : TT) (r : List TT) (d : Nat) : wrongTy d (.mk k (e :: f :: r)) = if (10 : Int) < (d : Int) then 4 else if k < 1 ∨ 6 < k then 1 else 5 := by
  rw [wrongTy]
  · by_cases h : k = 5 <;> simp [h]
  · intro e h; cases h
theorem right_of : ∀ (T : TT) (d : Nat), 1 ≤ d → wrongTy d T = 0 → ∃ n k, T = rtN n k ∧ n + d ≤ 10 ∧ (k = 1 ∨ k = 2 ∨ k = 3 ∨ k = 4 ∨ k = 6)
  | .mk k [], d, hd, h => by
    rw [wrongTy_leaf] at h
    split at h
    · cases h
    split at h
    · cases h
    split at h
    · exact ⟨0, k, rfl, by omega, by omega⟩
    · cases h
  | .mk k [e], d, hd, h => by
    rw [wrongTy_one] at h
    split at h
    · cases h
    split at h
    · cases h
    split at h
    · cases h
    · rename_i h1 h2 h3
      obtain ⟨n, k', he, hn, hk⟩ := right_of e (d + 1) (by omega) h
      refine ⟨n + 1, k', ?_, by omega, hk⟩
      rw [rtN, ← he, show k = 5 by omega]
  | .mk k (e :: f :: r), d, hd, h => by
    rw [wrongTy_more] at h
    split at h
    · cases h
    split at h
    · cases h
    · cases h
theorem right_sp {T : TT} (h : wrongTy 1 T = 0) : ∃ a : Sp, a.ok ∧ T = rt a := by
  obtain ⟨n, k, he, hn, hk⟩ := right_of T 1 (by omega) h
  exact ⟨⟨n, k⟩, ⟨by simp only; omega, hk⟩, he⟩
end Go.Proofs.YtjgonkcfnfgakaaGreatDoor
