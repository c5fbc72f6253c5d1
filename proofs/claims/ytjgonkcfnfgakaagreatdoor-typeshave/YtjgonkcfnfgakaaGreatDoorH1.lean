/- Which values a type has, in plain words: with the program's own count. -/
import Derived.Test.YtjgonkcfnfgakaaGreatDoorVT
import Derived.Test.YtjgonkcfnfgakaaGreatDoorU1
namespace Go.Proofs.YtjgonkcfnfgakaaGreatDoor

mutual
def hasF : Tree → Sp → Nat → Bool × Nat
  | .mk k _ _ _ _ ks, s, n =>
    if k = 1 ∨ (s.n = 0 ∧ s.k = 6) then (true, n + 1) else if 0 < s.n then (if k = 5 then allF ks ⟨s.n - 1, s.k⟩ (n + 1) else (false, n + 1))
    else if k = 2 then (decide (s.k = 2), n + 1) else if k = 3 then (decide (s.k = 3), n + 1) else if k = 4 then (decide (s.k = 4), n + 1) else (false, n + 1)
def allF : List Tree → Sp → Nat → Bool × Nat
  | [], _, n => (true, n)
  | v :: vs, s, n => if 33554432 < n then (false, n) else if (hasF v s n).1 then allF vs s (hasF v s n).2 else (false, (hasF v s n).2)
end

mutual
theorem hasF_bd : ∀ (T : Tree) (s : Sp) (n : Nat), n ≤ 33554432 → n + 1 ≤ (hasF T s n).2 ∧ (hasF T s n).2 ≤ 33554433
  | .mk k y c x t ks, s, n, hn => by
    rw [hasF]
    split
    · exact ⟨Nat.le_refl _, by simp only; omega⟩
    split
    · split
      · have h := allF_bd ks ⟨s.n - 1, s.k⟩ (n + 1) (by omega)
        exact ⟨h.1, h.2⟩
      · exact ⟨Nat.le_refl _, by simp only; omega⟩
    split
    · exact ⟨Nat.le_refl _, by simp only; omega⟩
    split
    · exact ⟨Nat.le_refl _, by simp only; omega⟩
    split
    · exact ⟨Nat.le_refl _, by simp only; omega⟩
    · exact ⟨Nat.le_refl _, by simp only; omega⟩
theorem allF_bd : ∀ (ks : List Tree) (s : Sp) (n : Nat), n ≤ 33554433 → n ≤ (allF ks s n).2 ∧ (allF ks s n).2 ≤ 33554433
  | [], s, n, hn => by rw [allF]; exact ⟨Nat.le_refl _, hn⟩
  | v :: vs, s, n, hn => by
    rw [allF]
    split
    · exact ⟨Nat.le_refl _, hn⟩
    · rename_i h1
      have h := hasF_bd v s n (by omega)
      split
      · have g := allF_bd vs s (hasF v s n).2 h.2
        exact ⟨by omega, g.2⟩
      · exact ⟨by simp only; omega, h.2⟩
end

theorem fits_pred {a b : Sp} (h : a.Fits b) (ha : 0 < a.n) (hb : 0 < b.n) : (Sp.mk (a.n - 1) a.k).Fits ⟨b.n - 1, b.k⟩ := by
  unfold Sp.Fits at *
  simp only
  omega

mutual
theorem hasF_fits : ∀ (T : Tree) (a b : Sp) (n m : Nat), a.Fits b → m ≤ n → n ≤ 33554432 → (hasF T a n).1 = true → (hasF T b m).1 = true ∧ (hasF T b m).2 ≤ (hasF T a n).2
  | .mk k y c x t ks, a, b, n, m, hf, hmn, hn, h => by
    have bd := (hasF_bd (.mk k y c x t ks) a n hn).1
    by_cases hb : k = 1 ∨ (b.n = 0 ∧ b.k = 6)
    · have e : hasF (.mk k y c x t ks) b m = (true, m + 1) := by rw [hasF, if_pos hb]
      rw [e]
      exact ⟨rfl, by simp only; omega⟩
    have hk1 : ¬ k = 1 := fun e => hb (.inl e)
    have hb6 : ¬ (b.n = 0 ∧ b.k = 6) := fun e => hb (.inr e)
    have ha : ¬ (k = 1 ∨ (a.n = 0 ∧ a.k = 6)) := by
      rintro (e | ⟨e1, e2⟩)
      · exact hk1 e
      · unfold Sp.Fits at hf
        omega
    have ea : hasF (.mk k y c x t ks) a n = if 0 < a.n then (if k = 5 then allF ks ⟨a.n - 1, a.k⟩ (n + 1) else (false, n + 1))
      else if k = 2 then (decide (a.k = 2), n + 1) else if k = 3 then (decide (a.k = 3), n + 1) else if k = 4 then (decide (a.k = 4), n + 1) else (false, n + 1) := by rw [hasF, if_neg ha]
    have eb : hasF (.mk k y c x t ks) b m = if 0 < b.n then (if k = 5 then allF ks ⟨b.n - 1, b.k⟩ (m + 1) else (false, m + 1))
      else if k = 2 then (decide (b.k = 2), m + 1) else if k = 3 then (decide (b.k = 3), m + 1) else if k = 4 then (decide (b.k = 4), m + 1) else (false, m + 1) := by rw [hasF, if_neg hb]
    rw [ea] at h bd ⊢
    rw [eb]
    by_cases han : 0 < a.n
    · rw [if_pos han] at h bd ⊢
      have hbn : 0 < b.n := by
        unfold Sp.Fits at hf
        omega
      rw [if_pos hbn]
      by_cases h5 : k = 5
      · rw [if_pos h5] at h ⊢
        rw [if_pos h5]
        exact allF_fits ks _ _ (n + 1) (m + 1) (fits_pred hf han hbn) (by omega) (by omega) h
      · rw [if_neg h5] at h
        cases h
    · rw [if_neg han] at h bd ⊢
      have hbn : ¬ 0 < b.n ∨ a.k = 1 := by
        unfold Sp.Fits at hf
        omega
      by_cases ha1 : a.k = 1
      · exfalso
        rw [ha1] at h
        split at h
        · simp at h
        · split at h
          · simp at h
          · split at h <;> simp at h
      have e1 : b.k = a.k := by
        unfold Sp.Fits at hf
        omega
      have e2 : ¬ 0 < b.n := by omega
      rw [if_neg e2, e1]
      split
      · rename_i q
        rw [if_pos q] at h
        exact ⟨h, by simp only; omega⟩
      · rename_i q
        rw [if_neg q] at h
        split
        · rename_i q2
          rw [if_pos q2] at h
          exact ⟨h, by simp only; omega⟩
        · rename_i q2
          rw [if_neg q2] at h
          split
          · rename_i q3
            rw [if_pos q3] at h
            exact ⟨h, by simp only; omega⟩
          · rename_i q3
            rw [if_neg q3] at h
            cases h
theorem allF_fits : ∀ (ks : List Tree) (a b : Sp) (n m : Nat), a.Fits b → m ≤ n → n ≤ 33554433 → (allF ks a n).1 = true → (allF ks b m).1 = true ∧ (allF ks b m).2 ≤ (allF ks a n).2
  | [], a, b, n, m, hf, hmn, hn, h => by
    rw [allF, allF]
    exact ⟨rfl, hmn⟩
  | v :: vs, a, b, n, m, hf, hmn, hn, h => by
    have ea : allF (v :: vs) a n = if 33554432 < n then (false, n) else if (hasF v a n).1 then allF vs a (hasF v a n).2 else (false, (hasF v a n).2) := by rw [allF]
    have eb : allF (v :: vs) b m = if 33554432 < m then (false, m) else if (hasF v b m).1 then allF vs b (hasF v b m).2 else (false, (hasF v b m).2) := by rw [allF]
    rw [ea] at h ⊢
    rw [eb]
    by_cases h1 : 33554432 < n
    · rw [if_pos h1] at h
      cases h
    · rw [if_neg h1] at h ⊢
      rw [if_neg (by omega : ¬ 33554432 < m)]
      by_cases h2 : (hasF v a n).1 = true
      · rw [if_pos h2] at h ⊢
        have g := hasF_fits v a b n m hf hmn (by omega) h2
        rw [if_pos g.1]
        exact allF_fits vs a b _ _ hf g.2 (hasF_bd v a n (by omega)).2 h
      · rw [if_neg h2] at h
        cases h
end
end Go.Proofs.YtjgonkcfnfgakaaGreatDoor
