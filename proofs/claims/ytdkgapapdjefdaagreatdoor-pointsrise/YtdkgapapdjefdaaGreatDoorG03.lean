/- Plain: numbers in their one form, and bytes, are ordered. -/
import Derived.Test.YtdkgapapdjefdaaGreatDoorG01
import GoSem.Op.String
namespace Dm

theorem otens_eq_of {a b : Int} {k : Nat} (h : tens a k = tens b k) : a = b := by
  rcases Int.lt_trichotomy a b with l | l | l
  · have := tens_lt_tens l k; omega
  · exact l
  · have := tens_lt_tens l k; omega
theorem otens_10 (a : Int) (k : Nat) : tens a (k + 1) = tens a k * 10 := by rw [tens_eq, tens_eq, Int.pow_succ]; rw [Int.mul_assoc]
theorem oV_inj {c1 x1 c2 x2 : Int} (h1 : wrongN c1 x1 = 0) (h2 : wrongN c2 x2 = 0) (h : V c1 x1 = V c2 x2) : c1 = c2 ∧ x1 = x2 := by
  have key : ∀ {c1 x1 c2 x2 : Int}, wrongN c1 x1 = 0 → wrongN c2 x2 = 0 → V c1 x1 = V c2 x2 → x1 ≤ x2 → c1 = c2 ∧ x1 = x2 := by
    intro c1 x1 c2 x2 h1 h2 h hx
    obtain ⟨_, _, a3, a4, a5⟩ := wrong_ok h1
    obtain ⟨_, _, b3, b4, b5⟩ := wrong_ok h2
    unfold V at h
    obtain ⟨d, hd⟩ : ∃ d : Nat, (x2 + 40).toNat = d + (x1 + 40).toNat := ⟨(x2 - x1).toNat, by omega⟩
    rw [hd, ← tens_add] at h
    have e := otens_eq_of h
    cases d with
    | zero =>
      have : tens c2 0 = c2 := by rw [tens_eq]; simp
      rw [this] at e
      exact ⟨e, by omega⟩
    | succ d =>
      rw [otens_10] at e
      have hz : c1.tmod 10 = 0 := by
        rw [e]
        exact Int.mul_tmod_left _ _
      obtain ⟨c0, x0⟩ := a5 hz
      subst c0
      have hp : tens c2 d = 0 := by omega
      have c20 : c2 = 0 := by
        rw [tens_eq] at hp
        rcases Int.mul_eq_zero.1 hp with h0 | h0
        · exact h0
        · have : (10 : Int) ^ d ≠ 0 := Int.pow_ne_zero (by decide)
          exact absurd h0 this
      subst c20
      have := b5 (by decide)
      exact ⟨rfl, by omega⟩
  rcases Int.le_total x1 x2 with hx | hx
  · exact key h1 h2 h hx
  · have := key h2 h1 h.symm hx
    exact ⟨this.1.symm, this.2.symm⟩

theorem sgn_neg_iff (a : Int) : sgn a < 0 ↔ a < 0 := by
  rcases sgn_cases a with ⟨h, e⟩ | ⟨h, e⟩ | ⟨h, e⟩ <;> rw [e] <;> omega

theorem num_one {c1 x1 c2 x2 : Int} (h1 : wrongN c1 x1 = 0) (h2 : wrongN c2 x2 = 0) (g1 g2 g3 : Bool) (e1 : g1 = decide (sgn (V c1 x1 - V c2 x2) < 0)) (e2 : g2 = decide (sgn (V c2 x2 - V c1 x1) < 0)) (e3 : g3 = decide (c1 = c2 ∧ x1 = x2)) :
    (g1 = true ∧ g2 = false ∧ g3 = false) ∨ (g1 = false ∧ g2 = true ∧ g3 = false) ∨ (g1 = false ∧ g2 = false ∧ g3 = true) := by
  rcases Int.lt_trichotomy (V c1 x1) (V c2 x2) with l | l | l
  · left
    refine ⟨by rw [e1]; exact decide_eq_true ((sgn_neg_iff _).2 (by omega)), by rw [e2]; exact decide_eq_false (fun h => by have := (sgn_neg_iff _).1 h; omega), by rw [e3]; exact decide_eq_false (fun h => by rw [h.1, h.2] at l; omega)⟩
  · right; right
    have := oV_inj h1 h2 l
    refine ⟨by rw [e1]; exact decide_eq_false (fun h => by have := (sgn_neg_iff _).1 h; omega), by rw [e2]; exact decide_eq_false (fun h => by have := (sgn_neg_iff _).1 h; omega), by rw [e3]; exact decide_eq_true this⟩
  · right; left
    refine ⟨by rw [e1]; exact decide_eq_false (fun h => by have := (sgn_neg_iff _).1 h; omega), by rw [e2]; exact decide_eq_true ((sgn_neg_iff _).2 (by omega)), by rw [e3]; exact decide_eq_false (fun h => by rw [h.1, h.2] at l; omega)⟩
theorem num_tr {a b c : Int} (h1 : decide (sgn (a - b) < 0) = true) (h2 : decide (sgn (b - c) < 0) = true) : decide (sgn (a - c) < 0) = true := by
  have := (sgn_neg_iff _).1 (of_decide_eq_true h1)
  have := (sgn_neg_iff _).1 (of_decide_eq_true h2)
  exact decide_eq_true ((sgn_neg_iff _).2 (by omega))

open Go.Op in
theorem less_irr : ∀ (a : List UInt8), bytesLess a a = false
  | [] => rfl
  | x :: a => by
    have := less_irr a
    simp [bytesLess, this]
theorem u8_tri (x y : UInt8) : x < y ∨ x = y ∨ y < x := by
  rcases Nat.lt_trichotomy x.toNat y.toNat with h | h | h
  · exact .inl (UInt8.lt_iff_toNat_lt.2 h)
  · exact .inr (.inl (UInt8.toNat_inj.1 h))
  · exact .inr (.inr (UInt8.lt_iff_toNat_lt.2 h))
open Go.Op in
theorem less_tri : ∀ (a b : List UInt8), (bytesLess a b = true ∧ bytesLess b a = false ∧ a ≠ b) ∨ (bytesLess a b = false ∧ bytesLess b a = true ∧ a ≠ b) ∨ (bytesLess a b = false ∧ bytesLess b a = false ∧ a = b)
  | [], [] => by simp [bytesLess]
  | [], y :: b => by simp [bytesLess]
  | x :: a, [] => by simp [bytesLess]
  | x :: a, y :: b => by
    rcases u8_tri x y with h | h | h
    · left
      have h2 : ¬ y < x := UInt8.lt_asymm h
      have h3 : x ≠ y := UInt8.ne_of_lt h
      simp [bytesLess, h, h2, h3, Ne.symm h3]
    · subst h
      have := less_tri a b
      simp [bytesLess, UInt8.lt_irrefl]
      exact this
    · right; left
      have h2 : ¬ x < y := UInt8.lt_asymm h
      have h3 : y ≠ x := UInt8.ne_of_lt h
      simp [bytesLess, h, h2, Ne.symm h3]
open Go.Op in
theorem less_trans : ∀ (a b c : List UInt8), bytesLess a b = true → bytesLess b c = true → bytesLess a c = true
  | a, [], c, h1, h2 => by cases a <;> simp [bytesLess] at h1
  | a, y :: b, [], h1, h2 => by simp [bytesLess] at h2
  | [], y :: b, z :: c, h1, h2 => by simp [bytesLess]
  | x :: a, y :: b, z :: c, h1, h2 => by
    simp only [bytesLess, Bool.or_eq_true, decide_eq_true_eq, Bool.and_eq_true, beq_iff_eq] at h1 h2 ⊢
    rcases h1 with h1 | ⟨rfl, h1⟩
    · rcases h2 with h2 | ⟨rfl, h2⟩
      · exact .inl (UInt8.lt_trans h1 h2)
      · exact .inl h1
    · rcases h2 with h2 | ⟨rfl, h2⟩
      · exact .inl h2
      · exact .inr ⟨rfl, less_trans a b c h1 h2⟩
end Dm
