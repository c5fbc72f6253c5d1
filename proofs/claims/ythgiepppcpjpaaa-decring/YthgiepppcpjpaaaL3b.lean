/- The walk over DecRing, whatever the numbers. -/
import Derived.Test.YthgiepppcpjpaaaL3
import Derived.Test.YthgiepppcpjpaaaL1b
import Derived.Test.YthgiepppcpjpaaaW15
import Derived.Test.YthgiepppcpjpaaaW21
import Derived.Test.YthgiepppcpjpaaaW23
import Derived.Test.YthgiepppcpjpaaaDig3
namespace Dm
theorem addS_comm (c1 x1 c2 x2 : Int) : addS c2 x2 c1 x1 = addS c1 x1 c2 x2 := by
  unfold addS
  rw [Int.min_comm x2 x1, Int.add_comm]
theorem addS_zero (c x : Int) : addS c x 0 0 = tens c (x - min x 0).toNat := by
  unfold addS
  rw [tens_zero, Int.add_zero]
theorem addS_self (c x : Int) : addS c x (-c) x = 0 := by
  unfold addS
  rw [tens_neg]
  omega
end Dm
namespace Go.Proofs.Ythgiepppcpjpaaa
open Go.RowKit

theorem told_self (x : Int) : told 0 x false = .returned (.tuple #[.agg #[.int .i64 0, .int .i64 0], .int .i64 0]) := by
  have e : Dm.nearZ 0 x false = 0 := by
    unfold Dm.nearZ
    rw [show Int.natAbs 0 = 0 by rfl, Dm.nQ_zero]
    rfl
  unfold told
  rw [e]
  simp [Dm.fC, Dm.fE, Dm.fR]

theorem told_exact {c x S y : Int} {j : Nat} (h : Dm.wrongN c x = 0) (hj : j ≤ 100) (hS : S = Dm.tens c j) (hy : y = x - j) : told S y false = .returned (.tuple #[.agg #[.int .i64 c, .int .i64 x], .int .i64 0]) := by
  obtain ⟨a, b, d⟩ := Dm.exact_told h hj hS
  unfold told
  rw [hy, a, b, d]

theorem toldB_one : toldB false (10 ^ 40) (-40) false = .returned (.tuple #[.agg #[.int .i64 1, .int .i64 0], .int .i64 0]) := by
  have a : Dm.fC (Dm.sg false (Dm.nQ (10 ^ 40) (-40) false)) (Dm.nE (10 ^ 40) (-40)) = 1 := by decide +kernel
  have b : Dm.fE (Dm.sg false (Dm.nQ (10 ^ 40) (-40) false)) (Dm.nE (10 ^ 40) (-40)) = 0 := by decide +kernel
  have c : Dm.fR (Dm.sg false (Dm.nQ (10 ^ 40) (-40) false)) (Dm.nE (10 ^ 40) (-40)) = 0 := by decide +kernel
  unfold toldB
  rw [a, b, c]

theorem ring_ok (c1 x1 c2 x2 : Int) (w : World) (h1 : Dm.wrongN c1 x1 = 0) (h2 : Dm.wrongN c2 x2 = 0) :
    Calls Try.prog 4 #[.agg #[.int .i64 c1, .int .i64 x1], .agg #[.int .i64 c2, .int .i64 x2]] w fun e w' => e = .returned (.bool true) ∧ Below w.heap.size w w' := by
  obtain ⟨p1, p2, p3, p4, p5⟩ := Dm.wrong_ok h1
  have BA := fun wx => add_ok c2 x2 c1 x1 wx h2 h1
  rw [Dm.addS_comm, Int.min_comm] at BA
  have MBA := fun wx => mul_ok c2 x2 c1 x1 wx h2 h1
  rw [Int.mul_comm, Int.add_comm] at MBA
  have Z := fun wx => add_ok c1 x1 0 0 wx h1 (by decide)
  rw [told_exact (c := c1) (x := x1) (j := (x1 - min x1 0).toNat) h1 (by omega) (Dm.addS_zero c1 x1) (by omega)] at Z
  have O := fun wx => mul_ok c1 x1 1 0 wx h1 (by decide)
  rw [told_exact (c := c1) (x := x1) (j := 0) h1 (by omega) (by simp [Dm.tens]) (by omega)] at O
  have N := fun wx => sub_ok c1 x1 c1 x1 wx h1 h1
  rw [Dm.addS_self, told_self] at N
  by_cases h0 : c1 = 0
  · subst h0
    exact ring_core 0 x1 c2 x2 w h1 h2 _ _ _ _ _ _ _ _ _ _ _ _ (fun wx => add_ok 0 x1 c2 x2 wx h1 h2) BA (fun wx => mul_ok 0 x1 c2 x2 wx h1 h2) MBA Z O N (fun wx => div_zero 0 x1 x1 wx h1 h1) (.inl ⟨rfl, rfl⟩)
  · have D : ∀ wx, Calls Try.prog 13 #[.agg #[.int .i64 c1, .int .i64 x1], .agg #[.int .i64 c1, .int .i64 x1]] wx fun e w' => e = .returned (.tuple #[.agg #[.int .i64 1, .int .i64 0], .int .i64 0]) ∧ Below wx.heap.size wx w' := by
      intro wx
      refine (div_ok c1 x1 c1 x1 wx h1 h1 h0).mono ?_
      rintro e w' ⟨r, he, hr, hb⟩
      have e1 : c1.natAbs * 10 ^ 40 / c1.natAbs = 10 ^ 40 := Nat.mul_div_cancel_left _ (by omega)
      have e2 : r = 0 := by rw [hr]; exact Nat.mul_mod_right _ _
      subst e2
      rw [e1, show x1 - x1 - 40 = (-40 : Int) by omega, show (!(decide (c1 < 0) == decide (c1 < 0))) = false by simp, show (((0 : Nat) : Int) != 0) = false by rfl, toldB_one] at he
      exact ⟨he, hb⟩
    exact ring_core c1 x1 c2 x2 w h1 h2 _ _ _ _ _ _ _ _ _ _ _ _ (fun wx => add_ok c1 x1 c2 x2 wx h1 h2) BA (fun wx => mul_ok c1 x1 c2 x2 wx h1 h2) MBA Z O N D (.inr ⟨h0, rfl, rfl, rfl⟩)

set_option maxHeartbeats 400000 in
theorem ring_bad1 (c1 x1 c2 x2 : Int) (w : World) (h : ¬ Dm.wrongN c1 x1 = 0) :
    Calls Try.prog 4 #[.agg #[.int .i64 c1, .int .i64 x1], .agg #[.int .i64 c2, .int .i64 x2]] w fun e w' => e = .returned (.bool true) ∧ Below w.heap.size w w' := by
  have n1 := bne_of h
  clear h
  go_enter Try.func4, Try.ntmps4
  go_wp2_with fail
  refine (alive_any _).mono ?_
  rintro e wa ⟨rfl, hba⟩
  obtain ⟨Aa, Ab, Al⟩ := carry2 (nb := w.heap.size) hba (by simp; omega) (by simp [go_sem]; rfl) (by simp [go_sem]; rfl)
  have hwa : Below w.heap.size w wa := (((Below.refl w.heap.size w).alloc (Nat.le_refl _) _).alloc (by simp) _).trans (hba.mono (by simp; omega))
  clear hba
  go_wp2_with fail
  refine (wrong_any c1 x1 _).mono ?_
  rintro e wb ⟨rfl, hbb⟩
  go_wp2
  go_ret
  exact ⟨rfl, hwa.trans (hbb.mono hwa.size)⟩

set_option maxHeartbeats 400000 in
theorem ring_bad2 (c1 x1 c2 x2 : Int) (w : World) (h1 : Dm.wrongN c1 x1 = 0) (h : ¬ Dm.wrongN c2 x2 = 0) :
    Calls Try.prog 4 #[.agg #[.int .i64 c1, .int .i64 x1], .agg #[.int .i64 c2, .int .i64 x2]] w fun e w' => e = .returned (.bool true) ∧ Below w.heap.size w w' := by
  have n1 := bne_of h
  have H1 := hide h1
  clear h h1
  go_enter Try.func4, Try.ntmps4
  go_wp2_with fail
  refine (alive_any _).mono ?_
  rintro e wa ⟨rfl, hba⟩
  obtain ⟨Aa, Ab, Al⟩ := carry2 (nb := w.heap.size) hba (by simp; omega) (by simp [go_sem]; rfl) (by simp [go_sem]; rfl)
  obtain ⟨Ba, Bb, Bl⟩ := carry2 (nb := w.heap.size + 1) hba (by simp) (by simp [go_sem]; rfl) (by simp [go_sem]; rfl)
  have hwa : Below w.heap.size w wa := (((Below.refl w.heap.size w).alloc (Nat.le_refl _) _).alloc (by simp) _).trans (hba.mono (by simp; omega))
  clear hba
  go_wp2_with fail
  refine (wrong_is c1 x1 _ (unhide H1)).mono ?_
  rintro e wb ⟨rfl, hbb⟩
  have hwb := hwa.trans (hbb.mono hwa.size)
  obtain ⟨Ba, Bb, Bl⟩ := carry2 hbb Bl Ba Bb
  clear hbb hwa
  go_wp2_with fail
  refine (wrong_any c2 x2 _).mono ?_
  rintro e wc ⟨rfl, hbc⟩
  go_wp2
  go_ret
  exact ⟨rfl, hwb.trans (hbc.mono hwb.size)⟩

theorem ring_walk (c1 x1 c2 x2 : Int) (w : World) :
    Calls Try.prog 4 #[.agg #[.int .i64 c1, .int .i64 x1], .agg #[.int .i64 c2, .int .i64 x2]] w fun e w' => e = .returned (.bool true) ∧ Below w.heap.size w w' := by
  by_cases h1 : Dm.wrongN c1 x1 = 0
  · by_cases h2 : Dm.wrongN c2 x2 = 0
    · exact ring_ok c1 x1 c2 x2 w h1 h2
    · exact ring_bad2 c1 x1 c2 x2 w h1 h2
  · exact ring_bad1 c1 x1 c2 x2 w h1
end Go.Proofs.Ythgiepppcpjpaaa
