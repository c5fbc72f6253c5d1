/- Walks: Cmp. -/
import Derived.Test.YteniijhffinhnaaDoorW3
namespace Go.Proofs.YteniijhffinhnaaDoor
open Go.RowKit

set_option maxHeartbeats 400000 in
theorem cmp_no (c1 x1 c2 x2 : Int) (w : World) (h : (Dm.wrong2 c1 x1 c2 x2 != 0) = true) :
    Calls Tryd.prog 12 #[.agg #[.int .i64 c1, .int .i64 x1], .agg #[.int .i64 c2, .int .i64 x2]] w fun e w' => e = .returned (.tuple #[.int .i64 0, .int .i64 (Dm.wrong2 c1 x1 c2 x2)]) ∧ Below w.heap.size w w' := by
  go_enter Tryd.func12, Tryd.ntmps12
  go_wp2_with fail
  refine (wrongOf_any c1 x1 c2 x2 _).mono ?_
  rintro e w1 ⟨rfl, hb⟩
  go_wp2
  go_ret2
  exact ⟨rfl, (((Below.refl _ _).alloc (Nat.le_refl _) _).alloc (by simp) _).trans (hb.mono (by simp; omega))⟩

/-- Cmp of two right numbers, out of what its callees come to. -/
theorem cmp_core (c1 x1 c2 x2 : Int) (w : World) (h : Dm.wrong2 c1 x1 c2 x2 = 0) (r : Int)
    (hd : Dm.sgn c1 ≠ Dm.sgn c2 → r = Dm.sgn (Dm.sgn c1 - Dm.sgn c2)) (hz : Dm.sgn c1 = Dm.sgn c2 → Dm.sgn c1 = 0 → r = 0)
    (hs : Dm.sgn c1 = Dm.sgn c2 → Dm.sgn c1 ≠ 0 → ∃ s, -1 ≤ s ∧ s ≤ 1 ∧ r = Dm.sgn c1 * s ∧ ∀ wx, Calls Tryd.prog 23 #[.agg #[.int .i64 c1, .int .i64 x1], .agg #[.int .i64 c2, .int .i64 x2]] wx fun e w' => e = .returned (.int .i64 s) ∧ Below wx.heap.size wx w') :
    Calls Tryd.prog 12 #[.agg #[.int .i64 c1, .int .i64 x1], .agg #[.int .i64 c2, .int .i64 x2]] w fun e w' => e = .returned (.tuple #[.int .i64 r, .int .i64 0]) ∧ Below w.heap.size w w' := by
  have hd' := hide hd
  have hz' := hide hz
  have hs' := hide hs
  clear hd hz hs
  have sb := Dm.sgn_bd c1
  go_enter Tryd.func12, Tryd.ntmps12
  go_wp2_with fail
  refine (wrongOf_any c1 x1 c2 x2 _).mono ?_
  rintro e w1 ⟨rfl, hb⟩
  obtain ⟨hc, hf⟩ := bcell hb
  have hz1 : w.heap.size + 2 ≤ w1.heap.size := by have := hb.size; simp at this; omega
  have hb0 : Below w.heap.size w w1 := (((Below.refl _ _).alloc (Nat.le_refl _) _).alloc (by simp) _).trans (hb.mono (by simp; omega))
  rw [h]
  clear h
  go_wp2_with fail
  go_quiet ((go_at_call 21; exact Calls.quiet_of_same (cmpI64_any _ _ _)))
  by_cases h12 : Dm.sgn c1 = Dm.sgn c2
  · have h12' : (Dm.sgn c1 != Dm.sgn c2) = false := by simp [h12]
    have e12 := hide h12
    clear h12
    by_cases h0 : Dm.sgn c1 = 0
    · have h0' : (Dm.sgn c1 == 0) = true := by simp [h0]
      have e0 := hide h0
      clear h0
      go_wp2
      go_ret2
      rw [unhide hz' (unhide e12) (unhide e0)]
      exact ⟨rfl, below_drewN hb0 _⟩
    · have h0' : (Dm.sgn c1 == 0) = false := by simp [h0]
      obtain ⟨s, l1, l2, er, hcalls⟩ := unhide hs' (unhide e12) h0
      have hcalls' := hide hcalls
      have er' := hide er
      have em : -1 ≤ Dm.sgn c1 * s ∧ Dm.sgn c1 * s ≤ 1 := by
        rcases (show Dm.sgn c1 = -1 ∨ Dm.sgn c1 = 1 by omega) with q | q <;> rw [q] <;> omega
      obtain ⟨em1, em2⟩ := em
      clear hcalls er h0
      go_wp2_with fail
      refine (unhide hcalls' _).mono ?_
      rintro e w2 ⟨rfl, hb2⟩
      go_wp2
      go_ret2
      rw [unhide er']
      exact ⟨rfl, (below_drewN hb0 _).trans (hb2.mono (by simp; omega))⟩
  · have h12' : (Dm.sgn c1 != Dm.sgn c2) = true := by simp [h12]
    have hr := hide (unhide hd' h12)
    clear h12
    go_wp2_with fail
    refine (cmpInt_any _ _ _).mono ?_
    rintro e w3 ⟨rfl, rfl⟩
    go_wp2
    go_ret2
    rw [unhide hr]
    exact ⟨rfl, below_drewN hb0 _⟩

theorem cmp_ok (c1 x1 c2 x2 : Int) (w : World) (h1 : Dm.wrongN c1 x1 = 0) (h2 : Dm.wrongN c2 x2 = 0) :
    Calls Tryd.prog 12 #[.agg #[.int .i64 c1, .int .i64 x1], .agg #[.int .i64 c2, .int .i64 x2]] w fun e w' => e = .returned (.tuple #[.int .i64 (Dm.sgn (Dm.V c1 x1 - Dm.V c2 x2)), .int .i64 0]) ∧ Below w.heap.size w w' := by
  obtain ⟨p1, p2, p3, p4, _⟩ := Dm.wrong_ok h1
  obtain ⟨q1, q2, q3, q4, _⟩ := Dm.wrong_ok h2
  refine cmp_core c1 x1 c2 x2 w (by rw [Dm.wrong2_ok h1, h2]) _ ?_ ?_ ?_
  · exact Dm.cmp_diff x1 x2
  · exact Dm.cmp_zero x1 x2
  · intro h12 h0
    obtain ⟨n1, n2, hr⟩ := Dm.cmp_same x1 x2 h12 h0
    exact ⟨_, (Dm.sgn_bd _).1, (Dm.sgn_bd _).2, hr, fun wx => compareSizes_any c1 x1 c2 x2 wx p1 p2 n1 p3 p4 q1 q2 n2 q3 q4⟩
end Go.Proofs.YteniijhffinhnaaDoor
