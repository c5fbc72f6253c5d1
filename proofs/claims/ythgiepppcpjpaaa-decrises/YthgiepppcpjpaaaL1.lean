/- The walk over DecOrder. -/
import Derived.Test.YthgiepppcpjpaaaW14
import Derived.Test.YthgiepppcpjpaaaW4
namespace Go.Proofs.Ythgiepppcpjpaaa
open Go.RowKit

theorem wrong_is (c x : Int) (w : World) (h : Dm.wrongN c x = 0) :
    Calls Try.prog 8 #[.agg #[.int .i64 c, .int .i64 x]] w fun e w' => e = .returned (.int .i64 0) ∧ Below w.heap.size w w' := by
  have := wrong_any c x w
  rw [h] at this
  exact this

/-- the three boxes of a law's arguments -/
theorem boxes3 {w w3 : World} {c1 x1 c2 x2 c3 x3 : Int}
    (hb : Below (((w.alloc (.cells #[.int .i64 c1, .int .i64 x1] 23)).alloc (.cells #[.int .i64 c2, .int .i64 x2] 23)).alloc (.cells #[.int .i64 c3, .int .i64 x3] 23)).heap.size
      (((w.alloc (.cells #[.int .i64 c1, .int .i64 x1] 23)).alloc (.cells #[.int .i64 c2, .int .i64 x2] 23)).alloc (.cells #[.int .i64 c3, .int .i64 x3] 23)) w3) :
    w3.cell? ⟨w.heap.size, 0, none⟩ = some (.int .i64 c1) ∧ w3.cell? ⟨w.heap.size, 1, none⟩ = some (.int .i64 x1) ∧ w3.cell? ⟨w.heap.size + 1, 0, none⟩ = some (.int .i64 c2) ∧ w3.cell? ⟨w.heap.size + 1, 1, none⟩ = some (.int .i64 x2) ∧
    w3.cell? ⟨w.heap.size + 1 + 1, 0, none⟩ = some (.int .i64 c3) ∧ w3.cell? ⟨w.heap.size + 1 + 1, 1, none⟩ = some (.int .i64 x3) ∧ Below w.heap.size w w3 := by
  obtain ⟨hc, hf⟩ := bcell hb
  have s := hb.size
  simp at s
  have hw : Below w.heap.size w (((w.alloc (.cells #[.int .i64 c1, .int .i64 x1] 23)).alloc (.cells #[.int .i64 c2, .int .i64 x2] 23)).alloc (.cells #[.int .i64 c3, .int .i64 x3] 23)) :=
    (((Below.refl w.heap.size w).alloc (Nat.le_refl _) _).alloc (by simp) _).alloc (by simp; omega) _
  refine ⟨?_, ?_, ?_, ?_, ?_, ?_, hw.trans (hb.mono (by simp; omega))⟩
  all_goals (rw [hc _ _ (by simp <;> omega)]; simp [go_sem]; done)

set_option maxHeartbeats 1000000 in
theorem order_ok (c1 x1 c2 x2 c3 x3 : Int) (w : World) (h1 : Dm.wrongN c1 x1 = 0) (h2 : Dm.wrongN c2 x2 = 0) (h3 : Dm.wrongN c3 x3 = 0) :
    Calls Try.prog 3 #[.agg #[.int .i64 c1, .int .i64 x1], .agg #[.int .i64 c2, .int .i64 x2], .agg #[.int .i64 c3, .int .i64 x3]] w fun e w' => e = .returned (.bool true) ∧ Below w.heap.size w w' := by
  have H1 := hide h1
  have H2 := hide h2
  have H3 := hide h3
  clear h1 h2 h3
  go_enter Try.func3, Try.ntmps3
  go_wp2_with fail
  refine (alive_any _).mono ?_
  rintro e w1 ⟨rfl, hb1⟩
  obtain ⟨t0, t1, t2, t3, t4, t5, hw⟩ := boxes3 hb1
  go_wp2_with fail
  refine (wrong_is c1 x1 _ (unhide H1)).mono ?_
  rintro e w2 ⟨rfl, hb2⟩
  have hb2 := hb1.trans (hb2.mono hb1.size)
  clear hb1 t0 t1 t2 t3 t4 t5 hw
  obtain ⟨t0, t1, t2, t3, t4, t5, hw⟩ := boxes3 hb2
  go_wp2_with fail
  refine (wrong_is c2 x2 _ (unhide H2)).mono ?_
  rintro e w3 ⟨rfl, hb3⟩
  have hb3 := hb2.trans (hb3.mono hb2.size)
  clear hb2 t0 t1 t2 t3 t4 t5 hw
  obtain ⟨t0, t1, t2, t3, t4, t5, hw⟩ := boxes3 hb3
  go_wp2_with fail
  refine (wrong_is c3 x3 _ (unhide H3)).mono ?_
  rintro e w4 ⟨rfl, hb4⟩
  have hb4 := hb3.trans (hb4.mono hb3.size)
  clear hb3 t0 t1 t2 t3 t4 t5 hw
  obtain ⟨t0, t1, t2, t3, t4, t5, hw⟩ := boxes3 hb4
  go_wp2_with fail
  refine (cmp_ok c1 x1 c2 x2 _ (unhide H1) (unhide H2)).mono ?_
  rintro e w5 ⟨rfl, hb5⟩
  have hb5 := hb4.trans (hb5.mono hb4.size)
  clear hb4 t0 t1 t2 t3 t4 t5 hw
  obtain ⟨t0, t1, t2, t3, t4, t5, hw⟩ := boxes3 hb5
  go_wp2_with fail
  refine (cmp_ok c2 x2 c1 x1 _ (unhide H2) (unhide H1)).mono ?_
  rintro e w6 ⟨rfl, hb6⟩
  have hb6 := hb5.trans (hb6.mono hb5.size)
  clear hb5 t0 t1 t2 t3 t4 t5 hw
  obtain ⟨t0, t1, t2, t3, t4, t5, hw⟩ := boxes3 hb6
  go_wp2_with fail
  refine (cmp_ok c2 x2 c3 x3 _ (unhide H2) (unhide H3)).mono ?_
  rintro e w7 ⟨rfl, hb7⟩
  have hb7 := hb6.trans (hb7.mono hb6.size)
  clear hb6 t0 t1 t2 t3 t4 t5 hw
  obtain ⟨t0, t1, t2, t3, t4, t5, hw⟩ := boxes3 hb7
  go_wp2_with fail
  refine (cmp_ok c1 x1 c3 x3 _ (unhide H1) (unhide H3)).mono ?_
  rintro e w8 ⟨rfl, hb8⟩
  have hb8 := hb7.trans (hb8.mono hb7.size)
  clear hb7 t0 t1 t2 t3 t4 t5 hw
  obtain ⟨t0, t1, t2, t3, t4, t5, hw⟩ := boxes3 hb8
  clear hb8
  have F := Dm.order_facts (c3 := c3) (x3 := x3) (unhide H1) (unhide H2)
  generalize Dm.sgn (Dm.V c1 x1 - Dm.V c2 x2) = s12 at *
  generalize Dm.sgn (Dm.V c2 x2 - Dm.V c1 x1) = s21 at *
  generalize Dm.sgn (Dm.V c2 x2 - Dm.V c3 x3) = s23 at *
  generalize Dm.sgn (Dm.V c1 x1 - Dm.V c3 x3) = s13 at *
  rcases F with ⟨rfl, rfl, rfl, rfl, rfl⟩ | ⟨rfl, rfl, hne⟩ | ⟨rfl, rfl, hne, hs⟩
  · by_cases g : 0 < s13
    · go_wp2
      go_ret
      exact ⟨rfl, hw⟩
    · go_wp2
      go_ret
      exact ⟨rfl, hw⟩
  · by_cases hc : c1 = c2
    · have hx : (x1 == x2) = false := by simp; exact fun q => hne ⟨hc, q⟩
      subst hc
      clear hne
      go_wp2
      go_ret
      exact ⟨rfl, hw⟩
    · have hc' : (c1 == c2) = false := by simp [hc]
      clear hne hc
      go_wp2
      go_ret
      exact ⟨rfl, hw⟩
  · have hs' : 0 < s23 ∨ (s23 ≤ 0 ∧ s13 ≤ 0) := by omega
    clear hs
    by_cases hc : c1 = c2
    · have hx : (x1 == x2) = false := by simp; exact fun q => hne ⟨hc, q⟩
      subst hc
      clear hne
      rcases hs' with g | ⟨g1, g2⟩
      · go_wp2
        go_ret
        exact ⟨rfl, hw⟩
      · go_wp2
        go_ret
        exact ⟨rfl, hw⟩
    · have hc' : (c1 == c2) = false := by simp [hc]
      clear hne hc
      rcases hs' with g | ⟨g1, g2⟩
      · go_wp2
        go_ret
        exact ⟨rfl, hw⟩
      · go_wp2
        go_ret
        exact ⟨rfl, hw⟩
end Go.Proofs.Ythgiepppcpjpaaa
