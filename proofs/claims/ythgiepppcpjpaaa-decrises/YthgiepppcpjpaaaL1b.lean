/- The walk over DecOrder, whatever the numbers. -/
import Derived.Test.YthgiepppcpjpaaaL1
namespace Go.Proofs.Ythgiepppcpjpaaa
open Go.RowKit

theorem bne_of {n : Int} (h : ¬ n = 0) : (n != 0) = true := by simp [h]
theorem beq_of {n : Int} (h : ¬ n = 0) : (n == 0) = false := by simp [h]

set_option maxHeartbeats 1000000 in
theorem order_a (c1 x1 c2 x2 c3 x3 : Int) (w : World) (h1 : ¬ Dm.wrongN c1 x1 = 0) :
    Calls Try.prog 3 #[.agg #[.int .i64 c1, .int .i64 x1], .agg #[.int .i64 c2, .int .i64 x2], .agg #[.int .i64 c3, .int .i64 x3]] w fun e w' => e = .returned (.bool true) ∧ Below w.heap.size w w' := by
  have n1 := bne_of h1
  have n2 : (Dm.wrong2 c1 x1 c2 x2 != 0) = true := by rw [Dm.wrong2_no h1]; exact n1
  have n3 : (Dm.wrong2 c1 x1 c2 x2 == 0) = false := by rw [Dm.wrong2_no h1]; exact beq_of h1
  clear h1
  go_enter Try.func3, Try.ntmps3
  go_wp2_with fail
  refine (alive_any _).mono ?_
  rintro e w1 ⟨rfl, hb1⟩
  obtain ⟨t0, t1, t2, t3, t4, t5, hw⟩ := boxes3 hb1
  go_wp2_with fail
  refine (wrong_any c1 x1 _).mono ?_
  rintro e w2 ⟨rfl, hb2⟩
  have hb2 := hb1.trans (hb2.mono hb1.size)
  clear hb1 t0 t1 t2 t3 t4 t5 hw
  obtain ⟨t0, t1, t2, t3, t4, t5, hw⟩ := boxes3 hb2
  go_wp2_with fail
  refine (cmp_no c1 x1 c2 x2 _ n2).mono ?_
  rintro e w3 ⟨rfl, hb3⟩
  have hb3 := hb2.trans (hb3.mono hb2.size)
  clear hb2 t0 t1 t2 t3 t4 t5 hw
  obtain ⟨t0, t1, t2, t3, t4, t5, hw⟩ := boxes3 hb3
  go_wp2_with fail
  refine (wrong_any c1 x1 _).mono ?_
  rintro e w4 ⟨rfl, hb4⟩
  have hb4 := hb3.trans (hb4.mono hb3.size)
  clear hb3 t0 t1 t2 t3 t4 t5 hw
  obtain ⟨t0, t1, t2, t3, t4, t5, hw⟩ := boxes3 hb4
  go_wp2
  go_ret
  exact ⟨rfl, hw⟩

set_option maxHeartbeats 1000000 in
theorem order_b (c1 x1 c2 x2 c3 x3 : Int) (w : World) (h1 : Dm.wrongN c1 x1 = 0) (h2 : ¬ Dm.wrongN c2 x2 = 0) :
    Calls Try.prog 3 #[.agg #[.int .i64 c1, .int .i64 x1], .agg #[.int .i64 c2, .int .i64 x2], .agg #[.int .i64 c3, .int .i64 x3]] w fun e w' => e = .returned (.bool true) ∧ Below w.heap.size w w' := by
  have n1 := bne_of h2
  have n2 : (Dm.wrong2 c1 x1 c2 x2 != 0) = true := by rw [Dm.wrong2_ok h1]; exact n1
  have n3 : (Dm.wrong2 c1 x1 c2 x2 == 0) = false := by rw [Dm.wrong2_ok h1]; exact beq_of h2
  have H1 := hide h1
  clear h1 h2
  go_enter Try.func3, Try.ntmps3
  go_wp2_with fail
  refine (alive_any _).mono ?_
  rintro e w1 ⟨rfl, hb1⟩
  obtain ⟨t0, t1, t2, t3, t4, t5, hw⟩ := boxes3 hb1
  go_wp2_with fail
  refine (wrong_is c1 x1 _ (unhide H1)).mono ?_
  rintro e w2 ⟨rfl, hb2⟩
  have hb2 := hb1.trans (hb2.mono hb1.size)
  clear hb1 t0 t1 t2 t3 t4 t5 hw
  obtain ⟨t0, t1, t2, t3, t4, t5, hw⟩ := boxes3 hb2
  go_wp2_with fail
  refine (wrong_any c2 x2 _).mono ?_
  rintro e w3 ⟨rfl, hb3⟩
  have hb3 := hb2.trans (hb3.mono hb2.size)
  clear hb2 t0 t1 t2 t3 t4 t5 hw
  obtain ⟨t0, t1, t2, t3, t4, t5, hw⟩ := boxes3 hb3
  go_wp2_with fail
  refine (cmp_no c1 x1 c2 x2 _ n2).mono ?_
  rintro e w4 ⟨rfl, hb4⟩
  have hb4 := hb3.trans (hb4.mono hb3.size)
  clear hb3 t0 t1 t2 t3 t4 t5 hw
  obtain ⟨t0, t1, t2, t3, t4, t5, hw⟩ := boxes3 hb4
  go_wp2_with fail
  refine (wrong_is c1 x1 _ (unhide H1)).mono ?_
  rintro e w5 ⟨rfl, hb5⟩
  have hb5 := hb4.trans (hb5.mono hb4.size)
  clear hb4 t0 t1 t2 t3 t4 t5 hw
  obtain ⟨t0, t1, t2, t3, t4, t5, hw⟩ := boxes3 hb5
  go_wp2_with fail
  refine (wrong_any c2 x2 _).mono ?_
  rintro e w6 ⟨rfl, hb6⟩
  have hb6 := hb5.trans (hb6.mono hb5.size)
  clear hb5 t0 t1 t2 t3 t4 t5 hw
  obtain ⟨t0, t1, t2, t3, t4, t5, hw⟩ := boxes3 hb6
  go_wp2
  go_ret
  exact ⟨rfl, hw⟩

set_option maxHeartbeats 1000000 in
theorem order_c (c1 x1 c2 x2 c3 x3 : Int) (w : World) (h1 : Dm.wrongN c1 x1 = 0) (h2 : Dm.wrongN c2 x2 = 0) (h3 : ¬ Dm.wrongN c3 x3 = 0) :
    Calls Try.prog 3 #[.agg #[.int .i64 c1, .int .i64 x1], .agg #[.int .i64 c2, .int .i64 x2], .agg #[.int .i64 c3, .int .i64 x3]] w fun e w' => e = .returned (.bool true) ∧ Below w.heap.size w w' := by
  have n1 := bne_of h3
  have H1 := hide h1
  have H2 := hide h2
  clear h1 h2 h3
  go_enter Try.func3, Try.ntmps3
  go_wp2_with fail
  refine (alive_any _).mono ?_
  rintro e w1 ⟨rfl, hb1⟩
  obtain ⟨t0, t1, t2, t3, t4, t5, hw⟩ := boxes3 hb1
  go_wp2_with fail
  refine (wrong_is c1 x1 _ (unhide H1)).mono ?_
  rintro e w2 ⟨rfl, hb2⟩
  have hb2 := hb1.trans (hb2.mono hb1.size)
  clear hb1 t0 t1 t2 t3 t4 t5 hw
  obtain ⟨t0, t1, t2, t3, t4, t5, hw⟩ := boxes3 hb2
  go_wp2_with fail
  refine (wrong_is c2 x2 _ (unhide H2)).mono ?_
  rintro e w3 ⟨rfl, hb3⟩
  have hb3 := hb2.trans (hb3.mono hb2.size)
  clear hb2 t0 t1 t2 t3 t4 t5 hw
  obtain ⟨t0, t1, t2, t3, t4, t5, hw⟩ := boxes3 hb3
  go_wp2_with fail
  refine (wrong_any c3 x3 _).mono ?_
  rintro e w4 ⟨rfl, hb4⟩
  have hb4 := hb3.trans (hb4.mono hb3.size)
  clear hb3 t0 t1 t2 t3 t4 t5 hw
  obtain ⟨t0, t1, t2, t3, t4, t5, hw⟩ := boxes3 hb4
  go_wp2_with fail
  refine (cmp_ok c1 x1 c2 x2 _ (unhide H1) (unhide H2)).mono ?_
  rintro e w5 ⟨rfl, hb5⟩
  have hb5 := hb4.trans (hb5.mono hb4.size)
  clear hb4 t0 t1 t2 t3 t4 t5 hw
  obtain ⟨t0, t1, t2, t3, t4, t5, hw⟩ := boxes3 hb5
  go_wp2
  go_ret
  exact ⟨rfl, hw⟩

theorem order_walk (c1 x1 c2 x2 c3 x3 : Int) (w : World) :
    Calls Try.prog 3 #[.agg #[.int .i64 c1, .int .i64 x1], .agg #[.int .i64 c2, .int .i64 x2], .agg #[.int .i64 c3, .int .i64 x3]] w fun e w' => e = .returned (.bool true) ∧ Below w.heap.size w w' := by
  by_cases h1 : Dm.wrongN c1 x1 = 0
  · by_cases h2 : Dm.wrongN c2 x2 = 0
    · by_cases h3 : Dm.wrongN c3 x3 = 0
      · exact order_ok c1 x1 c2 x2 c3 x3 w h1 h2 h3
      · exact order_c c1 x1 c2 x2 c3 x3 w h1 h2 h3
    · exact order_b c1 x1 c2 x2 c3 x3 w h1 h2
  · exact order_a c1 x1 c2 x2 c3 x3 w h1
end Go.Proofs.Ythgiepppcpjpaaa
