/- Walks: Mul. -/
import Derived.Test.YthgiepppcpjpaaaW14
import Derived.Test.YthgiepppcpjpaaaW20
namespace Dm
theorem prod_sg {c1 c2 : Int} {v : Nat} (h : v = c1.natAbs * c2.natAbs) : sg (!(decide (c1 < 0) == decide (c2 < 0))) v = c1 * c2 := by
  subst h
  unfold sg
  by_cases h1 : c1 < 0 <;> by_cases h2 : c2 < 0 <;> simp only [h1, h2, decide_true, decide_false] <;> simp only [Int.natCast_mul]
  · rw [show (c1.natAbs : Int) = -c1 by omega, show (c2.natAbs : Int) = -c2 by omega]; simp [Int.neg_mul, Int.mul_neg]
  · rw [show (c1.natAbs : Int) = -c1 by omega, show (c2.natAbs : Int) = c2 by omega]; simp [Int.neg_mul]
  · rw [show (c1.natAbs : Int) = c1 by omega, show (c2.natAbs : Int) = -c2 by omega]; simp [Int.mul_neg]
  · rw [show (c1.natAbs : Int) = c1 by omega, show (c2.natAbs : Int) = c2 by omega]; simp
end Dm
namespace Go.Proofs.Ythgiepppcpjpaaa
open Go.RowKit

set_option maxHeartbeats 400000 in
theorem mul_no (c1 x1 c2 x2 : Int) (w : World) (h : (Dm.wrong2 c1 x1 c2 x2 != 0) = true) :
    Calls Try.prog 11 #[.agg #[.int .i64 c1, .int .i64 x1], .agg #[.int .i64 c2, .int .i64 x2]] w fun e w' => e = .returned (.tuple #[.agg #[.int .i64 0, .int .i64 0], .int .i64 (Dm.wrong2 c1 x1 c2 x2)]) ∧ Below w.heap.size w w' := by
  go_enter Try.func11, Try.ntmps11
  go_wp2_with fail
  refine (wrongOf_any c1 x1 c2 x2 _).mono ?_
  rintro e w1 ⟨rfl, hb⟩
  obtain ⟨t0, t1, t2, t3, t4, t5, f0, f1, hz, hbw⟩ := three_cells hb
  go_wp2
  exact bodyPost_ret (v := .tuple #[.agg #[.int .i64 0, .int .i64 0], .int .i64 (Dm.wrong2 c1 x1 c2 x2)]) (by simp [results, Try.results11, go_sem, t4, t5]) rfl ⟨rfl, (hbw.setCell (by simp; omega) _).setCell (by simp; omega) _⟩

set_option maxHeartbeats 400000 in
theorem mul_ok (c1 x1 c2 x2 : Int) (w : World) (h1 : Dm.wrongN c1 x1 = 0) (h2 : Dm.wrongN c2 x2 = 0) :
    Calls Try.prog 11 #[.agg #[.int .i64 c1, .int .i64 x1], .agg #[.int .i64 c2, .int .i64 x2]] w fun e w' => e = told (c1 * c2) (x1 + x2) false ∧ Below w.heap.size w w' := by
  obtain ⟨p1, p2, p3, p4, _⟩ := Dm.wrong_ok h1
  obtain ⟨q1, q2, q3, q4, _⟩ := Dm.wrong_ok h2
  have H := hide ((Dm.wrong2_ok h1 c2 x2).trans h2)
  clear h1 h2
  go_enter Try.func11, Try.ntmps11
  go_wp2_with fail
  refine (wrongOf_any c1 x1 c2 x2 _).mono ?_
  rintro e w1 ⟨rfl, hb⟩
  obtain ⟨t0, t1, t2, t3, t4, t5, f0, f1, hz, hbw⟩ := three_cells hb
  rw [unhide H]
  go_wp2_with fail
  refine (product_any c1 x1 c2 x2 _ p1 p2 p3 p4 q1 q2 q3 q4).mono ?_
  rintro e w2 ⟨g, cap, D, rfl, hcap, hD, hv, hb2⟩
  have NZ := hide (Dm.sg_near (Dm.prod_sg hv) (x1 + x2))
  have hD' := hide hD
  have hb3 := hb.trans (hb2.mono hb.size)
  clear hv hD t0 t1 t2 t3 t4 t5 f0 f1 hz hbw
  generalize (!(decide (c1 < 0) == decide (c2 < 0))) = B at *
  go_wp2_with fail
  refine (nearest_any B false g 0 36 cap (x1 + x2) D _ (unhide hD') hcap (by omega) (by omega) (by omega)).mono ?_
  rintro e w3 ⟨rfl, hb4⟩
  obtain ⟨t0, t1, t2, t3, t4, t5, f0, f1, hz, hbw⟩ := three_cells (hb3.trans (hb4.mono hb3.size))
  rw [(unhide NZ).1, (unhide NZ).2]
  clear NZ hb4 hb3 hb2 hb
  go_wp2
  exact bodyPost_ret (v := .tuple #[.agg #[.int .i64 (Dm.fC (Dm.nearZ (c1 * c2) (x1 + x2) false) (Dm.nE (c1 * c2).natAbs (x1 + x2))), .int .i64 (Dm.fE (Dm.nearZ (c1 * c2) (x1 + x2) false) (Dm.nE (c1 * c2).natAbs (x1 + x2)))], .int .i64 (Dm.fR (Dm.nearZ (c1 * c2) (x1 + x2) false) (Dm.nE (c1 * c2).natAbs (x1 + x2)))]) (by simp [results, Try.results11, go_sem, t4, t5]) rfl ⟨rfl, (hbw.setCell (by simp; omega) _).setCell (by simp; omega) _⟩

end Go.Proofs.Ythgiepppcpjpaaa
