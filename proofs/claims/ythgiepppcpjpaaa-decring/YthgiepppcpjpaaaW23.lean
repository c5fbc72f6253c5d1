/- Walks: Div. -/
import Derived.Test.YthgiepppcpjpaaaW14
import Derived.Test.YthgiepppcpjpaaaW22
namespace Go.Proofs.Ythgiepppcpjpaaa
open Go.RowKit

/-- what is told of the digits N, of which perhaps more follow, times 10^x -/
def toldB (B : Bool) (N : Nat) (x : Int) (R : Bool) : Ending := .returned (.tuple #[.agg #[.int .i64 (Dm.fC (Dm.sg B (Dm.nQ N x R)) (Dm.nE N x)), .int .i64 (Dm.fE (Dm.sg B (Dm.nQ N x R)) (Dm.nE N x))], .int .i64 (Dm.fR (Dm.sg B (Dm.nQ N x R)) (Dm.nE N x))])

set_option maxHeartbeats 400000 in
theorem div_no (c1 x1 c2 x2 : Int) (w : World) (h : (Dm.wrong2 c1 x1 c2 x2 != 0) = true) :
    Calls Try.prog 13 #[.agg #[.int .i64 c1, .int .i64 x1], .agg #[.int .i64 c2, .int .i64 x2]] w fun e w' => e = .returned (.tuple #[.agg #[.int .i64 0, .int .i64 0], .int .i64 (Dm.wrong2 c1 x1 c2 x2)]) ∧ Below w.heap.size w w' := by
  go_enter Try.func13, Try.ntmps13
  go_wp2_with fail
  refine (wrongOf_any c1 x1 c2 x2 _).mono ?_
  rintro e w1 ⟨rfl, hb⟩
  obtain ⟨t0, t1, t2, t3, t4, t5, f0, f1, hz, hbw⟩ := three_cells hb
  go_wp2
  exact bodyPost_ret (v := .tuple #[.agg #[.int .i64 0, .int .i64 0], .int .i64 (Dm.wrong2 c1 x1 c2 x2)]) (by simp [results, Try.results13, go_sem, t4, t5]) rfl ⟨rfl, (hbw.setCell (by simp; omega) _).setCell (by simp; omega) _⟩

set_option maxHeartbeats 400000 in
theorem div_zero (c1 x1 x2 : Int) (w : World) (h1 : Dm.wrongN c1 x1 = 0) (h2 : Dm.wrongN 0 x2 = 0) :
    Calls Try.prog 13 #[.agg #[.int .i64 c1, .int .i64 x1], .agg #[.int .i64 0, .int .i64 x2]] w fun e w' => e = .returned (.tuple #[.agg #[.int .i64 0, .int .i64 0], .int .i64 10]) ∧ Below w.heap.size w w' := by
  have H := hide ((Dm.wrong2_ok h1 0 x2).trans h2)
  clear h1 h2
  go_enter Try.func13, Try.ntmps13
  go_wp2_with fail
  refine (wrongOf_any c1 x1 0 x2 _).mono ?_
  rintro e w1 ⟨rfl, hb⟩
  obtain ⟨t0, t1, t2, t3, t4, t5, f0, f1, hz, hbw⟩ := three_cells hb
  rw [unhide H]
  go_wp2
  exact bodyPost_ret (v := .tuple #[.agg #[.int .i64 0, .int .i64 0], .int .i64 10]) (by simp [results, Try.results13, go_sem, t4, t5]) rfl ⟨rfl, (hbw.setCell (by simp; omega) _).setCell (by simp; omega) _⟩

set_option maxHeartbeats 400000 in
theorem div_ok (c1 x1 c2 x2 : Int) (w : World) (h1 : Dm.wrongN c1 x1 = 0) (h2 : Dm.wrongN c2 x2 = 0) (h0 : c2 ≠ 0) :
    Calls Try.prog 13 #[.agg #[.int .i64 c1, .int .i64 x1], .agg #[.int .i64 c2, .int .i64 x2]] w fun e w' => ∃ r : Nat, e = toldB (!(decide (c1 < 0) == decide (c2 < 0))) (c1.natAbs * 10 ^ 40 / c2.natAbs) (x1 - x2 - 40) ((r : Int) != 0) ∧ r = c1.natAbs * 10 ^ 40 % c2.natAbs ∧ Below w.heap.size w w' := by
  obtain ⟨p1, p2, p3, p4, _⟩ := Dm.wrong_ok h1
  obtain ⟨q1, q2, q3, q4, _⟩ := Dm.wrong_ok h2
  have H := hide ((Dm.wrong2_ok h1 c2 x2).trans h2)
  have H0 := hide h0
  have n0 : (c2 == 0) = false := by simp [h0]
  clear h1 h2 h0
  go_enter Try.func13, Try.ntmps13
  go_wp2_with fail
  refine (wrongOf_any c1 x1 c2 x2 _).mono ?_
  rintro e w1 ⟨rfl, hb⟩
  obtain ⟨t0, t1, t2, t3, t4, t5, f0, f1, hz, hbw⟩ := three_cells hb
  rw [unhide H]
  go_wp2_with fail
  refine (quotient_any c1 x1 c2 x2 _ p1 p2 p3 p4 q1 q2 q3 q4 (unhide H0)).mono ?_
  rintro e w2 ⟨g, cap, r, D, rfl, hcap, hD, hv, hr, hb2⟩
  have NZ : Hid (Dm.val D 58 = c1.natAbs * 10 ^ 40 / c2.natAbs ∧ r = c1.natAbs * 10 ^ 40 % c2.natAbs) := hide (by
    rw [← hv, Nat.mul_comm]
    exact ⟨by rw [Nat.mul_add_div (by omega), Nat.div_eq_of_lt hr, Nat.add_zero], by rw [Nat.mul_add_mod, Nat.mod_eq_of_lt hr]⟩)
  have hD' := hide hD
  have hb3 := hb.trans (hb2.mono hb.size)
  clear hv hr hD t0 t1 t2 t3 t4 t5 f0 f1 hz hbw
  generalize hB : (!(decide (c1 < 0) == decide (c2 < 0))) = B at *
  generalize hR : ((r : Int) != 0) = R at *
  have HB := hide hB
  have HR := hide hR
  clear hB hR
  go_wp2_with fail
  refine (nearest_any B R g 0 58 cap (x1 - x2 - 40) D _ (unhide hD') hcap (by omega) (by omega) (by omega)).mono ?_
  rintro e w3 ⟨rfl, hb4⟩
  obtain ⟨t0, t1, t2, t3, t4, t5, f0, f1, hz, hbw⟩ := three_cells (hb3.trans (hb4.mono hb3.size))
  rw [(unhide NZ).1]
  clear hb4 hb3 hb2 hb
  generalize hN : c1.natAbs * 10 ^ 40 / c2.natAbs = N at *
  have HN := hide hN
  clear hN
  go_wp2
  exact bodyPost_ret (v := .tuple #[.agg #[.int .i64 (Dm.fC (Dm.sg B (Dm.nQ N (x1 - x2 - 40) R)) (Dm.nE N (x1 - x2 - 40))), .int .i64 (Dm.fE (Dm.sg B (Dm.nQ N (x1 - x2 - 40) R)) (Dm.nE N (x1 - x2 - 40)))], .int .i64 (Dm.fR (Dm.sg B (Dm.nQ N (x1 - x2 - 40) R)) (Dm.nE N (x1 - x2 - 40)))]) (by simp [results, Try.results13, go_sem, t4, t5]) rfl ⟨r, by rw [unhide HB, unhide HR, unhide HN]; rfl, (unhide NZ).2, (hbw.setCell (by simp; omega) _).setCell (by simp; omega) _⟩
end Go.Proofs.Ythgiepppcpjpaaa
