/- Walks: opposite, Sub, towardsZero, Floor, Ceil. -/
import Derived.Test.YthgiepppcpjpaaaW14
import Derived.Test.YthgiepppcpjpaaaDig2
namespace Go.Proofs.Ythgiepppcpjpaaa
open Go.RowKit

set_option maxHeartbeats 400000 in
theorem opposite_any (c x : Int) (w : World) (h1 : -1000000000000000000 < c) (h2 : c < 1000000000000000000) :
    Calls Try.prog 24 #[.agg #[.int .i64 c, .int .i64 x]] w fun e w' => e = .returned (.agg #[.int .i64 (-c), .int .i64 x]) ∧ Below w.heap.size w w' := by
  go_enter Try.func24, Try.ntmps24
  go_wp2
  exact bodyPost_ret (v := .agg #[.int .i64 (-c), .int .i64 x]) (by simp [results, Try.results24, go_sem]) rfl ⟨rfl, ((Below.refl _ _).alloc (Nat.le_refl _) _).alloc (by simp) _⟩

set_option maxHeartbeats 400000 in
theorem sub_no (c1 x1 c2 x2 : Int) (w : World) (h : (Dm.wrong2 c1 x1 c2 x2 != 0) = true) :
    Calls Try.prog 12 #[.agg #[.int .i64 c1, .int .i64 x1], .agg #[.int .i64 c2, .int .i64 x2]] w fun e w' => e = .returned (.tuple #[.agg #[.int .i64 0, .int .i64 0], .int .i64 (Dm.wrong2 c1 x1 c2 x2)]) ∧ Below w.heap.size w w' := by
  go_enter Try.func12, Try.ntmps12
  go_wp2_with fail
  refine (wrongOf_any c1 x1 c2 x2 _).mono ?_
  rintro e w1 ⟨rfl, hb⟩
  obtain ⟨t0, t1, t2, t3, t4, t5, f0, f1, hz, hbw⟩ := three_cells hb
  go_wp2
  exact bodyPost_ret (v := .tuple #[.agg #[.int .i64 0, .int .i64 0], .int .i64 (Dm.wrong2 c1 x1 c2 x2)]) (by simp [results, Try.results12, go_sem, t4, t5]) rfl ⟨rfl, (hbw.setCell (by simp; omega) _).setCell (by simp; omega) _⟩


set_option maxHeartbeats 1000000 in
theorem sub_ok (c1 x1 c2 x2 : Int) (w : World) (h1 : Dm.wrongN c1 x1 = 0) (h2 : Dm.wrongN c2 x2 = 0) :
    Calls Try.prog 12 #[.agg #[.int .i64 c1, .int .i64 x1], .agg #[.int .i64 c2, .int .i64 x2]] w fun e w' => e = told (Dm.addS c1 x1 (-c2) x2) (min x1 x2) false ∧ Below w.heap.size w w' := by
  obtain ⟨p1, p2, p3, p4, _⟩ := Dm.wrong_ok h1
  obtain ⟨q1, q2, q3, q4, _⟩ := Dm.wrong_ok h2
  have H := hide ((Dm.wrong2_ok h1 c2 x2).trans h2)
  have M := hide (show -40 ≤ min x1 x2 ∧ min x1 x2 ≤ 40 by omega)
  clear h1 h2
  go_enter Try.func12, Try.ntmps12
  go_wp2_with fail
  refine (wrongOf_any c1 x1 c2 x2 _).mono ?_
  rintro e w1 ⟨rfl, hb⟩
  obtain ⟨t0, t1, t2, t3, t4, t5, f0, f1, hz, hbw⟩ := three_cells hb
  rw [unhide H]
  have OP := hide (fun wx => opposite_any c2 x2 wx q1 q2)
  have SU := hide (fun wx => sum_any c1 x1 (-c2) x2 wx p1 p2 p3 p4 (by omega) (by omega) q3 q4)
  go_upto_region 4 with fail
  go_region_with (first
    | (go_at_call 24; refine (unhide OP _).mono ?_; rintro e w2 ⟨rfl, hb2⟩; have hb2 := hb.drew.trans (hb2.mono hb.size); obtain ⟨t0', t1', t2', t3', t4', t5', f0', f1', hz', hbw'⟩ := three_cells hb2)
    | (go_at_call 21; refine (unhide SU _).mono ?_; rintro e w3 ⟨B, g, W, cap, D, rfl, hcap, hW, hD, hsg, hb3⟩; have hb3 := hb2.trans (hb3.mono hb2.size); have NZ := hide (Dm.sg_near hsg (min x1 x2)); clear hsg)
    | (go_at_call 22; refine (nearest_any B false g 0 W cap (min x1 x2) D _ hD hcap (by omega) (by have := (unhide M).1; omega) (by have := (unhide M).2; omega)).mono ?_; rintro e w4 ⟨rfl, hb4⟩; have hb4 := hb3.trans (hb4.mono hb3.size); obtain ⟨u0, u1, u2, u3, u4, u5, k0, k1, kz, hbu⟩ := three_cells hb4; rw [(unhide NZ).1, (unhide NZ).2]))
  all_goals
    go_wp2
    exact bodyPost_ret (v := .tuple #[.agg #[.int .i64 (Dm.fC (Dm.nearZ (Dm.addS c1 x1 (-c2) x2) (min x1 x2) false) (Dm.nE (Dm.addS c1 x1 (-c2) x2).natAbs (min x1 x2))), .int .i64 (Dm.fE (Dm.nearZ (Dm.addS c1 x1 (-c2) x2) (min x1 x2) false) (Dm.nE (Dm.addS c1 x1 (-c2) x2).natAbs (min x1 x2)))], .int .i64 (Dm.fR (Dm.nearZ (Dm.addS c1 x1 (-c2) x2) (min x1 x2) false) (Dm.nE (Dm.addS c1 x1 (-c2) x2).natAbs (min x1 x2)))]) (by simp [results, Try.results12, go_sem, u4, u5]) rfl ⟨rfl, (hbu.setCell (by simp; omega) _).setCell (by simp; omega) _⟩
end Go.Proofs.Ythgiepppcpjpaaa
