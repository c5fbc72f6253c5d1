/- Walks: Add, alive. -/
import Derived.Test.YtehnpfjmanmgpaaDoorW13
import Derived.Test.YtehnpfjmanmgpaaDoorW8
namespace Go.Proofs.YtehnpfjmanmgpaaDoor
open Go.RowKit

/-- what is told of the fraction S times 10^x -/
def told (S x : Int) (R : Bool) : Ending := .returned (.tuple #[.agg #[.int .i64 (Dm.fC (Dm.nearZ S x R) (Dm.nE S.natAbs x)), .int .i64 (Dm.fE (Dm.nearZ S x R) (Dm.nE S.natAbs x))], .int .i64 (Dm.fR (Dm.nearZ S x R) (Dm.nE S.natAbs x))])

theorem three_cells {w w3 : World} {c1 x1 c2 x2 : Int}
    (hb : Below (((w.alloc (.cells #[.int .i64 c1, .int .i64 x1] 23)).alloc (.cells #[.int .i64 c2, .int .i64 x2] 23)).alloc (.cells #[.int .i64 0, .int .i64 0] 23)).heap.size
      (((w.alloc (.cells #[.int .i64 c1, .int .i64 x1] 23)).alloc (.cells #[.int .i64 c2, .int .i64 x2] 23)).alloc (.cells #[.int .i64 0, .int .i64 0] 23)) w3) :
    w3.cell? ⟨w.heap.size, 0, none⟩ = some (.int .i64 c1) ∧ w3.cell? ⟨w.heap.size, 1, none⟩ = some (.int .i64 x1) ∧ w3.cell? ⟨w.heap.size + 1, 0, none⟩ = some (.int .i64 c2) ∧ w3.cell? ⟨w.heap.size + 1, 1, none⟩ = some (.int .i64 x2) ∧
    w3.cell? ⟨w.heap.size + 1 + 1, 0, none⟩ = some (.int .i64 0) ∧ w3.cell? ⟨w.heap.size + 1 + 1, 1, none⟩ = some (.int .i64 0) ∧ w3.frozen? ⟨w.heap.size + 1 + 1, 0, none⟩ = false ∧ w3.frozen? ⟨w.heap.size + 1 + 1, 1, none⟩ = false ∧ w.heap.size + 3 ≤ w3.heap.size ∧ Below w.heap.size w w3 := by
  obtain ⟨hc, hf⟩ := bcell hb
  have s := hb.size
  simp at s
  have hw : Below w.heap.size w (((w.alloc (.cells #[.int .i64 c1, .int .i64 x1] 23)).alloc (.cells #[.int .i64 c2, .int .i64 x2] 23)).alloc (.cells #[.int .i64 0, .int .i64 0] 23)) :=
    (((Below.refl w.heap.size w).alloc (Nat.le_refl _) _).alloc (by simp) _).alloc (by simp; omega) _
  refine ⟨?_, ?_, ?_, ?_, ?_, ?_, ?_, ?_, by omega, hw.trans (hb.mono (by simp; omega))⟩
  all_goals first | (rw [hc _ _ (by simp <;> omega)]; simp [go_sem]; done) | (rw [hf _ _ (by simp <;> omega)]; simp [go_sem]; done)

set_option maxHeartbeats 400000 in
theorem add_no (c1 x1 c2 x2 : Int) (w : World) (h : (Dm.wrong2 c1 x1 c2 x2 != 0) = true) :
    Calls Tryd.prog 14 #[.agg #[.int .i64 c1, .int .i64 x1], .agg #[.int .i64 c2, .int .i64 x2]] w fun e w' => e = .returned (.tuple #[.agg #[.int .i64 0, .int .i64 0], .int .i64 (Dm.wrong2 c1 x1 c2 x2)]) ∧ Below w.heap.size w w' := by
  go_enter Tryd.func14, Tryd.ntmps14
  go_wp2_with fail
  refine (wrongOf_any c1 x1 c2 x2 _).mono ?_
  rintro e w1 ⟨rfl, hb⟩
  obtain ⟨t0, t1, t2, t3, t4, t5, f0, f1, hz, hbw⟩ := three_cells hb
  go_wp2
  exact bodyPost_ret (v := .tuple #[.agg #[.int .i64 0, .int .i64 0], .int .i64 (Dm.wrong2 c1 x1 c2 x2)]) (by simp [results, Tryd.results14, go_sem, t4, t5]) rfl ⟨rfl, (hbw.setCell (by simp; omega) _).setCell (by simp; omega) _⟩

set_option maxHeartbeats 400000 in
theorem add_ok (c1 x1 c2 x2 : Int) (w : World) (h1 : Dm.wrongN c1 x1 = 0) (h2 : Dm.wrongN c2 x2 = 0) :
    Calls Tryd.prog 14 #[.agg #[.int .i64 c1, .int .i64 x1], .agg #[.int .i64 c2, .int .i64 x2]] w fun e w' => e = told (Dm.addS c1 x1 c2 x2) (min x1 x2) false ∧ Below w.heap.size w w' := by
  obtain ⟨p1, p2, p3, p4, _⟩ := Dm.wrong_ok h1
  obtain ⟨q1, q2, q3, q4, _⟩ := Dm.wrong_ok h2
  have H := hide ((Dm.wrong2_ok h1 c2 x2).trans h2)
  have M := hide (show -40 ≤ min x1 x2 ∧ min x1 x2 ≤ 40 by omega)
  clear h1 h2
  go_enter Tryd.func14, Tryd.ntmps14
  go_wp2_with fail
  refine (wrongOf_any c1 x1 c2 x2 _).mono ?_
  rintro e w1 ⟨rfl, hb⟩
  obtain ⟨t0, t1, t2, t3, t4, t5, f0, f1, hz, hbw⟩ := three_cells hb
  rw [unhide H]
  go_wp2_with fail
  refine (sum_any c1 x1 c2 x2 _ p1 p2 p3 p4 q1 q2 q3 q4).mono ?_
  rintro e w2 ⟨B, g, W, cap, D, rfl, hcap, hW, hD, hsg, hb2⟩
  have NZ := hide (Dm.sg_near hsg (min x1 x2))
  have hD' := hide hD
  have hb3 := hb.trans (hb2.mono hb.size)
  clear hsg hD t0 t1 t2 t3 t4 t5 f0 f1 hz hbw
  generalize hlow : min x1 x2 = low at *
  have HL := hide hlow
  clear hlow
  go_wp2_with fail
  refine (nearest_any B false g 0 W cap low D _ (unhide hD') hcap (by omega) (by have := (unhide M).1; omega) (by have := (unhide M).2; omega)).mono ?_
  rintro e w3 ⟨rfl, hb4⟩
  obtain ⟨t0, t1, t2, t3, t4, t5, f0, f1, hz, hbw⟩ := three_cells (hb3.trans (hb4.mono hb3.size))
  rw [(unhide NZ).1, (unhide NZ).2]
  clear NZ hb4 hb3 hb2 hb
  go_wp2
  exact bodyPost_ret (v := .tuple #[.agg #[.int .i64 (Dm.fC (Dm.nearZ (Dm.addS c1 x1 c2 x2) low false) (Dm.nE (Dm.addS c1 x1 c2 x2).natAbs low)), .int .i64 (Dm.fE (Dm.nearZ (Dm.addS c1 x1 c2 x2) low false) (Dm.nE (Dm.addS c1 x1 c2 x2).natAbs low))], .int .i64 (Dm.fR (Dm.nearZ (Dm.addS c1 x1 c2 x2) low false) (Dm.nE (Dm.addS c1 x1 c2 x2).natAbs low))]) (by simp [results, Tryd.results14, go_sem, t4, t5]) rfl ⟨by rw [unhide HL]; rfl, (hbw.setCell (by simp; omega) _).setCell (by simp; omega) _⟩

theorem alive_val : told (Dm.addS 15 (-1) 5 (-1)) (min (-1) (-1)) false = .returned (.tuple #[.agg #[.int .i64 2, .int .i64 0], .int .i64 0]) := by
  have a : Dm.fC (Dm.nearZ (Dm.addS 15 (-1) 5 (-1)) (min (-1) (-1)) false) (Dm.nE (Dm.addS 15 (-1) 5 (-1)).natAbs (min (-1) (-1))) = 2 := by decide +kernel
  have b : Dm.fE (Dm.nearZ (Dm.addS 15 (-1) 5 (-1)) (min (-1) (-1)) false) (Dm.nE (Dm.addS 15 (-1) 5 (-1)).natAbs (min (-1) (-1))) = 0 := by decide +kernel
  have c : Dm.fR (Dm.nearZ (Dm.addS 15 (-1) 5 (-1)) (min (-1) (-1)) false) (Dm.nE (Dm.addS 15 (-1) 5 (-1)).natAbs (min (-1) (-1))) = 0 := by decide +kernel
  unfold told
  rw [a, b, c]

set_option maxHeartbeats 400000 in
theorem alive_any (w : World) :
    Calls Tryd.prog 5 #[] w fun e w' => e = .returned (.bool true) ∧ Below w.heap.size w w' := by
  have H := hide (fun wx => add_ok 15 (-1) 5 (-1) wx (by decide) (by decide))
  rw [alive_val] at H
  go_enter Tryd.func5, Tryd.ntmps5
  go_wp2_with fail
  refine (unhide H _).mono ?_
  rintro e w1 ⟨rfl, hb⟩
  go_wp2
  go_ret
  exact ⟨rfl, hb.alloc hb.size _⟩
end Go.Proofs.YtehnpfjmanmgpaaDoor
