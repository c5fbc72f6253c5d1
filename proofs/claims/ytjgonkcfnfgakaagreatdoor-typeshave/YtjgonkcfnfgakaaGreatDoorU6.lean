/- Walks: Fits, Join, Wrong of types; the same types. -/
import Derived.Test.YtjgonkcfnfgakaaGreatDoorU5
namespace Go.Proofs.YtjgonkcfnfgakaaGreatDoor
open Go.RowKit

set_option maxHeartbeats 2000000 in
theorem tFits_any (a b : Sp) (u v : Array Value) (w : World) (ha : a.n ≤ 60000) (hb : b.n ≤ 60000) (ka : a.k ≠ 5) (kb : b.k ≠ 5) (hu : MemT w.heap.size w (rt a) u) (hv : MemT w.heap.size w (rt b) v) :
    Calls Tryz.prog 9 #[.agg u, .agg v] w fun e w' => e = .returned (fit a b) ∧ Below w.heap.size w w' := by
  have S1 := hide (fun wx (h : Below w.heap.size w wx) => shapeOf_any a u wx ha ka (hu.grow h))
  have S2 := hide (fun wx (h : Below w.heap.size w wx) => shapeOf_any b v wx hb kb (hv.grow h))
  have F := hide (fun wx => fits_any a b wx (by omega) (by omega))
  obtain ⟨k1, x1, rfl⟩ := rt_kind a hu
  obtain ⟨k2, x2, rfl⟩ := rt_kind b hv
  clear hu hv
  go_enter Tryz.func9, Tryz.ntmps9
  go_wp2_with fail
  have X0 := (Bx2.new w 24 (.int .i64 k1) x1).keep ((Below.refl _ _).alloc (Nat.le_refl _) (.cells #[.int .i64 k2, x2] 24)) (by simp)
  have X1 : Bx2 ((w.alloc (.cells #[.int .i64 k1, x1] 24)).alloc (.cells #[.int .i64 k2, x2] 24)) (w.heap.size + 1) (.int .i64 k2) x2 := by simpa using Bx2.new (w.alloc (.cells #[.int .i64 k1, x1] 24)) 24 (.int .i64 k2) x2
  have W0 : Below w.heap.size w ((w.alloc (.cells #[.int .i64 k1, x1] 24)).alloc (.cells #[.int .i64 k2, x2] 24)) := ((Below.refl _ _).alloc (Nat.le_refl _) _).alloc (by simp) _
  generalize (w.alloc (.cells #[.int .i64 k1, x1] 24)).alloc (.cells #[.int .i64 k2, x2] 24) = w0 at X0 X1 W0 ⊢
  have y0 := X0.at0
  have y1 := X0.at1
  have z0 := X1.at0
  have z1 := X1.at1
  have HX0 := hide X0
  have HX1 := hide X1
  have HW0 := hide W0
  clear X0 X1 W0
  go_region_with (first
    | (go_at_call 14
       first
         | (with_reducible refine (unhide S1 _ ?_).mono ?_; · exact below_via (unhide HW0) (by repeat (first | assumption | exact Below.refl _ _ | apply Below.drew)))
         | (with_reducible refine (unhide S2 _ ?_).mono ?_; · exact below_via (unhide HW0) (by repeat (first | assumption | exact Below.refl _ _ | apply Below.drew)))
       rintro e w1 ⟨rfl, hb⟩
       replace hb : Below w0.heap.size w0 w1 := below_via (by repeat (first | assumption | exact Below.refl _ _ | apply Below.drew)) hb
       have q0 := ((unhide HX0).keep hb (unhide HX0).low).at0
       have q1 := ((unhide HX0).keep hb (unhide HX0).low).at1
       have q2 := ((unhide HX1).keep hb (unhide HX1).low).at0
       have q3 := ((unhide HX1).keep hb (unhide HX1).low).at1)
    | (go_at_call 17
       refine (unhide F _).mono ?_
       rintro e w2 ⟨rfl, hb⟩
       replace hb : Below w0.heap.size w0 w2 := below_via (by repeat (first | assumption | exact Below.refl _ _ | apply Below.drew)) hb))
  all_goals
    have HB := hide hb
    clear hb
    go_wp2
    go_ret
    exact ⟨rfl, below_via (unhide HW0) (by repeat (first | exact unhide HB | apply Below.drew))⟩
end Go.Proofs.YtjgonkcfnfgakaaGreatDoor
