/- Walks: Join of types. -/
import Derived.Test.YtjgonkcfnfgakaaGreatDoorU6
namespace Go.Proofs.YtjgonkcfnfgakaaGreatDoor
open Go.RowKit

set_option maxHeartbeats 2000000 in
theorem tJoin_any (a b : Sp) (u v : Array Value) (w : World) (ha : a.n ≤ 60000) (hb : b.n ≤ 60000) (ka : a.k ≠ 5) (kb : b.k ≠ 5) (hu : MemT w.heap.size w (rt a) u) (hv : MemT w.heap.size w (rt b) v) :
    Calls Tryz.prog 8 #[.agg u, .agg v] w fun e w' => ∃ x, e = .returned (.agg x) ∧ MemTP (fun q => w.heap.size ≤ q ∧ q < w'.heap.size) w' (rt (a.join b)) x ∧ Below w.heap.size w w' := by
  have S1 := hide (fun wx (h : Below w.heap.size w wx) => shapeOf_any a u wx ha ka (hu.grow h))
  have S2 := hide (fun wx (h : Below w.heap.size w wx) => shapeOf_any b v wx hb kb (hv.grow h))
  have F := hide (fun wx => join_any a b wx (by omega) (by omega))
  have hj : (a.join b).n ≤ 60000 := by
    unfold Sp.join
    split
    · exact hb
    · split
      · exact ha
      · exact Nat.le_trans (Nat.min_le_left _ _) ha
  have WR := hide (fun wx => written_any (a.join b) wx hj)
  clear hj
  obtain ⟨k1, x1, rfl⟩ := rt_kind a hu
  obtain ⟨k2, x2, rfl⟩ := rt_kind b hv
  clear hu hv
  go_enter Tryz.func8, Tryz.ntmps8
  go_wp2_with fail
  have X0 := (Bx2.new w 24 (.int .i64 k1) x1).keep ((Below.refl _ _).alloc (Nat.le_refl _) (.cells #[.int .i64 k2, x2] 24)) (by simp)
  have X1 : Bx2 ((w.alloc (.cells #[.int .i64 k1, x1] 24)).alloc (.cells #[.int .i64 k2, x2] 24)) (w.heap.size + 1) (.int .i64 k2) x2 := by simpa using Bx2.new (w.alloc (.cells #[.int .i64 k1, x1] 24)) 24 (.int .i64 k2) x2
  have W0 : Below w.heap.size w ((w.alloc (.cells #[.int .i64 k1, x1] 24)).alloc (.cells #[.int .i64 k2, x2] 24)) := ((Below.refl _ _).alloc (Nat.le_refl _) _).alloc (by simp) _
  have X2 := Bx2.new ((w.alloc (.cells #[.int .i64 k1, x1] 24)).alloc (.cells #[.int .i64 k2, x2] 24)) 24 (.int .i64 0) (.slice none 0 0)
  have l := W0.size
  replace X0 := X0.keep ((Below.refl _ _).alloc (Nat.le_refl _) (.cells #[.int .i64 0, .slice none 0 0] 24)) X0.low
  replace X1 := X1.keep ((Below.refl _ _).alloc (Nat.le_refl _) (.cells #[.int .i64 0, .slice none 0 0] 24)) X1.low
  replace W0 := W0.alloc l (.cells #[.int .i64 0, .slice none 0 0] 24)
  simp only [World.size_alloc] at X2
  clear l
  generalize ((w.alloc (.cells #[.int .i64 k1, x1] 24)).alloc (.cells #[.int .i64 k2, x2] 24)).alloc (.cells #[.int .i64 0, .slice none 0 0] 24) = w0 at X0 X1 X2 W0 ⊢
  have y0 := X0.at0
  have y1 := X0.at1
  have z0 := X1.at0
  have z1 := X1.at1
  have HX0 := hide X0
  have HX1 := hide X1
  have HW0 := hide W0
  clear X0 X1 W0
  have HX2 := hide X2
  clear X2
  go_region_with (first
    | (go_at_call 14
       first
         | (with_reducible refine (unhide S1 _ ?_).mono ?_; · exact below_via (unhide HW0) (by repeat (first | assumption | exact Below.refl _ _ | apply Below.drew)))
         | (with_reducible refine (unhide S2 _ ?_).mono ?_; · exact below_via (unhide HW0) (by repeat (first | assumption | exact Below.refl _ _ | apply Below.drew)))
       rintro e w1 ⟨rfl, hb⟩
       replace hb : Below w0.heap.size w0 w1 := below_via (by repeat (first | assumption | exact Below.refl _ _ | apply Below.drew)) hb
       have q0 := ((unhide HX0).keep hb (unhide HX0).low).at0
       have q1 := ((unhide HX0).keep hb (unhide HX0).low).at1
       have q2 := ((unhide HX1).keep hb (unhide HX1).low).at0
       have q3 := ((unhide HX1).keep hb (unhide HX1).low).at1)
    | (go_at_call 15
       refine (unhide F _).mono ?_
       rintro e w2 ⟨rfl, hb⟩
       replace hb : Below w0.heap.size w0 w2 := below_via (by repeat (first | assumption | exact Below.refl _ _ | apply Below.drew)) hb)
    | (go_at_call 16
       refine (unhide WR _).mono ?_
       rintro e w3 ⟨x, rfl, hx, hb⟩
       replace hx := memTP_via (w0 := w0) (by repeat (first | assumption | exact Below.refl _ _ | apply Below.drew)) hx
       replace hb : Below w0.heap.size w0 w3 := below_via (by repeat (first | assumption | exact Below.refl _ _ | apply Below.drew)) hb
       obtain ⟨k3, a3, n3, c3, rfl⟩ := hx.form
       have HM := hide hx
       have g0 := ((unhide HX2).keep hb (unhide HX2).low).at0
       have g1 := ((unhide HX2).keep hb (unhide HX2).low).at1
       have h0 := ((unhide HX2).keep hb (unhide HX2).low).th0
       have h1 := ((unhide HX2).keep hb (unhide HX2).low).th1
       have l2 := ((unhide HX2).keep hb (unhide HX2).low).low
       have r0 := hide (((unhide HX2).keep hb (unhide HX2).low).put (.int .i64 k3) (.slice a3 n3 c3)).at0
       have r1 := hide (((unhide HX2).keep hb (unhide HX2).low).put (.int .i64 k3) (.slice a3 n3 c3)).at1
       clear hx))
  all_goals
    have HB := hide (below_via (unhide HW0) hb)
    have HN := hide (memTP_via (unhide HW0) ((unhide HM).put (unhide HX2).low (.int .i64 k3) (.slice a3 n3 c3)))
    have lw := (unhide HW0).size
    clear hb HM
    go_wp2
    refine bodyPost_ret (v := .agg #[.int .i64 k3, .slice a3 n3 c3]) ?_ rfl ⟨_, rfl, unhide HN, ?_⟩
    · simp [results, Tryz.results8, go_sem, unhide r0, unhide r1]
    · exact ((unhide HB).setCell (by simp; omega) _).setCell (by simp; omega) _
end Go.Proofs.YtjgonkcfnfgakaaGreatDoor
