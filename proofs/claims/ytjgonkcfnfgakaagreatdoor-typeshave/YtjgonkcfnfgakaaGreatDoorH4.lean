/- Walks: Has. -/
import Derived.Test.YtjgonkcfnfgakaaGreatDoorH3
namespace Go.Proofs.YtjgonkcfnfgakaaGreatDoor
open Go.RowKit

/-- a value's six cells in a block -/
structure V6 (w : World) (b : Nat) (v0 v1 v2 v3 v4 v5 : Value) : Prop where
  low : b < w.heap.size
  tell : w.cell? ⟨b, 0, none⟩ = some v0 ∧ w.cell? ⟨b, 1, none⟩ = some v1 ∧ w.cell? ⟨b, 2, none⟩ = some v2 ∧ w.cell? ⟨b, 3, none⟩ = some v3 ∧ w.cell? ⟨b, 4, none⟩ = some v4 ∧ w.cell? ⟨b, 5, none⟩ = some v5
theorem V6.keep {w w' : World} {b : Nat} {v0 v1 v2 v3 v4 v5 : Value} (h : V6 w b v0 v1 v2 v3 v4 v5) {B : Nat} (hb : Below B w w') (l : b < B) : V6 w' b v0 v1 v2 v3 v4 v5 := by
  have c : ∀ o, w'.cell? ⟨b, o, none⟩ = w.cell? ⟨b, o, none⟩ := fun o => hb.cell (p := ⟨b, o, none⟩) l
  refine ⟨Nat.lt_of_lt_of_le h.low hb.size, ?_⟩
  simp only [c]
  exact h.tell
theorem V6.new (w : World) (t : TypeId) (v0 v1 v2 v3 v4 v5 : Value) : V6 (w.alloc (.cells #[v0, v1, v2, v3, v4, v5] t)) w.heap.size v0 v1 v2 v3 v4 v5 := ⟨by simp, by go_simp, by go_simp, by go_simp, by go_simp, by go_simp, by go_simp⟩
theorem St.new (w : World) (t : TypeId) : St (w.alloc (.cells #[.int .i64 0] t)) w.heap.size 0 := ⟨by go_simp, by go_simp, by simp⟩

set_option maxHeartbeats 4000000 in
theorem tHas_any (T : Tree) (a : Sp) (v u : Array Value) (w : World) (ha : a.n ≤ 60000) (ka : a.k ≠ 5) (hv : Mem w.heap.size w T v) (hu : MemT w.heap.size w (rt a) u) :
    Calls Tryz.prog 11 #[.agg v, .agg u] w fun e w' => e = .returned (.bool (hasF T a 0).1) ∧ Below w.heap.size w w' := by
  have S1 := hide (fun wx (h : Below w.heap.size w wx) => shapeOf_any a u wx ha ka (hu.grow h))
  have HH := hide (fun wx p (h : Below w.heap.size w wx) (hp : w.heap.size ≤ p) (hS : St wx p 0) => has_all T w.heap.size wx v p 0 a (Mem.below h hv) hp hS (by omega) ha)
  obtain ⟨k1, x1, rfl⟩ := rt_kind a hu
  obtain ⟨k, y, c, x, t, ks⟩ := T
  rw [Mem] at hv
  obtain ⟨_, _, a', cap, rfl, _⟩ := hv
  clear hu
  generalize hasF (.mk k y c x t ks) a 0 = R at *
  obtain ⟨n1, hn1⟩ : ∃ n1, n1 = ks.length := ⟨_, rfl⟩
  rw [← hn1] at HH ⊢
  clear hn1
  go_enter Tryz.func11, Tryz.ntmps11
  go_wp2_with fail
  have X0 := ((V6.new w 35 (.int .i64 k) (.bool y) (.int .i64 c) (.int .i64 x) (.string t) (.slice a' n1 cap)).keep (below_new _ (.cells #[.int .i64 k1, x1] 24)) (by simp)).keep (below_new _ (.cells #[.int .i64 0] 55)) (by simp; omega)
  have X1 := (Bx2.new (w.alloc (.cells #[.int .i64 k, .bool y, .int .i64 c, .int .i64 x, .string t, .slice a' n1 cap] 35)) 24 (.int .i64 k1) x1).keep (below_new _ (.cells #[.int .i64 0] 55)) (by simp)
  have X2 := St.new ((w.alloc (.cells #[.int .i64 k, .bool y, .int .i64 c, .int .i64 x, .string t, .slice a' n1 cap] 35)).alloc (.cells #[.int .i64 k1, x1] 24)) 55
  have W0 : Below w.heap.size w (((w.alloc (.cells #[.int .i64 k, .bool y, .int .i64 c, .int .i64 x, .string t, .slice a' n1 cap] 35)).alloc (.cells #[.int .i64 k1, x1] 24)).alloc (.cells #[.int .i64 0] 55)) := (((Below.refl _ _).alloc (Nat.le_refl _) _).alloc (by simp) _).alloc (by simp; omega) _
  simp only [World.size_alloc] at X1 X2
  generalize ((w.alloc (.cells #[.int .i64 k, .bool y, .int .i64 c, .int .i64 x, .string t, .slice a' n1 cap] 35)).alloc (.cells #[.int .i64 k1, x1] 24)).alloc (.cells #[.int .i64 0] 55) = w0 at X0 X1 X2 W0 ⊢
  obtain ⟨y0, y1, y2, y3, y4, y5⟩ := X0.tell
  have z0 := X1.at0
  have z1 := X1.at1
  have HX0 := hide X0
  have HX2 := hide X2
  have HW0 := hide W0
  clear X0 X1 X2 W0
  go_region_with (first
    | (go_at_call 14
       (refine (unhide S1 _ ?_).mono ?_; · exact below_via (unhide HW0) (by repeat (first | assumption | exact Below.refl _ _ | apply Below.drew)))
       rintro e w1 ⟨rfl, hb⟩
       replace hb : Below w0.heap.size w0 w1 := below_via (by repeat (first | assumption | exact Below.refl _ _ | apply Below.drew)) hb
       obtain ⟨q0, q1, q2, q3, q4, q5⟩ := ((unhide HX0).keep hb (unhide HX0).low).tell)
    | (go_at_call 18
       (refine (unhide HH _ _ ?_ ?_ ?_).mono ?_
        · exact below_via (unhide HW0) (by repeat (first | assumption | exact Below.refl _ _ | apply Below.drew))
        · omega
        · exact (unhide HX2).below (by repeat (first | assumption | exact Below.refl _ _ | apply Below.drew)) (unhide HX2).2.2)
       rintro e w2 ⟨rfl, hS2, hb2⟩
       replace hb2 : Below w.heap.size w w2 := (below_via (unhide HW0) (by repeat (first | assumption | exact Below.refl _ _ | apply Below.drew))).trans (hb2.below (by omega) ((below_via (unhide HW0) (by repeat (first | assumption | exact Below.refl _ _ | apply Below.drew)))).size)))
  all_goals
    have HB2 := hide hb2
    clear hb2 hS2
    go_wp2
    go_ret
    exact ⟨rfl, by repeat (first | exact unhide HB2 | apply Below.drew)⟩
end Go.Proofs.YtjgonkcfnfgakaaGreatDoor
