/- The walk over TypesHave, whatever the two types and the value. -/
import Derived.Test.YtjgonkcfnfgakaaGreatDoorHW
namespace Go.Proofs.YtjgonkcfnfgakaaGreatDoor
open Go.RowKit

set_option maxRecDepth 100000 in
set_option maxHeartbeats 20000000 in
theorem have_wrong (t0' t1 : TT) (T : Tree) (u v x : Array Value) (w : World) (hu : MemT w.heap.size w t0' u) (hv : MemT w.heap.size w t1 v) (hx : Mem w.heap.size w T x) (hn : ¬ (wrongTy 1 t0' = 0 ∧ wrongTy 1 t1 = 0)) :
    Calls Tryz.prog 4 #[.agg u, .agg v, .agg x] w fun e w' => e = .returned (.bool true) ∧ Below w.heap.size w w' := by
  obtain ⟨k1, a1, n1, c1, rfl⟩ := hu.form
  obtain ⟨k2, a2, n2, c2, rfl⟩ := hv.form
  obtain ⟨k0, y0, c0, x0, t0, l0, n0, p0, rfl⟩ := mem_form hx
  have W0 := hide (fun wx (h : Below w.heap.size w wx) => tWrong_any t0' _ wx (hu.grow h))
  have W1 := hide (fun wx (h : Below w.heap.size w wx) => tWrong_any t1 _ wx (hv.grow h))
  have X0 := hide (((Bx2.new w 24 (.int .i64 k1) (.slice a1 n1 c1)).keep (below_new _ (.cells #[.int .i64 k2, .slice a2 n2 c2] 24)) (by simp)).keep (below_new _ (.cells #[.int .i64 k0, .bool y0, .int .i64 c0, .int .i64 x0, .string t0, .slice l0 n0 p0] 35)) (by simp; omega))
  have X1 := hide ((Bx2.new (w.alloc (.cells #[.int .i64 k1, .slice a1 n1 c1] 24)) 24 (.int .i64 k2) (.slice a2 n2 c2)).keep (below_new _ (.cells #[.int .i64 k0, .bool y0, .int .i64 c0, .int .i64 x0, .string t0, .slice l0 n0 p0] 35)) (by simp))
  have B0 := hide ((((Below.refl w.heap.size w).alloc (Nat.le_refl _) (.cells #[.int .i64 k1, .slice a1 n1 c1] 24)).alloc (by simp) (.cells #[.int .i64 k2, .slice a2 n2 c2] 24)).alloc (by simp; omega) (.cells #[.int .i64 k0, .bool y0, .int .i64 c0, .int .i64 x0, .string t0, .slice l0 n0 p0] 35))
  simp only [World.size_alloc] at X1
  clear hu hv hx
  generalize wrongTy 1 t0' = r0 at *
  generalize wrongTy 1 t1 = r1 at *
  go_enter Tryz.func4, Tryz.ntmps4
  go_wp2_with fail
  refine (alive_any _).mono ?_
  rintro e w0 ⟨rfl, hb⟩
  replace X0 := (unhide X0).keep hb (unhide X0).low
  replace X1 := (unhide X1).keep hb (unhide X1).low
  have B1 := hide (below_via (unhide B0) hb)
  clear hb B0
  have q0 := X0.at0
  have q1 := X0.at1
  replace X1 := hide X1
  clear X0
  go_wp2_with fail
  refine (unhide W0 _ (unhide B1)).mono ?_
  rintro e w1 ⟨rfl, hb⟩
  replace X1 := (unhide X1).keep hb (unhide X1).low
  have B2 := hide (below_via (unhide B1) hb)
  clear hb B1 W0 q0 q1
  by_cases h0 : r0 = 0
  · subst h0
    have q0 := X1.at0
    have q1 := X1.at1
    clear X1
    go_wp2_with fail
    refine (unhide W1 _ (unhide B2)).mono ?_
    rintro e w2 ⟨rfl, hb⟩
    have B3 := hide (below_via (unhide B2) hb)
    clear hb B2 W1 q0 q1
    have h2 : (r1 != 0) = true := by
      have : ¬ r1 = 0 := fun e => hn (by simp [e])
      simpa using this
    clear hn
    go_wp2
    go_ret
    exact ⟨rfl, unhide B3⟩
  · have h2 : (r0 != 0) = true := by simpa using h0
    clear hn X1 W1
    go_wp2
    go_ret
    exact ⟨rfl, unhide B2⟩

theorem have_walk (t0 t1 : TT) (T : Tree) (u v x : Array Value) (w : World) (hu : MemT w.heap.size w t0 u) (hv : MemT w.heap.size w t1 v) (hx : Mem w.heap.size w T x) :
    Calls Tryz.prog 4 #[.agg u, .agg v, .agg x] w fun e w' => e = .returned (.bool true) ∧ Below w.heap.size w w' := by
  by_cases h : wrongTy 1 t0 = 0 ∧ wrongTy 1 t1 = 0
  · obtain ⟨a, oa, rfl⟩ := right_sp h.1
    obtain ⟨b, ob, rfl⟩ := right_sp h.2
    exact have_right a b T u v x w oa ob hu hv hx
  · exact have_wrong t0 t1 T u v x w hu hv hx h
end Go.Proofs.YtjgonkcfnfgakaaGreatDoor
