/- The walk over TypesLattice where something is wrong with one of the three types. -/
import Derived.Test.YtjgonkcfnfgakaaGreatDoorLA
namespace Go.Proofs.YtjgonkcfnfgakaaGreatDoor
open Go.RowKit

set_option maxRecDepth 100000 in
set_option maxHeartbeats 20000000 in
theorem lattice_wrong (t0 t1 t2 : TT) (u v x : Array Value) (w : World) (hu : MemT w.heap.size w t0 u) (hv : MemT w.heap.size w t1 v) (hx : MemT w.heap.size w t2 x) (hn : ¬ (wrongTy 1 t0 = 0 ∧ wrongTy 1 t1 = 0 ∧ wrongTy 1 t2 = 0)) :
    Calls Tryz.prog 3 #[.agg u, .agg v, .agg x] w fun e w' => e = .returned (.bool true) ∧ Below w.heap.size w w' := by
  obtain ⟨k1, a1, n1, c1, rfl⟩ := hu.form
  obtain ⟨k2, a2, n2, c2, rfl⟩ := hv.form
  obtain ⟨k3, a3, n3, c3, rfl⟩ := hx.form
  have W0 := hide (fun wx (h : Below w.heap.size w wx) => tWrong_any t0 _ wx (hu.grow h))
  have W1 := hide (fun wx (h : Below w.heap.size w wx) => tWrong_any t1 _ wx (hv.grow h))
  have W2 := hide (fun wx (h : Below w.heap.size w wx) => tWrong_any t2 _ wx (hx.grow h))
  have X0 := hide (((Bx2.new w 24 (.int .i64 k1) (.slice a1 n1 c1)).keep ((Below.refl _ _).alloc (Nat.le_refl _) (.cells #[.int .i64 k2, .slice a2 n2 c2] 24)) (by simp)).keep ((Below.refl _ _).alloc (Nat.le_refl _) (.cells #[.int .i64 k3, .slice a3 n3 c3] 24)) (by simp; omega))
  have X1 := hide ((Bx2.new (w.alloc (.cells #[.int .i64 k1, .slice a1 n1 c1] 24)) 24 (.int .i64 k2) (.slice a2 n2 c2)).keep ((Below.refl _ _).alloc (Nat.le_refl _) (.cells #[.int .i64 k3, .slice a3 n3 c3] 24)) (by simp))
  have X2 := hide (Bx2.new ((w.alloc (.cells #[.int .i64 k1, .slice a1 n1 c1] 24)).alloc (.cells #[.int .i64 k2, .slice a2 n2 c2] 24)) 24 (.int .i64 k3) (.slice a3 n3 c3))
  have B0 := hide ((((Below.refl w.heap.size w).alloc (Nat.le_refl _) (.cells #[.int .i64 k1, .slice a1 n1 c1] 24)).alloc (by simp) (.cells #[.int .i64 k2, .slice a2 n2 c2] 24)).alloc (by simp; omega) (.cells #[.int .i64 k3, .slice a3 n3 c3] 24))
  simp only [World.size_alloc] at X1 X2
  clear hu hv hx
  generalize wrongTy 1 t0 = r0 at *
  generalize wrongTy 1 t1 = r1 at *
  generalize wrongTy 1 t2 = r2 at *
  go_enter Tryz.func3, Tryz.ntmps3
  go_wp2_with fail
  refine (alive_any _).mono ?_
  rintro e w0 ⟨rfl, hb⟩
  replace X0 := (unhide X0).keep hb (unhide X0).low
  replace X1 := (unhide X1).keep hb (unhide X1).low
  replace X2 := (unhide X2).keep hb (unhide X2).low
  have B1 := hide (below_via (unhide B0) hb)
  clear hb B0
  have y0 := X0.at0
  have y1 := X0.at1
  replace X1 := hide X1
  replace X2 := hide X2
  clear X0
  go_wp2_with fail
  refine (unhide W0 _ (unhide B1)).mono ?_
  rintro e w1 ⟨rfl, hb⟩
  replace X1 := (unhide X1).keep hb (unhide X1).low
  replace X2 := (unhide X2).keep hb (unhide X2).low
  have B2 := hide (below_via (unhide B1) hb)
  clear hb B1 W0 y0 y1
  by_cases h0 : r0 = 0
  · subst h0
    have y0 := X1.at0
    have y1 := X1.at1
    replace X2 := hide X2
    clear X1
    go_wp2_with fail
    refine (unhide W1 _ (unhide B2)).mono ?_
    rintro e w2 ⟨rfl, hb⟩
    replace X2 := (unhide X2).keep hb (unhide X2).low
    have B3 := hide (below_via (unhide B2) hb)
    clear hb B2 W1 y0 y1
    by_cases h1 : r1 = 0
    · subst h1
      have y0 := X2.at0
      have y1 := X2.at1
      clear X2
      go_wp2_with fail
      refine (unhide W2 _ (unhide B3)).mono ?_
      rintro e w3 ⟨rfl, hb⟩
      have B4 := hide (below_via (unhide B3) hb)
      clear hb B3 W2 y0 y1
      have h2 : (r2 != 0) = true := by
        have : ¬ r2 = 0 := fun e => hn (by simp [e])
        simpa using this
      clear hn
      go_wp2
      go_ret
      exact ⟨rfl, unhide B4⟩
    · have h2 : (r1 != 0) = true := by simpa using h1
      clear hn X2 W2
      go_wp2
      go_ret
      exact ⟨rfl, unhide B3⟩
  · have h2 : (r0 != 0) = true := by simpa using h0
    clear hn X1 X2 W1 W2
    go_wp2
    go_ret
    exact ⟨rfl, unhide B2⟩
end Go.Proofs.YtjgonkcfnfgakaaGreatDoor
