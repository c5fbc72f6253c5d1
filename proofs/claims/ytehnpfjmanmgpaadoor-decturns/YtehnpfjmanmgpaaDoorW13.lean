/- Walks: sum. -/
import Derived.Test.YtehnpfjmanmgpaaDoorW11
import Derived.Test.YtehnpfjmanmgpaaDoorW12
namespace Go.Proofs.YtehnpfjmanmgpaaDoor
open Go.RowKit

/-- behind sum's third statement: the two columns -/
def SumRel (c1 c2 : Int) (W z1 z2 : Nat) (w : World) (a b : Value) (wc : World) : Prop :=
  ∃ g1 k1 g2 k2, a = .slice (some ⟨g1, 0, none⟩) W k1 ∧ b = .slice (some ⟨g2, 0, none⟩) W k2 ∧ Hid (W ≤ k1 ∧ W ≤ k2 ∧ DS wc g1 0 W (Dm.cl c1.natAbs W z1) ∧ DS wc g2 0 W (Dm.cl c2.natAbs W z2)) ∧
    wc.cell? ⟨w.heap.size, 0, none⟩ = some (.int .i64 c1) ∧ wc.cell? ⟨w.heap.size + 1, 0, none⟩ = some (.int .i64 c2) ∧
    wc.cell? ⟨w.heap.size + 1 + 1, 0, none⟩ = some (.bool false) ∧ wc.cell? ⟨w.heap.size + 1 + 1, 1, none⟩ = some (.slice none 0 0) ∧ wc.cell? ⟨w.heap.size + 1 + 1, 2, none⟩ = some (.int .i64 0) ∧ wc.cell? ⟨w.heap.size + 1 + 1, 3, none⟩ = some (.bool false) ∧
    wc.frozen? ⟨w.heap.size + 1 + 1, 0, none⟩ = false ∧ wc.frozen? ⟨w.heap.size + 1 + 1, 1, none⟩ = false ∧ wc.frozen? ⟨w.heap.size + 1 + 1, 2, none⟩ = false ∧ wc.frozen? ⟨w.heap.size + 1 + 1, 3, none⟩ = false ∧ w.heap.size + 3 ≤ wc.heap.size ∧ Below w.heap.size w wc

theorem sum_rel {c1 x1 c2 x2 : Int} {W z1 z2 g1 k1 g2 k2 : Nat} {w w1 w2 : World}
    (hb1 : Below (((w.alloc (.cells #[.int .i64 c1, .int .i64 x1] 23)).alloc (.cells #[.int .i64 c2, .int .i64 x2] 23)).alloc (.cells #[.bool false, .slice none 0 0, .int .i64 0, .bool false] 52)).drew.heap.size
      (((w.alloc (.cells #[.int .i64 c1, .int .i64 x1] 23)).alloc (.cells #[.int .i64 c2, .int .i64 x2] 23)).alloc (.cells #[.bool false, .slice none 0 0, .int .i64 0, .bool false] 52)).drew w1)
    (hb2 : Below w1.heap.size w1 w2) (hk1 : W ≤ k1) (hk2 : W ≤ k2) (hD1 : DS w1 g1 0 W (Dm.cl c1.natAbs W z1)) (hD2 : DS w2 g2 0 W (Dm.cl c2.natAbs W z2)) :
    SumRel c1 c2 W z1 z2 w (.slice (some ⟨g1, 0, none⟩) W k1) (.slice (some ⟨g2, 0, none⟩) W k2) w2 := by
  have s1 := hb1.size
  simp at s1
  have hb := hb1.trans (hb2.mono hb1.size)
  obtain ⟨hc, hf⟩ := bcell hb
  have hw : Below w.heap.size w (((w.alloc (.cells #[.int .i64 c1, .int .i64 x1] 23)).alloc (.cells #[.int .i64 c2, .int .i64 x2] 23)).alloc (.cells #[.bool false, .slice none 0 0, .int .i64 0, .bool false] 52)).drew :=
    ((((Below.refl w.heap.size w).alloc (Nat.le_refl _) _).alloc (by simp) _).alloc (by simp; omega) _).drew
  have s2 := hb2.size
  refine ⟨g1, k1, g2, k2, rfl, rfl, hide ⟨hk1, hk2, hD1.below hb2, hD2⟩, ?_, ?_, ?_, ?_, ?_, ?_, ?_, ?_, ?_, ?_, by omega, hw.trans (hb.mono (by simp; omega))⟩
  all_goals first | (rw [hc _ _ (by simp <;> omega)]; simp [go_sem]; done) | (rw [hf _ _ (by simp <;> omega)]; simp [go_sem]; done)

theorem DS.setCell {w : World} {b off n : Nat} {D : Nat → Nat} (h : DS w b off n D) {a : Addr} (ha : a.block ≠ b) (v : Value) : DS (w.setCell a v) b off n D :=
  ⟨by simpa [World.setCell] using h.blk, fun j hj => (World.cell?_of_block (w := w) (a := ⟨b, off + j, none⟩) (Below.heap_setCell w a v b (fun e => ha e.symm))).trans (h.cell j hj), h.dig, h.len⟩

theorem sum_cells {wc w3 : World} {h nq : Nat} {v0 v1 v2 v3 : Value} (hb : Below (wc.drewN nq).heap.size (wc.drewN nq) w3) (hsz : h + 3 ≤ wc.heap.size)
    (r0 : wc.cell? ⟨h + 1 + 1, 0, none⟩ = some v0) (r1 : wc.cell? ⟨h + 1 + 1, 1, none⟩ = some v1) (r2 : wc.cell? ⟨h + 1 + 1, 2, none⟩ = some v2) (r3 : wc.cell? ⟨h + 1 + 1, 3, none⟩ = some v3)
    (f0 : wc.frozen? ⟨h + 1 + 1, 0, none⟩ = false) (f1 : wc.frozen? ⟨h + 1 + 1, 1, none⟩ = false) (f2 : wc.frozen? ⟨h + 1 + 1, 2, none⟩ = false) (f3 : wc.frozen? ⟨h + 1 + 1, 3, none⟩ = false) :
    w3.cell? ⟨h + 1 + 1, 0, none⟩ = some v0 ∧ w3.cell? ⟨h + 1 + 1, 1, none⟩ = some v1 ∧ w3.cell? ⟨h + 1 + 1, 2, none⟩ = some v2 ∧ w3.cell? ⟨h + 1 + 1, 3, none⟩ = some v3 ∧
    w3.frozen? ⟨h + 1 + 1, 0, none⟩ = false ∧ w3.frozen? ⟨h + 1 + 1, 1, none⟩ = false ∧ w3.frozen? ⟨h + 1 + 1, 2, none⟩ = false ∧ w3.frozen? ⟨h + 1 + 1, 3, none⟩ = false ∧ h + 3 ≤ w3.heap.size := by
  have e : (wc.drewN nq).heap.size = wc.heap.size := rfl
  have l : h + 1 + 1 < (wc.drewN nq).heap.size := by omega
  exact ⟨(hb.cell (p := ⟨h + 1 + 1, 0, none⟩) l).trans r0, (hb.cell (p := ⟨h + 1 + 1, 1, none⟩) l).trans r1, (hb.cell (p := ⟨h + 1 + 1, 2, none⟩) l).trans r2, (hb.cell (p := ⟨h + 1 + 1, 3, none⟩) l).trans r3,
    (hb.frozen (p := ⟨h + 1 + 1, 0, none⟩) l).trans f0, (hb.frozen (p := ⟨h + 1 + 1, 1, none⟩) l).trans f1, (hb.frozen (p := ⟨h + 1 + 1, 2, none⟩) l).trans f2, (hb.frozen (p := ⟨h + 1 + 1, 3, none⟩) l).trans f3, by have := hb.size; omega⟩

theorem sum_facts {x1 x2 low high : Int} (hlow : (if x2 < x1 then x2 else x1) = low) (hhigh : (if x1 < x2 then x2 else x1) = high) (a3 : -40 ≤ x1) (a4 : x1 ≤ 40) (b3 : -40 ≤ x2) (b4 : x2 ≤ 40) :
    ∃ W z1 z2 : Nat, high - low + 18 + 1 = (W : Int) ∧ x1 - low = (z1 : Int) ∧ x2 - low = (z2 : Int) ∧ z1 + 18 < W ∧ z2 + 18 < W ∧ W ≤ 99 ∧ -40 ≤ low ∧ low ≤ 40 ∧ low = min x1 x2 := by
  refine ⟨(high - low + 18 + 1).toNat, (x1 - low).toNat, (x2 - low).toNat, ?_⟩
  split at hlow <;> split at hhigh <;> omega

set_option maxHeartbeats 1000000 in
theorem sum_any (c1 x1 c2 x2 : Int) (w : World) (a1 : -1000000000000000000 < c1) (a2 : c1 < 1000000000000000000) (a3 : -40 ≤ x1) (a4 : x1 ≤ 40)
    (b1 : -1000000000000000000 < c2) (b2 : c2 < 1000000000000000000) (b3 : -40 ≤ x2) (b4 : x2 ≤ 40) :
    Calls Tryd.prog 29 #[.agg #[.int .i64 c1, .int .i64 x1], .agg #[.int .i64 c2, .int .i64 x2]] w fun e w' => ∃ (B : Bool) (g W cap : Nat) (D : Nat → Nat), e = .returned (.agg #[.bool B, .slice (some ⟨g, 0, none⟩) W cap, .int .i64 (min x1 x2), .bool false]) ∧ W ≤ cap ∧ W ≤ 99 ∧ DS w' g 0 W D ∧ Dm.sg B (Dm.val D W) = Dm.addS c1 x1 c2 x2 ∧ Below w.heap.size w w' := by
  go_enter Tryd.func29, Tryd.ntmps29
  go_upto_region 3 with fail
  generalize hlow : (if x2 < x1 then x2 else x1) = low
  generalize hhigh : (if x1 < x2 then x2 else x1) = high
  obtain ⟨W, z1, z2, hW, e1, e2, h1, h2, hW9, l1, l2, l3⟩ := sum_facts hlow hhigh a3 a4 b3 b4
  rw [hW]
  have L3 := hide l3
  have E1 := hide e1
  have E2 := hide e2
  clear hlow hhigh hW l3 e1 e2
  go_cut [7, 8] from 11 (fun a b wc => SumRel c1 c2 W z1 z2 w a b wc)
  case first =>
    go_region_with (first
      | (go_at_call_of 49 (Value.int IntKind.i64 c1); refine (column_any c1 x1 low W z1 _ a1 a2 (by omega) (unhide E1) (by omega) (by omega) (by omega)).mono ?_; rintro e w1 ⟨g1, k1, rfl, hk1, hD1, hb1⟩; obtain ⟨hc1, hf1⟩ := bcell hb1)
      | (go_at_call_of 49 (Value.int IntKind.i64 c2); refine (column_any c2 x2 low W z2 _ b1 b2 (by omega) (unhide E2) (by omega) (by omega) (by omega)).mono ?_; rintro e w2 ⟨g2, k2, rfl, hk2, hD2, hb2⟩))
    all_goals
      go_wp2_with fail
      go_meet
      case rel => exact sum_rel hb1 hb2 hk1 hk2 hD1 hD2
  case rest =>
    obtain ⟨g1, k1, g2, k2, rfl, rfl, HH, p0, q0, r0, r1, r2, r3, f0, f1, f2, f3, hsz, hbel⟩ := hcut
    have X := unhide HH
    have HX := hide X.2.2.1
    have HY := hide X.2.2.2
    clear X HH
    have V1 := hide (Dm.val_cl (N := c1.natAbs) (W := W) (z := z1) (by omega) (Dm.col_lt (by omega) h1).2)
    have V2 := hide (Dm.val_cl (N := c2.natAbs) (W := W) (z := z2) (by omega) (Dm.col_lt (by omega) h2).2)
    by_cases s1 : c1 < 0
    · by_cases s2 : c2 < 0
      · go_wp2
        go_quiet (fail)
        go_wp2_with fail
        refine (plus_any _ _ _ _ _ _ W _ _ _ ((unhide HX).below (below_drewN (Below.refl _ _) nq)) ((unhide HY).below (below_drewN (Below.refl _ _) nq))).mono ?_
        rintro e w3 ⟨R, rfl, hR, hv, hb3⟩
        have hv' := hide (hv (by rw [unhide V1, unhide V2]; have := (Dm.col_lt (N := c1.natAbs) (by omega) h1).1; have := (Dm.col_lt (N := c2.natAbs) (by omega) h2).1; rw [Dm.p10_W (W := W) (by omega)]; omega))
        obtain ⟨r0', r1', r2', r3', f0', f1', f2', f3', hsz'⟩ := sum_cells hb3 hsz r0 r1 r2 r3 f0 f1 f2 f3
        have hR' := hide hR
        clear hR hv p0 q0
        go_wp2
        refine bodyPost_ret (v := .agg #[.bool true, .slice (some ⟨wc.heap.size, 0, none⟩) W W, .int .i64 low, .bool false]) (by simp [results, Tryd.results29, go_sem, r0', r1', r2', r3']) rfl ?_
        rw [unhide L3]
        exact ⟨true, wc.heap.size, W, W, R, rfl, Nat.le_refl _, hW9, ((((unhide hR').setCell (by simp; omega) _).setCell (by simp; omega) _).setCell (by simp; omega) _).setCell (by simp; omega) _, (Dm.sum_plus (Dm.addS_eq (unhide L3) (unhide E1) (unhide E2)) (by rw [unhide hv', unhide V1, unhide V2])).1 (by omega) (by omega), (((((below_drewN hbel nq).trans (hb3.mono (by simp; omega))).setCell (by simp; omega) _).setCell (by simp; omega) _).setCell (by simp; omega) _).setCell (by simp; omega) _⟩
      · have d2 : decide (c2 < 0) = false := by simp; omega
        go_wp2
        go_quiet (fail)
        by_cases hl : Dm.val (Dm.cl c1.natAbs W z1) W < Dm.val (Dm.cl c2.natAbs W z2) W
        · go_wp2_with fail
          refine (less_any _ _ _ _ _ _ W _ _ _ ((unhide HX).below (below_drewN (Below.refl _ _) nq)) ((unhide HY).below (below_drewN (Below.refl _ _) nq))).mono ?_
          rintro e w2 ⟨rfl, rfl⟩
          go_wp2_with fail
          refine (minus_any _ _ _ _ _ _ W _ _ _ ((unhide HY).below (below_drewN (Below.refl _ _) nq)) ((unhide HX).below (below_drewN (Below.refl _ _) nq))).mono ?_
          rintro e w3 ⟨R, rfl, hR, hv, hb3⟩
          have hv' := hide (hv (by omega))
          obtain ⟨r0', r1', r2', r3', f0', f1', f2', f3', hsz'⟩ := sum_cells hb3 hsz r0 r1 r2 r3 f0 f1 f2 f3
          have hR' := hide hR
          clear hR hv p0 q0
          go_wp2
          refine bodyPost_ret (v := .agg #[.bool false, .slice (some ⟨wc.heap.size, 0, none⟩) W W, .int .i64 low, .bool false]) (by simp [results, Tryd.results29, go_sem, r0', r1', r2', r3']) rfl ?_
          rw [unhide L3]
          exact ⟨false, wc.heap.size, W, W, R, rfl, Nat.le_refl _, hW9, ((((unhide hR').setCell (by simp; omega) _).setCell (by simp; omega) _).setCell (by simp; omega) _).setCell (by simp; omega) _, (Dm.sum_minus ((Dm.addS_eq (unhide L3) (unhide E1) (unhide E2)).trans (Int.add_comm _ _)) (by have := hl; rw [unhide V1, unhide V2] at this; omega) (by rw [unhide hv', unhide V1, unhide V2])).2 (by omega) (by omega), (((((below_drewN hbel nq).trans (hb3.mono (by simp; omega))).setCell (by simp; omega) _).setCell (by simp; omega) _).setCell (by simp; omega) _).setCell (by simp; omega) _⟩
        · go_wp2_with fail
          refine (less_any _ _ _ _ _ _ W _ _ _ ((unhide HX).below (below_drewN (Below.refl _ _) nq)) ((unhide HY).below (below_drewN (Below.refl _ _) nq))).mono ?_
          rintro e w2 ⟨rfl, rfl⟩
          go_wp2_with fail
          refine (minus_any _ _ _ _ _ _ W _ _ _ ((unhide HX).below (below_drewN (Below.refl _ _) nq)) ((unhide HY).below (below_drewN (Below.refl _ _) nq))).mono ?_
          rintro e w3 ⟨R, rfl, hR, hv, hb3⟩
          have hv' := hide (hv (by omega))
          obtain ⟨r0', r1', r2', r3', f0', f1', f2', f3', hsz'⟩ := sum_cells hb3 hsz r0 r1 r2 r3 f0 f1 f2 f3
          have hR' := hide hR
          clear hR hv p0 q0
          go_wp2
          refine bodyPost_ret (v := .agg #[.bool true, .slice (some ⟨wc.heap.size, 0, none⟩) W W, .int .i64 low, .bool false]) (by simp [results, Tryd.results29, go_sem, r0', r1', r2', r3']) rfl ?_
          rw [unhide L3]
          exact ⟨true, wc.heap.size, W, W, R, rfl, Nat.le_refl _, hW9, ((((unhide hR').setCell (by simp; omega) _).setCell (by simp; omega) _).setCell (by simp; omega) _).setCell (by simp; omega) _, (Dm.sum_minus (Dm.addS_eq (unhide L3) (unhide E1) (unhide E2)) (by have := hl; rw [unhide V1, unhide V2] at this; omega) (by rw [unhide hv', unhide V1, unhide V2])).1 (by omega) (by omega), (((((below_drewN hbel nq).trans (hb3.mono (by simp; omega))).setCell (by simp; omega) _).setCell (by simp; omega) _).setCell (by simp; omega) _).setCell (by simp; omega) _⟩
    · by_cases s2 : c2 < 0
      · have d1 : decide (c1 < 0) = false := by simp; omega
        go_wp2
        go_quiet (fail)
        by_cases hl : Dm.val (Dm.cl c1.natAbs W z1) W < Dm.val (Dm.cl c2.natAbs W z2) W
        · go_wp2_with fail
          refine (less_any _ _ _ _ _ _ W _ _ _ ((unhide HX).below (below_drewN (Below.refl _ _) nq)) ((unhide HY).below (below_drewN (Below.refl _ _) nq))).mono ?_
          rintro e w2 ⟨rfl, rfl⟩
          go_wp2_with fail
          refine (minus_any _ _ _ _ _ _ W _ _ _ ((unhide HY).below (below_drewN (Below.refl _ _) nq)) ((unhide HX).below (below_drewN (Below.refl _ _) nq))).mono ?_
          rintro e w3 ⟨R, rfl, hR, hv, hb3⟩
          have hv' := hide (hv (by omega))
          obtain ⟨r0', r1', r2', r3', f0', f1', f2', f3', hsz'⟩ := sum_cells hb3 hsz r0 r1 r2 r3 f0 f1 f2 f3
          have hR' := hide hR
          clear hR hv p0 q0
          go_wp2
          refine bodyPost_ret (v := .agg #[.bool true, .slice (some ⟨wc.heap.size, 0, none⟩) W W, .int .i64 low, .bool false]) (by simp [results, Tryd.results29, go_sem, r0', r1', r2', r3']) rfl ?_
          rw [unhide L3]
          exact ⟨true, wc.heap.size, W, W, R, rfl, Nat.le_refl _, hW9, ((((unhide hR').setCell (by simp; omega) _).setCell (by simp; omega) _).setCell (by simp; omega) _).setCell (by simp; omega) _, (Dm.sum_minus ((Dm.addS_eq (unhide L3) (unhide E1) (unhide E2)).trans (Int.add_comm _ _)) (by have := hl; rw [unhide V1, unhide V2] at this; omega) (by rw [unhide hv', unhide V1, unhide V2])).1 (by omega) (by omega), (((((below_drewN hbel nq).trans (hb3.mono (by simp; omega))).setCell (by simp; omega) _).setCell (by simp; omega) _).setCell (by simp; omega) _).setCell (by simp; omega) _⟩
        · go_wp2_with fail
          refine (less_any _ _ _ _ _ _ W _ _ _ ((unhide HX).below (below_drewN (Below.refl _ _) nq)) ((unhide HY).below (below_drewN (Below.refl _ _) nq))).mono ?_
          rintro e w2 ⟨rfl, rfl⟩
          go_wp2_with fail
          refine (minus_any _ _ _ _ _ _ W _ _ _ ((unhide HX).below (below_drewN (Below.refl _ _) nq)) ((unhide HY).below (below_drewN (Below.refl _ _) nq))).mono ?_
          rintro e w3 ⟨R, rfl, hR, hv, hb3⟩
          have hv' := hide (hv (by omega))
          obtain ⟨r0', r1', r2', r3', f0', f1', f2', f3', hsz'⟩ := sum_cells hb3 hsz r0 r1 r2 r3 f0 f1 f2 f3
          have hR' := hide hR
          clear hR hv p0 q0
          go_wp2
          refine bodyPost_ret (v := .agg #[.bool false, .slice (some ⟨wc.heap.size, 0, none⟩) W W, .int .i64 low, .bool false]) (by simp [results, Tryd.results29, go_sem, r0', r1', r2', r3']) rfl ?_
          rw [unhide L3]
          exact ⟨false, wc.heap.size, W, W, R, rfl, Nat.le_refl _, hW9, ((((unhide hR').setCell (by simp; omega) _).setCell (by simp; omega) _).setCell (by simp; omega) _).setCell (by simp; omega) _, (Dm.sum_minus (Dm.addS_eq (unhide L3) (unhide E1) (unhide E2)) (by have := hl; rw [unhide V1, unhide V2] at this; omega) (by rw [unhide hv', unhide V1, unhide V2])).2 (by omega) (by omega), (((((below_drewN hbel nq).trans (hb3.mono (by simp; omega))).setCell (by simp; omega) _).setCell (by simp; omega) _).setCell (by simp; omega) _).setCell (by simp; omega) _⟩
      · have d1 : decide (c1 < 0) = false := by simp; omega
        have d2 : decide (c2 < 0) = false := by simp; omega
        go_wp2
        go_quiet (fail)
        go_wp2_with fail
        refine (plus_any _ _ _ _ _ _ W _ _ _ ((unhide HX).below (below_drewN (Below.refl _ _) nq)) ((unhide HY).below (below_drewN (Below.refl _ _) nq))).mono ?_
        rintro e w3 ⟨R, rfl, hR, hv, hb3⟩
        have hv' := hide (hv (by rw [unhide V1, unhide V2]; have := (Dm.col_lt (N := c1.natAbs) (by omega) h1).1; have := (Dm.col_lt (N := c2.natAbs) (by omega) h2).1; rw [Dm.p10_W (W := W) (by omega)]; omega))
        obtain ⟨r0', r1', r2', r3', f0', f1', f2', f3', hsz'⟩ := sum_cells hb3 hsz r0 r1 r2 r3 f0 f1 f2 f3
        have hR' := hide hR
        clear hR hv p0 q0
        go_wp2
        refine bodyPost_ret (v := .agg #[.bool false, .slice (some ⟨wc.heap.size, 0, none⟩) W W, .int .i64 low, .bool false]) (by simp [results, Tryd.results29, go_sem, r0', r1', r2', r3']) rfl ?_
        rw [unhide L3]
        exact ⟨false, wc.heap.size, W, W, R, rfl, Nat.le_refl _, hW9, ((((unhide hR').setCell (by simp; omega) _).setCell (by simp; omega) _).setCell (by simp; omega) _).setCell (by simp; omega) _, (Dm.sum_plus (Dm.addS_eq (unhide L3) (unhide E1) (unhide E2)) (by rw [unhide hv', unhide V1, unhide V2])).2 (by omega) (by omega), (((((below_drewN hbel nq).trans (hb3.mono (by simp; omega))).setCell (by simp; omega) _).setCell (by simp; omega) _).setCell (by simp; omega) _).setCell (by simp; omega) _⟩
end Go.Proofs.YtehnpfjmanmgpaaDoor
