/- The walk over DecRounds, out of what its callees come to. -/
import Derived.Test.YthgiepppcpjpaaaL1
import Derived.Deep.Cut
namespace Go.Proofs.Ythgiepppcpjpaaa
open Go.RowKit

/-- 'function f of one number tells (a, b), r' -/
def One (f : Nat) (c x : Int) (more : List Value) (a b r : Int) : Prop :=
  ∀ wx, Calls Try.prog f (#[.agg #[.int .i64 c, .int .i64 x]] ++ more.toArray) wx fun e w' => e = .returned (.tuple #[.agg #[.int .i64 a, .int .i64 b], .int .i64 r]) ∧ Below wx.heap.size wx w'

theorem carry2 {w w' : World} {nb : Nat} {v0 v1 : Value} (hb : Below w.heap.size w w') (hl : nb < w.heap.size) (c0 : w.cell? ⟨nb, 0, none⟩ = some v0) (c1 : w.cell? ⟨nb, 1, none⟩ = some v1) :
    w'.cell? ⟨nb, 0, none⟩ = some v0 ∧ w'.cell? ⟨nb, 1, none⟩ = some v1 ∧ nb < w'.heap.size :=
  ⟨(hb.cell (p := ⟨nb, 0, none⟩) hl).trans c0, (hb.cell (p := ⟨nb, 1, none⟩) hl).trans c1, Nat.lt_of_lt_of_le hl hb.size⟩

set_option maxRecDepth 100000 in
set_option maxHeartbeats 1000000 in
theorem rounds_core (c x p : Int) (w : World) (h : Dm.wrongN c x = 0) (r1 r2 r3 : Int)
    (RO : One 14 c x [.int .i64 p] r1 r2 r3) (RA : r3 = 0 → One 14 r1 r2 [.int .i64 p] r1 r2 0 ∧ (r1 ≠ 0 → -p ≤ r2) ∧ -1000 ≤ p ∧ p ≤ 1000) (RB : r3 ≠ 0 → r3 = 4 ∨ p < -40 ∨ 40 < p)
    (F1 F2 G1 G2 s1 s2 v1 v2 v3 : Int) (FL : One 15 c x [] F1 F2 0) (CE : One 16 c x [] G1 G2 0)
    (CM1 : ∀ wx, Calls Try.prog 9 #[.agg #[.int .i64 F1, .int .i64 F2], .agg #[.int .i64 c, .int .i64 x]] wx fun e w' => e = .returned (.tuple #[.int .i64 s1, .int .i64 0]) ∧ Below wx.heap.size wx w')
    (CM2 : ∀ wx, Calls Try.prog 9 #[.agg #[.int .i64 c, .int .i64 x], .agg #[.int .i64 G1, .int .i64 G2]] wx fun e w' => e = .returned (.tuple #[.int .i64 s2, .int .i64 0]) ∧ Below wx.heap.size wx w')
    (SB : ∀ wx, Calls Try.prog 12 #[.agg #[.int .i64 G1, .int .i64 G2], .agg #[.int .i64 F1, .int .i64 F2]] wx fun e w' => e = .returned (.tuple #[.agg #[.int .i64 v1, .int .i64 v2], .int .i64 v3]) ∧ Below wx.heap.size wx w')
    (l1 : s1 ≤ 0) (l2 : s2 ≤ 0) (l3 : 0 ≤ F2) (l4 : 0 ≤ G2) (fin : (F1 = G1 ∧ F2 = G2 ∧ F1 = c ∧ F2 = x) ∨ (¬ (F1 = G1 ∧ F2 = G2) ∧ v1 = 1 ∧ v2 = 0)) :
    Calls Try.prog 6 #[.agg #[.int .i64 c, .int .i64 x], .int .i64 p] w fun e w' => e = .returned (.bool true) ∧ Below w.heap.size w w' := by
  have H := hide h
  have RO' := hide RO
  have RA' := hide RA
  have RB' := hide RB
  have FL' := hide FL
  have CE' := hide CE
  have CM1' := hide CM1
  have CM2' := hide CM2
  have SB' := hide SB
  have FIN := hide fin
  clear h RO RA RB FL CE CM1 CM2 SB fin
  go_enter Try.func6, Try.ntmps6
  go_wp2_with fail
  refine (alive_any _).mono ?_
  rintro e w1 ⟨rfl, hb1⟩
  obtain ⟨t0, t1, t2⟩ := carry2 (nb := w.heap.size) hb1 (by simp) (by simp [go_sem]; rfl) (by simp [go_sem]; rfl)
  have hw1 : Below w.heap.size w w1 := ((Below.refl w.heap.size w).alloc (Nat.le_refl _) _).trans (hb1.mono (by simp))
  go_wp2_with fail
  refine (wrong_is c x _ (unhide H)).mono ?_
  rintro e w2 ⟨rfl, hb2⟩
  have hw2 := hw1.trans (hb2.mono hw1.size)
  obtain ⟨t0, t1, t2⟩ := carry2 hb2 t2 t0 t1
  clear hb1 hb2 hw1
  go_wp2_with fail
  refine (unhide RO' _).mono ?_
  rintro e w3 ⟨rfl, hb3⟩
  have hw3 := hw2.trans (hb3.mono hw2.size)
  obtain ⟨t0, t1, t2⟩ := carry2 hb3 t2 t0 t1
  clear hb3 hw2
  go_upto_if 30 with fail
  go_cut [5, 6, 7, 8] from 18 (fun _ _ _ _ wc => wc.cell? ⟨w.heap.size, 0, none⟩ = some (.int .i64 c) ∧ wc.cell? ⟨w.heap.size, 1, none⟩ = some (.int .i64 x) ∧ w.heap.size < wc.heap.size ∧ Below w.heap.size w wc)
  case first =>
    have hwx := (Below.refl w3.heap.size w3).alloc (Nat.le_refl _) (.cells #[.int .i64 r1, .int .i64 r2] 23)
    obtain ⟨z0, z1, z2⟩ := carry2 hwx t2 t0 t1
    have hw4 := hw3.alloc hw3.size (.cells #[.int .i64 r1, .int .i64 r2] 23)
    by_cases hr : r3 = 0
    · obtain ⟨R2, hge, hp1, hp2⟩ := unhide RA' hr
      have R2' := hide R2
      have hr' : (r3 == 0) = true := by simp [hr]
      clear R2 hr
      go_wp2_with fail
      refine (unhide R2' _).mono ?_
      rintro e w4 ⟨rfl, hb4⟩
      obtain ⟨x0, x1, x2⟩ := carry2 (nb := w3.heap.size) hb4 (by simp) (by simp [go_sem]; rfl) (by simp [go_sem]; rfl)
      obtain ⟨y0, y1, y2⟩ := carry2 hb4 z2 z0 z1
      have hw5 := hw4.trans (hb4.mono (Nat.le_trans hw3.size (by simp)))
      clear hb4 z0 z1 z2 hwx hw4
      by_cases h1 : r1 = 0
      · have h1' : (r1 != 0) = false := by simp [h1]
        have h1'' : (r1 == 0) = true := by simp [h1]
        clear h1 hge
        go_wp2_with fail
        go_meet
        case rel =>
          have hb := (Below.refl w4.heap.size w4).alloc (Nat.le_refl _) (.cells #[.int .i64 r1, .int .i64 r2] 23)
          obtain ⟨q0, q1, q2⟩ := carry2 hb y2 y0 y1
          exact ⟨q0, q1, q2, hw5.alloc hw5.size _⟩
      · have h1' : (r1 != 0) = true := by simp [h1]
        have h1'' : (r1 == 0) = false := by simp [h1]
        have hg := hge h1
        clear h1 hge
        go_wp2_with fail
        go_meet
        case rel =>
          have hb := (Below.refl w4.heap.size w4).alloc (Nat.le_refl _) (.cells #[.int .i64 r1, .int .i64 r2] 23)
          obtain ⟨q0, q1, q2⟩ := carry2 hb y2 y0 y1
          exact ⟨q0, q1, q2, hw5.alloc hw5.size _⟩
    · have hr' : (r3 == 0) = false := by simp [hr]
      have hb := unhide RB' hr
      clear hr
      rcases hb with g | g | g
      · have g' : (r3 != 4) = false := by simp [g]
        clear g
        go_wp2_with fail
        go_meet
        case rel => exact ⟨z0, z1, z2, hw4⟩
      · by_cases g4 : r3 = 4
        · have g' : (r3 != 4) = false := by simp [g4]
          clear g4
          go_wp2_with fail
          go_meet
          case rel => exact ⟨z0, z1, z2, hw4⟩
        · have g' : (r3 != 4) = true := by simp [g4]
          clear g4
          go_wp2_with fail
          go_meet
          case rel => exact ⟨z0, z1, z2, hw4⟩
      · by_cases g4 : r3 = 4
        · have g' : (r3 != 4) = false := by simp [g4]
          clear g4
          go_wp2_with fail
          go_meet
          case rel => exact ⟨z0, z1, z2, hw4⟩
        · have g' : (r3 != 4) = true := by simp [g4]
          clear g4
          go_wp2_with fail
          go_meet
          case rel => exact ⟨z0, z1, z2, hw4⟩
  case rest =>
    clear t0 t1 t2 hw3
    obtain ⟨t0, t1, t2, hwc⟩ := hcut
    go_wp2_with fail
    refine (unhide FL' _).mono ?_
    rintro e w5 ⟨rfl, hb5⟩
    have hw5 := hwc.trans (hb5.mono hwc.size)
    obtain ⟨t0, t1, t2⟩ := carry2 hb5 t2 t0 t1
    clear hb5 hwc
    have hwx := (Below.refl w5.heap.size w5).alloc (Nat.le_refl _) (.cells #[.int .i64 F1, .int .i64 F2] 23)
    have hw6 := hw5.alloc hw5.size (.cells #[.int .i64 F1, .int .i64 F2] 23)
    obtain ⟨t0, t1, t2⟩ := carry2 hwx t2 t0 t1
    clear hwx
    go_wp2_with fail
    refine (unhide CE' _).mono ?_
    rintro e w6 ⟨rfl, hb6⟩
    obtain ⟨f0, f1, f2⟩ := carry2 (nb := w5.heap.size) hb6 (by simp) (by simp [go_sem]; rfl) (by simp [go_sem]; rfl)
    obtain ⟨t0, t1, t2⟩ := carry2 hb6 t2 t0 t1
    have hw7 := hw6.trans (hb6.mono (Nat.le_trans hw5.size (by simp)))
    clear hb6 hw6 hw5
    have hwx := (Below.refl w6.heap.size w6).alloc (Nat.le_refl _) (.cells #[.int .i64 G1, .int .i64 G2] 23)
    have hw8 := hw7.alloc hw7.size (.cells #[.int .i64 G1, .int .i64 G2] 23)
    obtain ⟨t0, t1, t2⟩ := carry2 hwx t2 t0 t1
    obtain ⟨f0, f1, f2⟩ := carry2 hwx f2 f0 f1
    clear hwx
    go_wp2_with fail
    refine (unhide CM1' _).mono ?_
    rintro e w7 ⟨rfl, hb7⟩
    obtain ⟨g0, g1, g2⟩ := carry2 (nb := w6.heap.size) hb7 (by simp) (by simp [go_sem]; rfl) (by simp [go_sem]; rfl)
    obtain ⟨t0, t1, t2⟩ := carry2 hb7 t2 t0 t1
    obtain ⟨f0, f1, f2⟩ := carry2 hb7 f2 f0 f1
    have hw9 := hw8.trans (hb7.mono (Nat.le_trans hw7.size (by simp)))
    clear hb7 hw8 hw7
    go_wp2_with fail
    refine (unhide CM2' _).mono ?_
    rintro e w8 ⟨rfl, hb8⟩
    obtain ⟨t0, t1, t2⟩ := carry2 hb8 t2 t0 t1
    obtain ⟨f0, f1, f2⟩ := carry2 hb8 f2 f0 f1
    obtain ⟨g0, g1, g2⟩ := carry2 hb8 g2 g0 g1
    have hw10 := hw9.trans (hb8.mono hw9.size)
    clear hb8 hw9
    go_wp2_with fail
    refine (unhide SB' _).mono ?_
    rintro e w9 ⟨rfl, hb9⟩
    obtain ⟨t0, t1, t2⟩ := carry2 hb9 t2 t0 t1
    obtain ⟨f0, f1, f2⟩ := carry2 hb9 f2 f0 f1
    obtain ⟨g0, g1, g2⟩ := carry2 hb9 g2 g0 g1
    have hw11 := hw10.trans (hb9.mono hw10.size)
    clear hb9 hw10
    rcases unhide FIN with ⟨rfl, rfl, rfl, rfl⟩ | ⟨hne, rfl, rfl⟩
    · go_wp2
      go_ret
      exact ⟨rfl, hw11.alloc hw11.size _⟩
    · by_cases e1 : F1 = G1
      · have e2 : (F2 == G2) = false := by simp; exact fun q => hne ⟨e1, q⟩
        have e3 : (F2 != G2) = true := by simp; exact fun q => hne ⟨e1, q⟩
        subst e1
        clear hne
        go_wp2
        go_ret
        exact ⟨rfl, hw11.alloc hw11.size _⟩
      · have e2 : (F1 == G1) = false := by simp [e1]
        have e3 : (F1 != G1) = true := by simp [e1]
        clear hne e1
        go_wp2
        go_ret
        exact ⟨rfl, hw11.alloc hw11.size _⟩
end Go.Proofs.Ythgiepppcpjpaaa
