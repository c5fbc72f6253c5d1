/- The walk over DecShapes (written by gen_bs4.py). -/
import Derived.Test.YtibkemolmpcdcaaG17
namespace Go.Proofs.Ytibkemolmpcdcaa
open Go.RowKit

theorem callWrong (zs : Array Value) (w : World) : Sem.run Try.prog (callFunc 13 zs) w = .ok (.enter 13 zs) w := by simp [go_sem]

theorem callRWrong (zs : Array Value) (w : World) : Sem.run Try.prog (callFunc 14 zs) w = .ok (.enter 14 zs) w := by simp [go_sem]

section
variable {a : Act} {w : World} {d : Option Nat} {t : TypeId} {p : String} {af : Array Edge} {g : Option (Nat × Bool)}
theorem run_neE {x y : Operand} {u v : Int} (hx : a.eval x = .int .i64 u) (hy : a.eval y = .int .i64 v) : (execOp a.eval ⟨d, .binOp .neq 24 x y 24, t, p, af, g⟩).run Try.prog w = .ok (.value (.bool (u != v))) w := by
  generalize a.eval = E at hx hy ⊢
  simp [go_sem, hx, hy]
end

theorem fr103 {a : Act} (hs : a.tmps.size = 103) (hd : a.defers = []) : a = { tmps := #[G a 0, G a 1, G a 2, G a 3, G a 4, G a 5, G a 6, G a 7, G a 8, G a 9, G a 10, G a 11, G a 12, G a 13, G a 14, G a 15, G a 16, G a 17, G a 18, G a 19, G a 20, G a 21, G a 22, G a 23, G a 24, G a 25, G a 26, G a 27, G a 28, G a 29, G a 30, G a 31, G a 32, G a 33, G a 34, G a 35, G a 36, G a 37, G a 38, G a 39, G a 40, G a 41, G a 42, G a 43, G a 44, G a 45, G a 46, G a 47, G a 48, G a 49, G a 50, G a 51, G a 52, G a 53, G a 54, G a 55, G a 56, G a 57, G a 58, G a 59, G a 60, G a 61, G a 62, G a 63, G a 64, G a 65, G a 66, G a 67, G a 68, G a 69, G a 70, G a 71, G a 72, G a 73, G a 74, G a 75, G a 76, G a 77, G a 78, G a 79, G a 80, G a 81, G a 82, G a 83, G a 84, G a 85, G a 86, G a 87, G a 88, G a 89, G a 90, G a 91, G a 92, G a 93, G a 94, G a 95, G a 96, G a 97, G a 98, G a 99, G a 100, G a 101, G a 102], defers := [] } := frame_is hs hd

set_option maxRecDepth 100000 in
set_option maxHeartbeats 4000000 in
theorem shapes_ok (c x p : Int) (w : World) (h : Dm.wrongN c x = 0) :
    Calls Try.prog 4 #[.agg #[.int .i64 c, .int .i64 x], .int .i64 p] w fun e w' => e = .returned (.bool true) ∧ Below w.heap.size w w' := by
  obtain ⟨a1', a2', _, _, _⟩ := Dm.wrong_ok h
  have NG : Hid (∀ wx : World, Calls Try.prog 15 #[.agg #[.int .i64 c, .int .i64 x]] wx fun e w' => e = T3 (-c) x 0 ∧ Below wx.heap.size wx w') := hide fun wx => neg_ok c x wx h
  have RW : Hid (∀ wx : World, Calls Try.prog 14 #[.agg #[.int .i64 c, .int .i64 x]] wx fun e w' => e = .returned (.int .i64 0) ∧ Below wx.heap.size wx w') := hide fun wx => by
    have := rwrong_any c x wx
    rwa [h] at this
  have wr1 : IntKind.i64.wrap (-c) = -c := by rw [IntKind.wrap_i64]; omega
  clear h
  obtain ⟨r1, r2, r3, DR, RR⟩ := both_round c x p
  obtain ⟨f1, f2, f3, DF, RF⟩ := both_floor c x
  obtain ⟨e1, e2, e3, DE, RE⟩ := both_ceil c x
  have DR' := hide DR
  have RR' := hide RR
  have DF' := hide DF
  have RF' := hide RF
  have DE' := hide DE
  have RE' := hide RE
  clear DR RR DF RF DE RE
  obtain ⟨wB, hwB⟩ : ∃ wB, wB = w.alloc (.cells #[.int .i64 c, .int .i64 x] 23) := ⟨_, rfl⟩
  have B0 : Below w.heap.size w wB := by rw [hwB]; exact below_new _ _
  have a0 : C2 wB w.heap.size c x := by rw [hwB]; exact C2.new w c x
  obtain ⟨al, k0, k1, -, -⟩ := id a0
  go_enter Try.func4, Try.ntmps4
  go_upto_region 1 with fail
  rw [← hwB]
  refine frame_intro (fun a => G a 1 = .int .i64 p ∧ G a 2 = .pointer (some ⟨w.heap.size, 0, none⟩) ∧ a.tmps.size = 103 ∧ a.defers = []) ⟨rfl, rfl, rfl, rfl⟩ ?_
  rintro f0 ⟨s1, s2, hsz, hdf⟩
  refine region_any (I := RP wB f0 103 [10, 11, 12, 13, 14] 99 (fun _ => True) [.lit (.agg #[.int .i64 c, .int .i64 x]), .lit (.int .i64 (Dm.wrongN c x)), .lit (.agg #[.int .i64 c, .int .i64 x]), .lit (.int .i64 (Dm.wrongN c x)), .lit (.bool ((Dm.wrongN c x) != (Dm.wrongN c x)))]) (by kernel_rfl) ?wait ?step ?done ?start
  case wait => exact ⟨(by simp <;> rfl), (by simp <;> rfl), (by simp <;> rfl), (by simp <;> rfl), (by simp <;> rfl), trivial⟩
  case start => exact RP.start hsz hdf ((Below.refl _ _).drew)
  case step =>
    refine ⟨?_, ?_, ?_, ?_, ?_, trivial⟩
    · rintro L fa wx h hcl hL hw2
      exact rp_val h (by decide) rfl rfl rfl (by decide) (by decide) rfl (run_ldD (eval_G ((h.keep (s := 2) (by decide)).trans s2)) (((h.old (h.nogi (by decide))).cell (p := ⟨w.heap.size, 0, none⟩) al).trans k0) (((h.old (h.nogi (by decide))).cell (p := ⟨w.heap.size, 1, none⟩) al).trans k1)) rfl
    · rintro L fa wx h hcl hL hw2
      exact rp_read h (by decide) rfl rfl rfl (by decide) (by decide) (h.nogi (by decide)) rfl (run_call1 (eval_G (show G fa 10 = .agg #[.int .i64 c, .int .i64 x] from h.lit (hw2 ⟨0, .data⟩ (by simp) rfl) rfl rfl)) callWrong) (wrong_any c x wx) rfl
    · rintro L fa wx h hcl hL hw2
      exact rp_val h (by decide) rfl rfl rfl (by decide) (by decide) rfl (run_ldD (eval_G ((h.keep (s := 2) (by decide)).trans s2)) (((h.old (h.nogi (by decide))).cell (p := ⟨w.heap.size, 0, none⟩) al).trans k0) (((h.old (h.nogi (by decide))).cell (p := ⟨w.heap.size, 1, none⟩) al).trans k1)) rfl
    · rintro L fa wx h hcl hL hw2
      exact rp_read h (by decide) rfl rfl rfl (by decide) (by decide) (h.nogi (by decide)) rfl (run_call1 (eval_G (show G fa 12 = .agg #[.int .i64 c, .int .i64 x] from h.lit (hw2 ⟨2, .data⟩ (by simp) rfl) rfl rfl)) callRWrong) (rwrong_any c x wx) rfl
    · rintro L fa wx h hcl hL hw2
      exact rp_val h (by decide) rfl rfl rfl (by decide) (by decide) rfl (run_neE (eval_G (show G fa 11 = .int .i64 (Dm.wrongN c x) from h.lit (hw2 ⟨1, .data⟩ (by simp) rfl) rfl rfl)) (eval_G (show G fa 13 = .int .i64 (Dm.wrongN c x) from h.lit (hw2 ⟨3, .data⟩ (by simp) rfl) rfl rfl))) rfl
  case done =>
  rintro L g1 w0 h0 hall
  have q14 : G g1 14 = .bool (Dm.wrongN c x != Dm.wrongN c x) := h0.lit (i := 4) (hall 4 (by simp)) rfl rfl
  have q1 := (h0.keep (s := 1) (by decide)).trans s1
  have q2 := (h0.keep (s := 2) (by decide)).trans s2
  have hb0 := h0.old (h0.nogi (by decide))
  have a1 := a0.below hb0
  have B1 := below_step B0 hb0
  have hne : (Dm.wrongN c x != Dm.wrongN c x) = false := bne_self_eq_false _
  rw [fr103 h0.size h0.defs, q1, q2, q14, hne]
  clear h0 hall q1 q2 q14 hb0 a0 B0 al k0 k1 hwB hne
  obtain ⟨pl, p0, p1, pf0, pf1⟩ := id a1
  go_wp2_with fail
  refine (unhide NG _).mono ?_
  try unfold T3
  rintro e w1 ⟨rfl, hb⟩
  have B2 := below_step B1 hb
  have a2 := a1.below hb
  have N1 := below_new w1 (.cells #[.int .i64 (-c), .int .i64 x] 23)
  have n3 := C2.new w1 (-c) x
  have a3 := a2.below N1
  have B3 := below_step B2 N1
  clear pl p0 p1 pf0 pf1
  obtain ⟨pl, p0, p1, pf0, pf1⟩ := id a2
  clear hb a1 a2 B1 B2 N1
  go_wp2_with fail
  refine (unhide RW _).mono ?_
  try unfold T3
  rintro e w2 ⟨rfl, hb⟩
  have B4 := below_step B3 hb
  have a4 := a3.below hb
  have n4 := n3.below hb
  clear pl p0 p1 pf0 pf1
  obtain ⟨pl, p0, p1, pf0, pf1⟩ := id a4
  obtain ⟨nl, n0, n1, nf0, nf1⟩ := id n4
  clear hb a3 n3 B3
  go_wp2_with fail
  refine (unhide DR' _).mono ?_
  try unfold T3
  rintro e w3 ⟨rfl, hb⟩
  have B5 := below_step B4 hb
  have a5 := a4.below hb
  have N3 := below_new w3 (.cells #[.int .i64 r1, .int .i64 r2] 23)
  have x6 := C2.new w3 r1 r2
  have a6 := a5.below N3
  have B6 := below_step B5 N3
  clear pl p0 p1 pf0 pf1 nl n0 n1 nf0 nf1
  obtain ⟨pl, p0, p1, pf0, pf1⟩ := id a5
  clear hb a4 n4 B4 a5 B5 N3
  go_wp2_with fail
  refine (unhide RR' _).mono ?_
  try unfold T3
  rintro e w4 ⟨rfl, hb⟩
  have B7 := below_step B6 hb
  have a7 := a6.below hb
  have x7 := x6.below hb
  have lx : w3.heap.size < w4.heap.size := x7.low
  have N4 := below_new w4 (.cells #[.int .i64 r1, .int .i64 r2] 23)
  have y8 := C2.new w4 r1 r2
  have a8 := a7.below N4
  have x8 := x7.below N4
  have B8 := below_step B7 N4
  have lw : w.heap.size < w3.heap.size := pl
  clear pl p0 p1 pf0 pf1
  obtain ⟨pl, p0, p1, pf0, pf1⟩ := id a7
  obtain ⟨ul, u0, u1, uf0, uf1⟩ := id x7
  clear hb a6 x6 B6 a7 x7 B7 N4
  go_wp2_with fail
  refine (unhide DF' _).mono ?_
  try unfold T3
  rintro e w5 ⟨rfl, hb⟩
  have B9 := below_step B8 hb
  have a9 := a8.below hb
  have x9 := x8.below hb
  have y9 := y8.below hb
  clear pl p0 p1 pf0 pf1 ul u0 u1 uf0 uf1
  obtain ⟨pl, p0, p1, pf0, pf1⟩ := id a9
  obtain ⟨ul, u0, u1, uf0, uf1⟩ := id x9
  obtain ⟨vl, v0, v1, vf0, vf1⟩ := id y9
  clear hb a8 x8 y8 B8
  have a10 := a9.other (p := w3.heap.size) (.int .i64 f1) (.int .i64 f2) (by omega)
  have y10 := y9.other (p := w3.heap.size) (.int .i64 f1) (.int .i64 f2) (by omega)
  have x10 := x9.set f1 f2
  have B10 := B9.trans (set2_below (w := w5) (p := w3.heap.size) (.int .i64 f1) (.int .i64 f2) (by omega))
  clear a9 x9 y9 B9
  go_wp2_with fail
  refine (unhide RF' _).mono ?_
  try unfold T3
  rintro e w6 ⟨rfl, hb⟩
  have B11 := below_step B10 hb
  have a11 := a10.below hb
  have x11 := x10.below hb
  have y11 := y10.below hb
  clear pl p0 p1 pf0 pf1 ul u0 u1 uf0 uf1 vl v0 v1 vf0 vf1
  obtain ⟨pl, p0, p1, pf0, pf1⟩ := id a11
  obtain ⟨ul, u0, u1, uf0, uf1⟩ := id x11
  obtain ⟨vl, v0, v1, vf0, vf1⟩ := id y11
  clear hb a10 x10 y10 B10
  have a12 := a11.other (p := w4.heap.size) (.int .i64 f1) (.int .i64 f2) (by omega)
  have x12 := x11.other (p := w4.heap.size) (.int .i64 f1) (.int .i64 f2) (by omega)
  have y12 := y11.set f1 f2
  have B12 := B11.trans (set2_below (w := w6) (p := w4.heap.size) (.int .i64 f1) (.int .i64 f2) (by omega))
  clear a11 x11 y11 B11
  go_wp2_with fail
  refine (unhide DE' _).mono ?_
  try unfold T3
  rintro e w7 ⟨rfl, hb⟩
  have B13 := below_step B12 hb
  have a13 := a12.below hb
  have x13 := x12.below hb
  have y13 := y12.below hb
  clear pl p0 p1 pf0 pf1 ul u0 u1 uf0 uf1 vl v0 v1 vf0 vf1
  obtain ⟨pl, p0, p1, pf0, pf1⟩ := id a13
  obtain ⟨ul, u0, u1, uf0, uf1⟩ := id x13
  obtain ⟨vl, v0, v1, vf0, vf1⟩ := id y13
  clear hb a12 x12 y12 B12
  have a14 := a13.other (p := w3.heap.size) (.int .i64 e1) (.int .i64 e2) (by omega)
  have y14 := y13.other (p := w3.heap.size) (.int .i64 e1) (.int .i64 e2) (by omega)
  have x14 := x13.set e1 e2
  have B14 := B13.trans (set2_below (w := w7) (p := w3.heap.size) (.int .i64 e1) (.int .i64 e2) (by omega))
  clear a13 x13 y13 B13
  go_wp2_with fail
  refine (unhide RE' _).mono ?_
  try unfold T3
  rintro e w8 ⟨rfl, hb⟩
  have B15 := below_step B14 hb
  have a15 := a14.below hb
  have x15 := x14.below hb
  have y15 := y14.below hb
  clear pl p0 p1 pf0 pf1 ul u0 u1 uf0 uf1 vl v0 v1 vf0 vf1
  obtain ⟨pl, p0, p1, pf0, pf1⟩ := id a15
  obtain ⟨ul, u0, u1, uf0, uf1⟩ := id x15
  obtain ⟨vl, v0, v1, vf0, vf1⟩ := id y15
  clear hb a14 x14 y14 B14
  have a16 := a15.other (p := w4.heap.size) (.int .i64 e1) (.int .i64 e2) (by omega)
  have x16 := x15.other (p := w4.heap.size) (.int .i64 e1) (.int .i64 e2) (by omega)
  have y16 := y15.set e1 e2
  have B16 := B15.trans (set2_below (w := w8) (p := w4.heap.size) (.int .i64 e1) (.int .i64 e2) (by omega))
  clear a15 x15 y15 B15
  clear a16 x16 y16
  go_wp2
  go_ret
  exact ⟨rfl, B16⟩

set_option maxRecDepth 100000 in
set_option maxHeartbeats 4000000 in
theorem shapes_no (c x p : Int) (w : World) (h : (Dm.wrongN c x != 0) = true) :
    Calls Try.prog 4 #[.agg #[.int .i64 c, .int .i64 x], .int .i64 p] w fun e w' => e = .returned (.bool true) ∧ Below w.heap.size w w' := by
  have NG : Hid (∀ wx : World, Calls Try.prog 15 #[.agg #[.int .i64 c, .int .i64 x]] wx fun e w' => e = T3 0 0 (Dm.wrongN c x) ∧ Below wx.heap.size wx w') := hide fun wx => neg_no c x wx h
  have RW : Hid (∀ wx : World, Calls Try.prog 14 #[.agg #[.int .i64 c, .int .i64 x]] wx fun e w' => e = .returned (.int .i64 (Dm.wrongN c x)) ∧ Below wx.heap.size wx w') := hide fun wx => rwrong_any c x wx
  have h' : (Dm.wrongN c x == 0) = false := by
    rw [beq_eq_false_iff_ne]
    exact bne_iff_ne.1 h
  obtain ⟨r1, r2, r3, DR, RR⟩ := both_round c x p
  obtain ⟨f1, f2, f3, DF, RF⟩ := both_floor c x
  obtain ⟨e1, e2, e3, DE, RE⟩ := both_ceil c x
  have DR' := hide DR
  have RR' := hide RR
  have DF' := hide DF
  have RF' := hide RF
  have DE' := hide DE
  have RE' := hide RE
  clear DR RR DF RF DE RE
  obtain ⟨wB, hwB⟩ : ∃ wB, wB = w.alloc (.cells #[.int .i64 c, .int .i64 x] 23) := ⟨_, rfl⟩
  have B0 : Below w.heap.size w wB := by rw [hwB]; exact below_new _ _
  have a0 : C2 wB w.heap.size c x := by rw [hwB]; exact C2.new w c x
  obtain ⟨al, k0, k1, -, -⟩ := id a0
  go_enter Try.func4, Try.ntmps4
  go_upto_region 1 with fail
  rw [← hwB]
  refine frame_intro (fun a => G a 1 = .int .i64 p ∧ G a 2 = .pointer (some ⟨w.heap.size, 0, none⟩) ∧ a.tmps.size = 103 ∧ a.defers = []) ⟨rfl, rfl, rfl, rfl⟩ ?_
  rintro f0 ⟨s1, s2, hsz, hdf⟩
  refine region_any (I := RP wB f0 103 [10, 11, 12, 13, 14] 99 (fun _ => True) [.lit (.agg #[.int .i64 c, .int .i64 x]), .lit (.int .i64 (Dm.wrongN c x)), .lit (.agg #[.int .i64 c, .int .i64 x]), .lit (.int .i64 (Dm.wrongN c x)), .lit (.bool ((Dm.wrongN c x) != (Dm.wrongN c x)))]) (by kernel_rfl) ?wait ?step ?done ?start
  case wait => exact ⟨(by simp <;> rfl), (by simp <;> rfl), (by simp <;> rfl), (by simp <;> rfl), (by simp <;> rfl), trivial⟩
  case start => exact RP.start hsz hdf ((Below.refl _ _).drew)
  case step =>
    refine ⟨?_, ?_, ?_, ?_, ?_, trivial⟩
    · rintro L fa wx h hcl hL hw2
      exact rp_val h (by decide) rfl rfl rfl (by decide) (by decide) rfl (run_ldD (eval_G ((h.keep (s := 2) (by decide)).trans s2)) (((h.old (h.nogi (by decide))).cell (p := ⟨w.heap.size, 0, none⟩) al).trans k0) (((h.old (h.nogi (by decide))).cell (p := ⟨w.heap.size, 1, none⟩) al).trans k1)) rfl
    · rintro L fa wx h hcl hL hw2
      exact rp_read h (by decide) rfl rfl rfl (by decide) (by decide) (h.nogi (by decide)) rfl (run_call1 (eval_G (show G fa 10 = .agg #[.int .i64 c, .int .i64 x] from h.lit (hw2 ⟨0, .data⟩ (by simp) rfl) rfl rfl)) callWrong) (wrong_any c x wx) rfl
    · rintro L fa wx h hcl hL hw2
      exact rp_val h (by decide) rfl rfl rfl (by decide) (by decide) rfl (run_ldD (eval_G ((h.keep (s := 2) (by decide)).trans s2)) (((h.old (h.nogi (by decide))).cell (p := ⟨w.heap.size, 0, none⟩) al).trans k0) (((h.old (h.nogi (by decide))).cell (p := ⟨w.heap.size, 1, none⟩) al).trans k1)) rfl
    · rintro L fa wx h hcl hL hw2
      exact rp_read h (by decide) rfl rfl rfl (by decide) (by decide) (h.nogi (by decide)) rfl (run_call1 (eval_G (show G fa 12 = .agg #[.int .i64 c, .int .i64 x] from h.lit (hw2 ⟨2, .data⟩ (by simp) rfl) rfl rfl)) callRWrong) (rwrong_any c x wx) rfl
    · rintro L fa wx h hcl hL hw2
      exact rp_val h (by decide) rfl rfl rfl (by decide) (by decide) rfl (run_neE (eval_G (show G fa 11 = .int .i64 (Dm.wrongN c x) from h.lit (hw2 ⟨1, .data⟩ (by simp) rfl) rfl rfl)) (eval_G (show G fa 13 = .int .i64 (Dm.wrongN c x) from h.lit (hw2 ⟨3, .data⟩ (by simp) rfl) rfl rfl))) rfl
  case done =>
  rintro L g1 w0 h0 hall
  have q14 : G g1 14 = .bool (Dm.wrongN c x != Dm.wrongN c x) := h0.lit (i := 4) (hall 4 (by simp)) rfl rfl
  have q1 := (h0.keep (s := 1) (by decide)).trans s1
  have q2 := (h0.keep (s := 2) (by decide)).trans s2
  have hb0 := h0.old (h0.nogi (by decide))
  have a1 := a0.below hb0
  have B1 := below_step B0 hb0
  have hne : (Dm.wrongN c x != Dm.wrongN c x) = false := bne_self_eq_false _
  rw [fr103 h0.size h0.defs, q1, q2, q14, hne]
  clear h0 hall q1 q2 q14 hb0 a0 B0 al k0 k1 hwB hne
  obtain ⟨pl, p0, p1, pf0, pf1⟩ := id a1
  go_wp2_with fail
  refine (unhide NG _).mono ?_
  try unfold T3
  rintro e w1 ⟨rfl, hb⟩
  have B2 := below_step B1 hb
  have a2 := a1.below hb
  have N1 := below_new w1 (.cells #[.int .i64 0, .int .i64 0] 23)
  have n3 := C2.new w1 0 0
  have a3 := a2.below N1
  have B3 := below_step B2 N1
  clear pl p0 p1 pf0 pf1
  obtain ⟨pl, p0, p1, pf0, pf1⟩ := id a2
  clear hb a1 a2 B1 B2 N1
  go_wp2_with fail
  refine (unhide RW _).mono ?_
  try unfold T3
  rintro e w2 ⟨rfl, hb⟩
  have B4 := below_step B3 hb
  have a4 := a3.below hb
  have n4 := n3.below hb
  clear pl p0 p1 pf0 pf1
  obtain ⟨pl, p0, p1, pf0, pf1⟩ := id a4
  obtain ⟨nl, n0, n1, nf0, nf1⟩ := id n4
  clear hb a3 n3 B3
  go_wp2_with fail
  refine (unhide DR' _).mono ?_
  try unfold T3
  rintro e w3 ⟨rfl, hb⟩
  have B5 := below_step B4 hb
  have a5 := a4.below hb
  have N3 := below_new w3 (.cells #[.int .i64 r1, .int .i64 r2] 23)
  have x6 := C2.new w3 r1 r2
  have a6 := a5.below N3
  have B6 := below_step B5 N3
  clear pl p0 p1 pf0 pf1 nl n0 n1 nf0 nf1
  obtain ⟨pl, p0, p1, pf0, pf1⟩ := id a5
  clear hb a4 n4 B4 a5 B5 N3
  go_wp2_with fail
  refine (unhide RR' _).mono ?_
  try unfold T3
  rintro e w4 ⟨rfl, hb⟩
  have B7 := below_step B6 hb
  have a7 := a6.below hb
  have x7 := x6.below hb
  have lx : w3.heap.size < w4.heap.size := x7.low
  have N4 := below_new w4 (.cells #[.int .i64 r1, .int .i64 r2] 23)
  have y8 := C2.new w4 r1 r2
  have a8 := a7.below N4
  have x8 := x7.below N4
  have B8 := below_step B7 N4
  have lw : w.heap.size < w3.heap.size := pl
  clear pl p0 p1 pf0 pf1
  obtain ⟨pl, p0, p1, pf0, pf1⟩ := id a7
  obtain ⟨ul, u0, u1, uf0, uf1⟩ := id x7
  clear hb a6 x6 B6 a7 x7 B7 N4
  go_wp2_with fail
  refine (unhide DF' _).mono ?_
  try unfold T3
  rintro e w5 ⟨rfl, hb⟩
  have B9 := below_step B8 hb
  have a9 := a8.below hb
  have x9 := x8.below hb
  have y9 := y8.below hb
  clear pl p0 p1 pf0 pf1 ul u0 u1 uf0 uf1
  obtain ⟨pl, p0, p1, pf0, pf1⟩ := id a9
  obtain ⟨ul, u0, u1, uf0, uf1⟩ := id x9
  obtain ⟨vl, v0, v1, vf0, vf1⟩ := id y9
  clear hb a8 x8 y8 B8
  have a10 := a9.other (p := w3.heap.size) (.int .i64 f1) (.int .i64 f2) (by omega)
  have y10 := y9.other (p := w3.heap.size) (.int .i64 f1) (.int .i64 f2) (by omega)
  have x10 := x9.set f1 f2
  have B10 := B9.trans (set2_below (w := w5) (p := w3.heap.size) (.int .i64 f1) (.int .i64 f2) (by omega))
  clear a9 x9 y9 B9
  go_wp2_with fail
  refine (unhide RF' _).mono ?_
  try unfold T3
  rintro e w6 ⟨rfl, hb⟩
  have B11 := below_step B10 hb
  have a11 := a10.below hb
  have x11 := x10.below hb
  have y11 := y10.below hb
  clear pl p0 p1 pf0 pf1 ul u0 u1 uf0 uf1 vl v0 v1 vf0 vf1
  obtain ⟨pl, p0, p1, pf0, pf1⟩ := id a11
  obtain ⟨ul, u0, u1, uf0, uf1⟩ := id x11
  obtain ⟨vl, v0, v1, vf0, vf1⟩ := id y11
  clear hb a10 x10 y10 B10
  have a12 := a11.other (p := w4.heap.size) (.int .i64 f1) (.int .i64 f2) (by omega)
  have x12 := x11.other (p := w4.heap.size) (.int .i64 f1) (.int .i64 f2) (by omega)
  have y12 := y11.set f1 f2
  have B12 := B11.trans (set2_below (w := w6) (p := w4.heap.size) (.int .i64 f1) (.int .i64 f2) (by omega))
  clear a11 x11 y11 B11
  go_wp2_with fail
  refine (unhide DE' _).mono ?_
  try unfold T3
  rintro e w7 ⟨rfl, hb⟩
  have B13 := below_step B12 hb
  have a13 := a12.below hb
  have x13 := x12.below hb
  have y13 := y12.below hb
  clear pl p0 p1 pf0 pf1 ul u0 u1 uf0 uf1 vl v0 v1 vf0 vf1
  obtain ⟨pl, p0, p1, pf0, pf1⟩ := id a13
  obtain ⟨ul, u0, u1, uf0, uf1⟩ := id x13
  obtain ⟨vl, v0, v1, vf0, vf1⟩ := id y13
  clear hb a12 x12 y12 B12
  have a14 := a13.other (p := w3.heap.size) (.int .i64 e1) (.int .i64 e2) (by omega)
  have y14 := y13.other (p := w3.heap.size) (.int .i64 e1) (.int .i64 e2) (by omega)
  have x14 := x13.set e1 e2
  have B14 := B13.trans (set2_below (w := w7) (p := w3.heap.size) (.int .i64 e1) (.int .i64 e2) (by omega))
  clear a13 x13 y13 B13
  go_wp2_with fail
  refine (unhide RE' _).mono ?_
  try unfold T3
  rintro e w8 ⟨rfl, hb⟩
  have B15 := below_step B14 hb
  have a15 := a14.below hb
  have x15 := x14.below hb
  have y15 := y14.below hb
  clear pl p0 p1 pf0 pf1 ul u0 u1 uf0 uf1 vl v0 v1 vf0 vf1
  obtain ⟨pl, p0, p1, pf0, pf1⟩ := id a15
  obtain ⟨ul, u0, u1, uf0, uf1⟩ := id x15
  obtain ⟨vl, v0, v1, vf0, vf1⟩ := id y15
  clear hb a14 x14 y14 B14
  have a16 := a15.other (p := w4.heap.size) (.int .i64 e1) (.int .i64 e2) (by omega)
  have x16 := x15.other (p := w4.heap.size) (.int .i64 e1) (.int .i64 e2) (by omega)
  have y16 := y15.set e1 e2
  have B16 := B15.trans (set2_below (w := w8) (p := w4.heap.size) (.int .i64 e1) (.int .i64 e2) (by omega))
  clear a15 x15 y15 B15
  clear a16 x16 y16
  go_wp2
  go_ret
  exact ⟨rfl, B16⟩

theorem shapes_walk (c x p : Int) (w : World) :
    Calls Try.prog 4 #[.agg #[.int .i64 c, .int .i64 x], .int .i64 p] w fun e w' => e = .returned (.bool true) ∧ Below w.heap.size w w' := by
  by_cases h : Dm.wrongN c x = 0
  · exact shapes_ok c x p w h
  · exact shapes_no c x p w (by rw [bne_iff_ne]; exact h)
end Go.Proofs.Ytibkemolmpcdcaa
