/- Walks: towardsZero, Floor, Ceil. -/
import Derived.Test.YthgiepppcpjpaaaW5
import Derived.Test.YthgiepppcpjpaaaDig2
namespace Go.Proofs.Ythgiepppcpjpaaa
open Go.RowKit

set_option maxHeartbeats 400000 in
theorem towards_any (c x : Int) (w : World) (h1 : -1000000000000000000 < c) (h2 : c < 1000000000000000000) (hx1 : -40 ≤ x) (hx2 : x < 0) :
    Calls Try.prog 30 #[.agg #[.int .i64 c, .int .i64 x]] w fun e w' => e = .returned (.int .i64 (Dm.tq c (-x).toNat)) ∧ Below w.heap.size w w' := by
  go_enter Try.func30, Try.ntmps30
  go_wp2
  go_loop [3, 9] (fun a i => ∃ (k : Nat) (v : Int), i = .int .i64 (k : Int) ∧ a = .int .i64 v ∧ (k : Int) ≤ -x ∧ Hid (v = Dm.tq c k) ∧ -1000000000000000000 < v ∧ v < 1000000000000000000) (fun _ i => (-x).toNat - (intOf i).toNat)
  case atStart => exact ⟨0, c, rfl, rfl, by omega, hide rfl, h1, h2⟩
  case round =>
    obtain ⟨k, v, rfl, rfl, hk, H, v1, v2⟩ := hrel
    by_cases hlt : (k : Int) < -x
    · have hb := Dm.tq_bd h1 h2 (k + 1)
      have H2 : Hid (v.tdiv 10 = Dm.tq c (k + 1)) := hide (by rw [unhide H]; rfl)
      have l1 : -1000000000000000000 < v.tdiv 10 := by rw [unhide H2]; exact hb.1
      have l2 : v.tdiv 10 < 1000000000000000000 := by rw [unhide H2]; exact hb.2
      clear hb
      go_wp2
      go_round
      case rel => exact ⟨k + 1, v.tdiv 10, by go_num, rfl, by omega, H2, l1, l2⟩
      case measure => simp [intOf]; omega
    · go_wp2
      go_ret
      exact ⟨ret_int (by rw [unhide H]; congr 1; omega), (Below.refl _ _).alloc (Nat.le_refl _) _⟩

theorem two_cells {w w3 : World} {c1 x1 : Int}
    (hb : Below ((w.alloc (.cells #[.int .i64 c1, .int .i64 x1] 23)).alloc (.cells #[.int .i64 0, .int .i64 0] 23)).heap.size
      ((w.alloc (.cells #[.int .i64 c1, .int .i64 x1] 23)).alloc (.cells #[.int .i64 0, .int .i64 0] 23)) w3) :
    w3.cell? ⟨w.heap.size, 0, none⟩ = some (.int .i64 c1) ∧ w3.cell? ⟨w.heap.size, 1, none⟩ = some (.int .i64 x1) ∧
    w3.cell? ⟨w.heap.size + 1, 0, none⟩ = some (.int .i64 0) ∧ w3.cell? ⟨w.heap.size + 1, 1, none⟩ = some (.int .i64 0) ∧ w3.frozen? ⟨w.heap.size + 1, 0, none⟩ = false ∧ w3.frozen? ⟨w.heap.size + 1, 1, none⟩ = false ∧ w.heap.size + 2 ≤ w3.heap.size ∧ Below w.heap.size w w3 := by
  obtain ⟨hc, hf⟩ := bcell hb
  have s := hb.size
  simp at s
  have hw : Below w.heap.size w ((w.alloc (.cells #[.int .i64 c1, .int .i64 x1] 23)).alloc (.cells #[.int .i64 0, .int .i64 0] 23)) :=
    ((Below.refl w.heap.size w).alloc (Nat.le_refl _) _).alloc (by simp) _
  refine ⟨?_, ?_, ?_, ?_, ?_, ?_, by omega, hw.trans (hb.mono (by simp; omega))⟩
  all_goals first | (rw [hc _ _ (by simp <;> omega)]; simp [go_sem]; done) | (rw [hf _ _ (by simp <;> omega)]; simp [go_sem]; done)

set_option maxHeartbeats 400000 in
theorem floor_pos (c x : Int) (w : World) (h : Dm.wrongN c x = 0) (hx : 0 ≤ x) :
    Calls Try.prog 15 #[.agg #[.int .i64 c, .int .i64 x]] w fun e w' => e = .returned (.tuple #[.agg #[.int .i64 c, .int .i64 x], .int .i64 0]) ∧ Below w.heap.size w w' := by
  have H := hide h
  clear h
  go_enter Try.func15, Try.ntmps15
  go_wp2_with fail
  refine (wrong_any c x _).mono ?_
  rintro e w1 ⟨rfl, hb⟩
  obtain ⟨t0, t1, t2, t3, f0, f1, hz, hbw⟩ := two_cells hb
  rw [unhide H]
  go_wp2
  exact bodyPost_ret (v := .tuple #[.agg #[.int .i64 c, .int .i64 x], .int .i64 0]) (by simp [results, Try.results15, go_sem, t2, t3]) rfl ⟨rfl, (hbw.setCell (by simp) _).setCell (by simp) _⟩

set_option maxHeartbeats 1000000 in
theorem floor_neg (c x : Int) (w : World) (h : Dm.wrongN c x = 0) (hx : x < 0) :
    Calls Try.prog 15 #[.agg #[.int .i64 c, .int .i64 x]] w fun e w' => e = .returned (.tuple #[.agg #[.int .i64 (Dm.fC (Dm.flW c (-x).toNat) 0), .int .i64 (Dm.fE (Dm.flW c (-x).toNat) 0)], .int .i64 (Dm.fR (Dm.flW c (-x).toNat) 0)]) ∧ Below w.heap.size w w' := by
  obtain ⟨p1, p2, p3, p4, _⟩ := Dm.wrong_ok h
  have H := hide h
  clear h
  have tb := Dm.tq_bd p1 p2 (-x).toNat
  go_enter Try.func15, Try.ntmps15
  go_wp2_with fail
  refine (wrong_any c x _).mono ?_
  rintro e w1 ⟨rfl, hb⟩
  obtain ⟨t0, t1, t2, t3, f0, f1, hz, hbw⟩ := two_cells hb
  rw [unhide H]
  go_wp2_with fail
  refine (towards_any c x _ p1 p2 p3 hx).mono ?_
  rintro e w2 ⟨rfl, hb2⟩
  have hb2 := hb.trans (hb2.mono hb.size)
  clear hb t0 t1 t2 t3 f0 f1 hz hbw
  obtain ⟨t0, t1, t2, t3, f0, f1, hz, hbw⟩ := two_cells hb2
  by_cases hs : c < 0
  · have E : Hid (Dm.flW c (-x).toNat = Dm.tq c (-x).toNat - 1) := hide (by unfold Dm.flW; rw [if_pos hs])
    generalize Dm.tq c (-x).toNat = v at *
    go_wp2_with fail
    refine (trimmed_any _ 0 _ (by omega) (by omega) (by omega) (by omega)).mono ?_
    rintro e w3 ⟨rfl, hb3⟩
    have hb3 := hb2.trans (hb3.mono hb2.size)
    clear hb2 t0 t1 t2 t3 f0 f1 hz hbw
    obtain ⟨t0, t1, t2, t3, f0, f1, hz, hbw⟩ := two_cells hb3
    rw [← unhide E]
    go_wp2
    exact bodyPost_ret (v := .tuple #[.agg #[.int .i64 (Dm.fC (Dm.flW c (-x).toNat) 0), .int .i64 (Dm.fE (Dm.flW c (-x).toNat) 0)], .int .i64 (Dm.fR (Dm.flW c (-x).toNat) 0)]) (by simp [results, Try.results15, go_sem, t2, t3]) rfl ⟨rfl, (hbw.setCell (by simp) _).setCell (by simp) _⟩
  · have E : Hid (Dm.flW c (-x).toNat = Dm.tq c (-x).toNat) := hide (by unfold Dm.flW; rw [if_neg hs])
    generalize Dm.tq c (-x).toNat = v at *
    go_wp2_with fail
    refine (trimmed_any _ 0 _ (by omega) (by omega) (by omega) (by omega)).mono ?_
    rintro e w3 ⟨rfl, hb3⟩
    have hb3 := hb2.trans (hb3.mono hb2.size)
    clear hb2 t0 t1 t2 t3 f0 f1 hz hbw
    obtain ⟨t0, t1, t2, t3, f0, f1, hz, hbw⟩ := two_cells hb3
    rw [← unhide E]
    go_wp2
    exact bodyPost_ret (v := .tuple #[.agg #[.int .i64 (Dm.fC (Dm.flW c (-x).toNat) 0), .int .i64 (Dm.fE (Dm.flW c (-x).toNat) 0)], .int .i64 (Dm.fR (Dm.flW c (-x).toNat) 0)]) (by simp [results, Try.results15, go_sem, t2, t3]) rfl ⟨rfl, (hbw.setCell (by simp) _).setCell (by simp) _⟩

set_option maxHeartbeats 400000 in
theorem ceil_pos (c x : Int) (w : World) (h : Dm.wrongN c x = 0) (hx : 0 ≤ x) :
    Calls Try.prog 16 #[.agg #[.int .i64 c, .int .i64 x]] w fun e w' => e = .returned (.tuple #[.agg #[.int .i64 c, .int .i64 x], .int .i64 0]) ∧ Below w.heap.size w w' := by
  have H := hide h
  clear h
  go_enter Try.func16, Try.ntmps16
  go_wp2_with fail
  refine (wrong_any c x _).mono ?_
  rintro e w1 ⟨rfl, hb⟩
  obtain ⟨t0, t1, t2, t3, f0, f1, hz, hbw⟩ := two_cells hb
  rw [unhide H]
  go_wp2
  exact bodyPost_ret (v := .tuple #[.agg #[.int .i64 c, .int .i64 x], .int .i64 0]) (by simp [results, Try.results16, go_sem, t2, t3]) rfl ⟨rfl, (hbw.setCell (by simp) _).setCell (by simp) _⟩

set_option maxHeartbeats 1000000 in
theorem ceil_neg (c x : Int) (w : World) (h : Dm.wrongN c x = 0) (hx : x < 0) :
    Calls Try.prog 16 #[.agg #[.int .i64 c, .int .i64 x]] w fun e w' => e = .returned (.tuple #[.agg #[.int .i64 (Dm.fC (Dm.ceW c (-x).toNat) 0), .int .i64 (Dm.fE (Dm.ceW c (-x).toNat) 0)], .int .i64 (Dm.fR (Dm.ceW c (-x).toNat) 0)]) ∧ Below w.heap.size w w' := by
  obtain ⟨p1, p2, p3, p4, _⟩ := Dm.wrong_ok h
  have H := hide h
  clear h
  have tb := Dm.tq_bd p1 p2 (-x).toNat
  go_enter Try.func16, Try.ntmps16
  go_wp2_with fail
  refine (wrong_any c x _).mono ?_
  rintro e w1 ⟨rfl, hb⟩
  obtain ⟨t0, t1, t2, t3, f0, f1, hz, hbw⟩ := two_cells hb
  rw [unhide H]
  go_wp2_with fail
  refine (towards_any c x _ p1 p2 p3 hx).mono ?_
  rintro e w2 ⟨rfl, hb2⟩
  have hb2 := hb.trans (hb2.mono hb.size)
  clear hb t0 t1 t2 t3 f0 f1 hz hbw
  obtain ⟨t0, t1, t2, t3, f0, f1, hz, hbw⟩ := two_cells hb2
  by_cases hs : 0 < c
  · have E : Hid (Dm.ceW c (-x).toNat = Dm.tq c (-x).toNat + 1) := hide (by unfold Dm.ceW; rw [if_pos hs])
    generalize Dm.tq c (-x).toNat = v at *
    go_wp2_with fail
    refine (trimmed_any _ 0 _ (by omega) (by omega) (by omega) (by omega)).mono ?_
    rintro e w3 ⟨rfl, hb3⟩
    have hb3 := hb2.trans (hb3.mono hb2.size)
    clear hb2 t0 t1 t2 t3 f0 f1 hz hbw
    obtain ⟨t0, t1, t2, t3, f0, f1, hz, hbw⟩ := two_cells hb3
    rw [← unhide E]
    go_wp2
    exact bodyPost_ret (v := .tuple #[.agg #[.int .i64 (Dm.fC (Dm.ceW c (-x).toNat) 0), .int .i64 (Dm.fE (Dm.ceW c (-x).toNat) 0)], .int .i64 (Dm.fR (Dm.ceW c (-x).toNat) 0)]) (by simp [results, Try.results16, go_sem, t2, t3]) rfl ⟨rfl, (hbw.setCell (by simp) _).setCell (by simp) _⟩
  · have E : Hid (Dm.ceW c (-x).toNat = Dm.tq c (-x).toNat) := hide (by unfold Dm.ceW; rw [if_neg hs])
    generalize Dm.tq c (-x).toNat = v at *
    go_wp2_with fail
    refine (trimmed_any _ 0 _ (by omega) (by omega) (by omega) (by omega)).mono ?_
    rintro e w3 ⟨rfl, hb3⟩
    have hb3 := hb2.trans (hb3.mono hb2.size)
    clear hb2 t0 t1 t2 t3 f0 f1 hz hbw
    obtain ⟨t0, t1, t2, t3, f0, f1, hz, hbw⟩ := two_cells hb3
    rw [← unhide E]
    go_wp2
    exact bodyPost_ret (v := .tuple #[.agg #[.int .i64 (Dm.fC (Dm.ceW c (-x).toNat) 0), .int .i64 (Dm.fE (Dm.ceW c (-x).toNat) 0)], .int .i64 (Dm.fR (Dm.ceW c (-x).toNat) 0)]) (by simp [results, Try.results16, go_sem, t2, t3]) rfl ⟨rfl, (hbw.setCell (by simp) _).setCell (by simp) _⟩

end Go.Proofs.Ythgiepppcpjpaaa
