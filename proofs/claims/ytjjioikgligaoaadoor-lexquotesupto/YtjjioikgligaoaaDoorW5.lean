/- Walks: trimmed, number. -/
import Derived.Test.YtjjioikgligaoaaDoorW2
import Derived.Test.YtjjioikgligaoaaDoorDig
namespace Go.Proofs.YtjjioikgligaoaaDoor
open Go.RowKit

theorem ret_near {a b c a' b' c' : Int} (h1 : a = a') (h2 : b = b') (h3 : c = c') :
    Ending.returned (.tuple #[.agg #[.int .i64 a, .int .i64 b], .int .i64 c]) = .returned (.tuple #[.agg #[.int .i64 a', .int .i64 b'], .int .i64 c']) := by rw [h1, h2, h3]

set_option maxHeartbeats 400000 in
theorem trimmed_zero (x : Int) (w : World) :
    Calls Tryd.prog 53 #[.int .i64 0, .int .i64 x] w fun e w' => e = .returned (.tuple #[.agg #[.int .i64 0, .int .i64 0], .int .i64 0]) ∧ Below w.heap.size w w' := by
  go_enter Tryd.func53, Tryd.ntmps53
  go_wp2
  exact bodyPost_ret (v := .tuple #[.agg #[.int .i64 0, .int .i64 0], .int .i64 0]) (by simp [results, Tryd.results53, go_sem]) rfl ⟨rfl, (Below.refl _ _).alloc (Nat.le_refl _) _⟩

set_option maxHeartbeats 400000 in
theorem trimmed_some (c x : Int) (w : World) (h0 : (c == 0) = false) (h1 : -1000000000000000000 ≤ c) (h2 : c ≤ 1000000000000000000) (hx1 : -200 ≤ x) (hx2 : x ≤ 200) :
    Calls Tryd.prog 53 #[.int .i64 c, .int .i64 x] w fun e w' => ∃ (m : Int) (k : Nat), c = Dm.tens m k ∧ m.tmod 10 ≠ 0 ∧ ((40 < x + k ∧ e = .returned (.tuple #[.agg #[.int .i64 0, .int .i64 0], .int .i64 4])) ∨ (x + k ≤ 40 ∧ e = .returned (.tuple #[.agg #[.int .i64 m, .int .i64 (x + k)], .int .i64 0]))) ∧ Below w.heap.size w w' := by
  go_enter Tryd.func53, Tryd.ntmps53
  go_wp2
  go_loop [0, 1] (fun a b => ∃ (m : Int) (k : Nat), a = .int .i64 m ∧ b = .int .i64 (x + k) ∧ Hid (c = Dm.tens m k) ∧ Hid (m ≠ 0) ∧ -1000000000000000000 ≤ m ∧ m ≤ 1000000000000000000 ∧ k ≤ 18) (fun a _ => (intOf a).natAbs)
  case atStart => exact ⟨c, 0, rfl, by simp, hide rfl, hide (by simpa using h0), h1, h2, by omega⟩
  case round =>
    obtain ⟨m, k, rfl, rfl, H, hm0, hm1, hm2, hk⟩ := hrel
    by_cases hm : m.tmod 10 = 0
    · have hm' : (m.tmod 10 == 0) = true := by simp [hm]
      have T := hide (Dm.td10 m)
      have Hm := hide hm
      obtain ⟨q1, q2, q3, q4, q5⟩ := Dm.tdiv_facts (unhide hm0) hm
      have hq1 := hide q1
      have hk' := Dm.tens_k (unhide H) hm (unhide hm0) h1 h2
      clear hm q1
      go_wp2
      go_round
      case rel => exact ⟨_, k + 1, rfl, by go_num, hide (Dm.tens_step (unhide H) (unhide hq1)), hide q2, by omega, by omega, by omega⟩
      case measure => exact q3
    · have hm' : (m.tmod 10 == 0) = false := by simp [hm]
      have Hm := hide hm
      clear hm
      by_cases hg : 40 < x + (k : Int)
      · go_wp2
        exact bodyPost_ret (v := .tuple #[.agg #[.int .i64 0, .int .i64 0], .int .i64 4]) (by simp [results, Tryd.results53, go_sem]) rfl ⟨m, k, unhide H, unhide Hm, .inl ⟨hg, rfl⟩, (Below.refl _ _).alloc (Nat.le_refl _) _⟩
      · go_wp2
        exact bodyPost_ret (v := .tuple #[.agg #[.int .i64 m, .int .i64 (x + k)], .int .i64 0]) (by simp [results, Tryd.results53, go_sem]) rfl ⟨m, k, unhide H, unhide Hm, .inr ⟨by omega, rfl⟩, (Below.refl _ _).alloc (Nat.le_refl _) _⟩

theorem trimmed_any (c x : Int) (w : World) (h1 : -1000000000000000000 ≤ c) (h2 : c ≤ 1000000000000000000) (hx1 : -200 ≤ x) (hx2 : x ≤ 200) :
    Calls Tryd.prog 53 #[.int .i64 c, .int .i64 x] w fun e w' => e = .returned (.tuple #[.agg #[.int .i64 (Dm.fC c x), .int .i64 (Dm.fE c x)], .int .i64 (Dm.fR c x)]) ∧ Below w.heap.size w w' := by
  by_cases h0 : c = 0
  · subst h0
    exact (trimmed_zero x w).mono fun e w' h => h
  · refine (trimmed_some c x w (by simp [h0]) h1 h2 hx1 hx2).mono ?_
    rintro e w' ⟨m, k, hc, hm, he, hb⟩
    obtain ⟨t1, t2⟩ := Dm.tz_at hc hm (by omega)
    refine ⟨?_, hb⟩
    rcases he with ⟨g, rfl⟩ | ⟨g, rfl⟩
    · refine ret_near ?_ ?_ ?_ <;> simp only [Dm.fC, Dm.fE, Dm.fR, if_neg h0, t1, if_pos g]
    · have g' : ¬ 40 < x + (k : Int) := by omega
      refine ret_near ?_ ?_ ?_ <;> simp only [Dm.fC, Dm.fE, Dm.fR, if_neg h0, t1, t2, if_neg g']

set_option maxHeartbeats 400000 in
theorem number_any (B R : Bool) (sv : Value) (x : Int) (hsv : ∃ ao n c, sv = .slice ao n c) (q : Nat) (y : Int) (w : World) (hq : (q : Int) ≤ 1000000000000000000) (hx1 : -200 ≤ y) (hx2 : y ≤ 200) :
    Calls Tryd.prog 48 #[.agg #[.bool B, sv, .int .i64 x, .bool R], .int .u64 (q : Int), .int .i64 y] w fun e w' => e = .returned (.tuple #[.agg #[.int .i64 (Dm.fC (Dm.sg B q) y), .int .i64 (Dm.fE (Dm.sg B q) y)], .int .i64 (Dm.fR (Dm.sg B q) y)]) ∧ Below w.heap.size w w' := by
  obtain ⟨ao, n, cp, rfl⟩ := hsv
  cases B
  · go_enter Tryd.func48, Tryd.ntmps48
    go_wp2_with fail
    refine (trimmed_any (q : Int) y _ (by omega) (by omega) hx1 hx2).mono ?_
    rintro e w1 ⟨rfl, hb⟩
    obtain ⟨hc, hf⟩ := bcell hb
    have hz : w.heap.size + 2 ≤ w1.heap.size := by have := hb.size; simp at this; omega
    have hb0 : Below w.heap.size w w1 := (((Below.refl _ _).alloc (Nat.le_refl _) _).alloc (by simp) _).trans (hb.mono (by simp; omega))
    go_wp2
    exact bodyPost_ret (v := .tuple #[.agg #[.int .i64 (Dm.fC (q : Int) y), .int .i64 (Dm.fE (q : Int) y)], .int .i64 (Dm.fR (q : Int) y)]) (by simp [results, Tryd.results48, go_sem, hc]) rfl ⟨rfl, (hb0.setCell (by simp) _).setCell (by simp) _⟩
  · go_enter Tryd.func48, Tryd.ntmps48
    go_wp2_with fail
    refine (trimmed_any (-(q : Int)) y _ (by omega) (by omega) hx1 hx2).mono ?_
    rintro e w1 ⟨rfl, hb⟩
    obtain ⟨hc, hf⟩ := bcell hb
    have hz : w.heap.size + 2 ≤ w1.heap.size := by have := hb.size; simp at this; omega
    have hb0 : Below w.heap.size w w1 := (((Below.refl _ _).alloc (Nat.le_refl _) _).alloc (by simp) _).trans (hb.mono (by simp; omega))
    go_wp2
    exact bodyPost_ret (v := .tuple #[.agg #[.int .i64 (Dm.fC (-(q : Int)) y), .int .i64 (Dm.fE (-(q : Int)) y)], .int .i64 (Dm.fR (-(q : Int)) y)]) (by simp [results, Tryd.results48, go_sem, hc]) rfl ⟨rfl, (hb0.setCell (by simp) _).setCell (by simp) _⟩

end Go.Proofs.YtjjioikgligaoaaDoor
