/- Walks: stretched, compareSizes, Cmp. -/
import Derived.Test.YteniijhffinhnaaDoorW2
namespace Go.Proofs.YteniijhffinhnaaDoor
open Go.RowKit

set_option maxHeartbeats 400000 in
theorem stretched_any (c x : Int) (w : World) (h1 : -1000000000000000000 < c) (h2 : c < 1000000000000000000) (h0 : 1 ≤ (c.natAbs : Int)) (hx1 : -40 ≤ x) (hx2 : x ≤ 40) :
    Calls Tryd.prog 28 #[.agg #[.int .i64 c, .int .i64 x]] w fun e w' => ∃ (m : Int) (k : Nat), e = .returned (.tuple #[.int .u64 m, .int .i64 (x - k)]) ∧ m = Dm.tens (c.natAbs : Int) k ∧ 100000000000000000 ≤ m ∧ m < 1000000000000000000 ∧ k ≤ 17 ∧ Below w.heap.size w w' := by
  have h9 : (c.natAbs : Int) < 1000000000000000000 := by omega
  go_enter Tryd.func28, Tryd.ntmps28
  go_upto_region 1 with fail
  go_cut [4, 5] from 6 (fun a b wc => a = .int .u64 (c.natAbs : Int) ∧ b = .int .i64 x ∧ Below w.heap.size w wc)
  case first =>
    go_region_with (go_at_call 31; refine (size_any c x _ h1 h2).mono ?_; rintro e w1 ⟨rfl, hb⟩; obtain ⟨hc, hf⟩ := bcell hb)
    all_goals
      go_wp2_with fail
      go_meet
      case rel => exact ⟨rfl, rfl, (((Below.refl _ _).alloc (Nat.le_refl _) _).drew).trans (hb.mono (by simp))⟩
  case rest =>
    obtain ⟨rfl, rfl, hbel⟩ := hcut
    go_wp2
    go_loop [4, 5] (fun a b => ∃ (m : Int) (k : Nat), a = .int .u64 m ∧ b = .int .i64 (x - k) ∧ Hid (m = Dm.tens (c.natAbs : Int) k) ∧ 1 ≤ m ∧ m < 1000000000000000000 ∧ k ≤ 17) (fun a _ => (1000000000000000000 - intOf a).toNat)
    case atStart => exact ⟨_, 0, rfl, by simp, hide rfl, h0, h9, by omega⟩
    case round =>
      obtain ⟨m, k, rfl, rfl, H, hm1, hm2, hk⟩ := hrel
      by_cases hlt : m < 100000000000000000
      · have hk' := Dm.tens_lt (unhide H) h0 hlt
        go_wp2
        go_round
        case rel => exact ⟨_, k + 1, rfl, by go_num, hide (by rw [unhide H]; rfl), by omega, by omega, by omega⟩
        case measure => simp [intOf]; omega
      · go_wp2
        go_ret2
        exact ⟨m, k, rfl, unhide H, by omega, hm2, hk, hbel⟩

set_option maxHeartbeats 400000 in
theorem compareSizes_any (c1 x1 c2 x2 : Int) (w : World) (a1 : -1000000000000000000 < c1) (a2 : c1 < 1000000000000000000) (a0 : 1 ≤ (c1.natAbs : Int)) (a3 : -40 ≤ x1) (a4 : x1 ≤ 40)
    (b1 : -1000000000000000000 < c2) (b2 : c2 < 1000000000000000000) (b0 : 1 ≤ (c2.natAbs : Int)) (b3 : -40 ≤ x2) (b4 : x2 ≤ 40) :
    Calls Tryd.prog 23 #[.agg #[.int .i64 c1, .int .i64 x1], .agg #[.int .i64 c2, .int .i64 x2]] w fun e w' => e = .returned (.int .i64 (Dm.sgn (Dm.V (c1.natAbs : Int) x1 - Dm.V (c2.natAbs : Int) x2))) ∧ Below w.heap.size w w' := by
  go_enter Tryd.func23, Tryd.ntmps23
  go_wp2_with fail
  refine (stretched_any c1 x1 _ a1 a2 a0 a3 a4).mono ?_
  rintro e w1 ⟨m1, k1, rfl, e1, l1, u1, t1, hb⟩
  obtain ⟨hc, hf⟩ := bcell hb
  have hz : w.heap.size + 2 ≤ w1.heap.size := by have := hb.size; simp at this; omega
  have hb0 : Below w.heap.size w w1 := (((Below.refl _ _).alloc (Nat.le_refl _) _).alloc (by simp) _).trans (hb.mono (by simp; omega))
  have E1 := hide e1
  clear e1
  go_wp2_with fail
  refine (stretched_any c2 x2 _ b1 b2 b0 b3 b4).mono ?_
  rintro e w2 ⟨m2, k2, rfl, e2, l2, u2, t2, hb2⟩
  have hb9 : Below w.heap.size w w2 := hb0.trans (hb2.mono (by omega))
  have E2 := hide e2
  clear e2 hc hf hz hb0
  have HV := hide (Dm.cmp_sizes a3 b3 (unhide E1) (unhide E2) l1 u1 l2 u2 t1 t2)
  by_cases h : x1 - (k1 : Int) = x2 - (k2 : Int)
  · have h' : (x1 - (k1 : Int) != x2 - (k2 : Int)) = false := by simp [h]
    have h2 := hide h
    clear h
    go_wp2_with fail
    refine (cmpU64_any m1 m2 _).mono ?_
    rintro e w3 ⟨rfl, rfl⟩
    go_wp2
    go_ret
    exact ⟨ret_int ((unhide HV).1 (unhide h2)).symm, hb9⟩
  · have h' : (x1 - (k1 : Int) != x2 - (k2 : Int)) = true := by simp [h]
    have h2 := hide h
    clear h
    go_wp2_with fail
    refine (cmpInt_any _ _ _).mono ?_
    rintro e w3 ⟨rfl, rfl⟩
    go_wp2
    go_ret
    exact ⟨ret_int ((unhide HV).2 (unhide h2)).symm, hb9⟩

end Go.Proofs.YteniijhffinhnaaDoor
