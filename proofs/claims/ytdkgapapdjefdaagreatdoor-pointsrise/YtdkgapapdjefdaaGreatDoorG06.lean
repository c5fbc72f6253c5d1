/- Walks: wrongOf, size, cmp.Compare, stretched, compareSizes, Cmp. -/
import Derived.Test.YtdkgapapdjefdaaGreatDoorG04
import Derived.Deep.RegionWith
import Derived.Deep.Cut
import Derived.Deep.CutRange
import Derived.Deep.LoopGhost
import Derived.Test.YtdkgapapdjefdaaGreatDoorG01
namespace Go.Proofs.YtdkgapapdjefdaaGreatDoor
open Go.RowKit

theorem bcell {W w1 : World} (hb : Below W.heap.size W w1) : (∀ b o, b < W.heap.size → w1.cell? ⟨b, o, none⟩ = W.cell? ⟨b, o, none⟩) ∧ (∀ b o, b < W.heap.size → w1.frozen? ⟨b, o, none⟩ = W.frozen? ⟨b, o, none⟩) :=
  ⟨fun b o h => hb.cell (p := ⟨b, o, none⟩) h, fun b o h => hb.frozen (p := ⟨b, o, none⟩) h⟩

set_option maxHeartbeats 400000 in
theorem wrongOf_any (c1 x1 c2 x2 : Int) (w : World) :
    Calls Tryz.prog 68 #[.agg #[.int .i64 c1, .int .i64 x1], .agg #[.int .i64 c2, .int .i64 x2]] w fun e w' => e = .returned (.int .i64 (Dm.wrong2 c1 x1 c2 x2)) ∧ Below w.heap.size w w' := by
  go_enter Tryz.func68, Tryz.ntmps68
  go_wp2_with fail
  refine (wrong_any c1 x1 _).mono ?_
  rintro e w1 ⟨rfl, hb⟩
  obtain ⟨hc, hf⟩ := bcell hb
  have hz : w.heap.size + 2 ≤ w1.heap.size := by have := hb.size; simp at this; omega
  have hb0 : Below w.heap.size w w1 := (((Below.refl _ _).alloc (Nat.le_refl _) _).alloc (by simp) _).trans (hb.mono (by simp; omega))
  by_cases h : Dm.wrongN c1 x1 = 0
  · have H := hide (Dm.wrong2_ok h c2 x2)
    have h' : (Dm.wrongN c1 x1 != 0) = false := by simp [h]
    clear h
    go_wp2_with fail
    refine (wrong_any c2 x2 _).mono ?_
    rintro e w2 ⟨rfl, hb2⟩
    go_wp2
    go_ret
    exact ⟨ret_int (unhide H).symm, hb0.trans (hb2.mono (by omega))⟩
  · have H := hide (Dm.wrong2_no h c2 x2)
    have h' : (Dm.wrongN c1 x1 != 0) = true := by simp [h]
    clear h
    go_wp2
    go_ret
    exact ⟨ret_int (unhide H).symm, hb0⟩

set_option maxHeartbeats 400000 in
theorem size_any (c x : Int) (w : World) (h1 : -1000000000000000000 < c) (h2 : c < 1000000000000000000) :
    Calls Tryz.prog 131 #[.agg #[.int .i64 c, .int .i64 x]] w fun e w' => e = .returned (.int .u64 (c.natAbs : Int)) ∧ Below w.heap.size w w' := by
  by_cases h : c < 0
  all_goals
    go_enter Tryz.func131, Tryz.ntmps131
    go_wp2
    go_ret
    refine ⟨ret_int ?_, (Below.refl _ _).alloc (Nat.le_refl _) _⟩
    omega

set_option maxHeartbeats 400000 in
theorem cmpI64_any (a b : Int) (w : World) :
    Calls Tryz.prog 76 #[.int .i64 a, .int .i64 b] w fun e w' => e = .returned (.int .i64 (Dm.sgn (a - b))) ∧ w' = w := by
  go_enter Tryz.func76, Tryz.ntmps76
  go_wp2
  all_goals
    go_ret
    refine ⟨ret_int ?_, rfl⟩
    unfold Dm.sgn
    (repeat' split) <;> omega

set_option maxHeartbeats 400000 in
theorem cmpInt_any (a b : Int) (w : World) :
    Calls Tryz.prog 77 #[.int .i64 a, .int .i64 b] w fun e w' => e = .returned (.int .i64 (Dm.sgn (a - b))) ∧ w' = w := by
  go_enter Tryz.func77, Tryz.ntmps77
  go_wp2
  all_goals
    go_ret
    refine ⟨ret_int ?_, rfl⟩
    unfold Dm.sgn
    (repeat' split) <;> omega

set_option maxHeartbeats 400000 in
theorem cmpU64_any (a b : Int) (w : World) :
    Calls Tryz.prog 118 #[.int .u64 a, .int .u64 b] w fun e w' => e = .returned (.int .i64 (Dm.sgn (a - b))) ∧ w' = w := by
  go_enter Tryz.func118, Tryz.ntmps118
  go_wp2
  all_goals
    go_ret
    refine ⟨ret_int ?_, rfl⟩
    unfold Dm.sgn
    (repeat' split) <;> omega
end Go.Proofs.YtdkgapapdjefdaaGreatDoor

/- Walks: stretched, compareSizes, Cmp. -/
namespace Go.Proofs.YtdkgapapdjefdaaGreatDoor
open Go.RowKit

set_option maxHeartbeats 400000 in
theorem stretched_any (c x : Int) (w : World) (h1 : -1000000000000000000 < c) (h2 : c < 1000000000000000000) (h0 : 1 ≤ (c.natAbs : Int)) (hx1 : -40 ≤ x) (hx2 : x ≤ 40) :
    Calls Tryz.prog 117 #[.agg #[.int .i64 c, .int .i64 x]] w fun e w' => ∃ (m : Int) (k : Nat), e = .returned (.tuple #[.int .u64 m, .int .i64 (x - k)]) ∧ m = Dm.tens (c.natAbs : Int) k ∧ 100000000000000000 ≤ m ∧ m < 1000000000000000000 ∧ k ≤ 17 ∧ Below w.heap.size w w' := by
  have h9 : (c.natAbs : Int) < 1000000000000000000 := by omega
  go_enter Tryz.func117, Tryz.ntmps117
  go_upto_region 1 with fail
  go_cut [4, 5] from 6 (fun a b wc => a = .int .u64 (c.natAbs : Int) ∧ b = .int .i64 x ∧ Below w.heap.size w wc)
  case first =>
    go_region_with (go_at_call 131; refine (size_any c x _ h1 h2).mono ?_; rintro e w1 ⟨rfl, hb⟩; obtain ⟨hc, hf⟩ := bcell hb)
    all_goals
      go_wp2_with fail
      go_meet
      case rel => exact ⟨rfl, rfl, (((Below.refl _ _).alloc (Nat.le_refl _) _).drew).trans (hb.mono (by simp))⟩
  case rest =>
    obtain ⟨rfl, rfl, hbel⟩ := hcut
    go_wp2
    go_loop [4, 5] (fun a b => ∃ (m : Int) (k : Nat), a = .int .u64 m ∧ b = .int .i64 (x - k) ∧ Hid (m = Dm.tens (c.natAbs : Int) k) ∧ 1 ≤ m ∧ m < 1000000000000000000 ∧ k ≤ 17) (fun a _ => (1000000000000000000 - intOf a).toNat)
    case atStart => exact ⟨_, 0, rfl, by simp, hide rfl, h0, h9, by omega⟩
    case round =>
      obtain ⟨m, k, rfl, rfl, H, hm1, hm2, hk⟩ := hrel
      by_cases hlt : m < 100000000000000000
      · have hk' := Dm.tens_lt (unhide H) h0 hlt
        go_wp2
        go_round
        case rel => exact ⟨_, k + 1, rfl, by go_num, hide (by rw [unhide H]; rfl), by omega, by omega, by omega⟩
        case measure => simp [intOf]; omega
      · go_wp2
        go_ret2
        exact ⟨m, k, rfl, unhide H, by omega, hm2, hk, hbel⟩

set_option maxHeartbeats 400000 in
theorem compareSizes_any (c1 x1 c2 x2 : Int) (w : World) (a1 : -1000000000000000000 < c1) (a2 : c1 < 1000000000000000000) (a0 : 1 ≤ (c1.natAbs : Int)) (a3 : -40 ≤ x1) (a4 : x1 ≤ 40)
    (b1 : -1000000000000000000 < c2) (b2 : c2 < 1000000000000000000) (b0 : 1 ≤ (c2.natAbs : Int)) (b3 : -40 ≤ x2) (b4 : x2 ≤ 40) :
    Calls Tryz.prog 78 #[.agg #[.int .i64 c1, .int .i64 x1], .agg #[.int .i64 c2, .int .i64 x2]] w fun e w' => e = .returned (.int .i64 (Dm.sgn (Dm.V (c1.natAbs : Int) x1 - Dm.V (c2.natAbs : Int) x2))) ∧ Below w.heap.size w w' := by
  go_enter Tryz.func78, Tryz.ntmps78
  go_wp2_with fail
  refine (stretched_any c1 x1 _ a1 a2 a0 a3 a4).mono ?_
  rintro e w1 ⟨m1, k1, rfl, e1, l1, u1, t1, hb⟩
  obtain ⟨hc, hf⟩ := bcell hb
  have hz : w.heap.size + 2 ≤ w1.heap.size := by have := hb.size; simp at this; omega
  have hb0 : Below w.heap.size w w1 := (((Below.refl _ _).alloc (Nat.le_refl _) _).alloc (by simp) _).trans (hb.mono (by simp; omega))
  have E1 := hide e1
  clear e1
  go_wp2_with fail
  refine (stretched_any c2 x2 _ b1 b2 b0 b3 b4).mono ?_
  rintro e w2 ⟨m2, k2, rfl, e2, l2, u2, t2, hb2⟩
  have hb9 : Below w.heap.size w w2 := hb0.trans (hb2.mono (by omega))
  have E2 := hide e2
  clear e2 hc hf hz hb0
  have HV := hide (Dm.cmp_sizes a3 b3 (unhide E1) (unhide E2) l1 u1 l2 u2 t1 t2)
  by_cases h : x1 - (k1 : Int) = x2 - (k2 : Int)
  · have h' : (x1 - (k1 : Int) != x2 - (k2 : Int)) = false := by simp [h]
    have h2 := hide h
    clear h
    go_wp2_with fail
    refine (cmpU64_any m1 m2 _).mono ?_
    rintro e w3 ⟨rfl, rfl⟩
    go_wp2
    go_ret
    exact ⟨ret_int ((unhide HV).1 (unhide h2)).symm, hb9⟩
  · have h' : (x1 - (k1 : Int) != x2 - (k2 : Int)) = true := by simp [h]
    have h2 := hide h
    clear h
    go_wp2_with fail
    refine (cmpInt_any _ _ _).mono ?_
    rintro e w3 ⟨rfl, rfl⟩
    go_wp2
    go_ret
    exact ⟨ret_int ((unhide HV).2 (unhide h2)).symm, hb9⟩

end Go.Proofs.YtdkgapapdjefdaaGreatDoor

/- Walks: Cmp. -/
namespace Go.Proofs.YtdkgapapdjefdaaGreatDoor
open Go.RowKit

set_option maxHeartbeats 400000 in
theorem cmp_no (c1 x1 c2 x2 : Int) (w : World) (h : (Dm.wrong2 c1 x1 c2 x2 != 0) = true) :
    Calls Tryz.prog 39 #[.agg #[.int .i64 c1, .int .i64 x1], .agg #[.int .i64 c2, .int .i64 x2]] w fun e w' => e = .returned (.tuple #[.int .i64 0, .int .i64 (Dm.wrong2 c1 x1 c2 x2)]) ∧ Below w.heap.size w w' := by
  go_enter Tryz.func39, Tryz.ntmps39
  go_wp2_with fail
  refine (wrongOf_any c1 x1 c2 x2 _).mono ?_
  rintro e w1 ⟨rfl, hb⟩
  go_wp2
  go_ret2
  exact ⟨rfl, (((Below.refl _ _).alloc (Nat.le_refl _) _).alloc (by simp) _).trans (hb.mono (by simp; omega))⟩

/-- Cmp of two right numbers, out of what its callees come to. -/
theorem cmp_core (c1 x1 c2 x2 : Int) (w : World) (h : Dm.wrong2 c1 x1 c2 x2 = 0) (r : Int)
    (hd : Dm.sgn c1 ≠ Dm.sgn c2 → r = Dm.sgn (Dm.sgn c1 - Dm.sgn c2)) (hz : Dm.sgn c1 = Dm.sgn c2 → Dm.sgn c1 = 0 → r = 0)
    (hs : Dm.sgn c1 = Dm.sgn c2 → Dm.sgn c1 ≠ 0 → ∃ s, -1 ≤ s ∧ s ≤ 1 ∧ r = Dm.sgn c1 * s ∧ ∀ wx, Calls Tryz.prog 78 #[.agg #[.int .i64 c1, .int .i64 x1], .agg #[.int .i64 c2, .int .i64 x2]] wx fun e w' => e = .returned (.int .i64 s) ∧ Below wx.heap.size wx w') :
    Calls Tryz.prog 39 #[.agg #[.int .i64 c1, .int .i64 x1], .agg #[.int .i64 c2, .int .i64 x2]] w fun e w' => e = .returned (.tuple #[.int .i64 r, .int .i64 0]) ∧ Below w.heap.size w w' := by
  have hd' := hide hd
  have hz' := hide hz
  have hs' := hide hs
  clear hd hz hs
  have sb := Dm.sgn_bd c1
  go_enter Tryz.func39, Tryz.ntmps39
  go_wp2_with fail
  refine (wrongOf_any c1 x1 c2 x2 _).mono ?_
  rintro e w1 ⟨rfl, hb⟩
  obtain ⟨hc, hf⟩ := bcell hb
  have hz1 : w.heap.size + 2 ≤ w1.heap.size := by have := hb.size; simp at this; omega
  have hb0 : Below w.heap.size w w1 := (((Below.refl _ _).alloc (Nat.le_refl _) _).alloc (by simp) _).trans (hb.mono (by simp; omega))
  rw [h]
  clear h
  go_wp2_with fail
  go_quiet ((go_at_call 76; exact Calls.quiet_of_same (cmpI64_any _ _ _)))
  by_cases h12 : Dm.sgn c1 = Dm.sgn c2
  · have h12' : (Dm.sgn c1 != Dm.sgn c2) = false := by simp [h12]
    have e12 := hide h12
    clear h12
    by_cases h0 : Dm.sgn c1 = 0
    · have h0' : (Dm.sgn c1 == 0) = true := by simp [h0]
      have e0 := hide h0
      clear h0
      go_wp2
      go_ret2
      rw [unhide hz' (unhide e12) (unhide e0)]
      exact ⟨rfl, below_drewN hb0 _⟩
    · have h0' : (Dm.sgn c1 == 0) = false := by simp [h0]
      obtain ⟨s, l1, l2, er, hcalls⟩ := unhide hs' (unhide e12) h0
      have hcalls' := hide hcalls
      have er' := hide er
      have em : -1 ≤ Dm.sgn c1 * s ∧ Dm.sgn c1 * s ≤ 1 := by
        rcases (show Dm.sgn c1 = -1 ∨ Dm.sgn c1 = 1 by omega) with q | q <;> rw [q] <;> omega
      obtain ⟨em1, em2⟩ := em
      clear hcalls er h0
      go_wp2_with fail
      refine (unhide hcalls' _).mono ?_
      rintro e w2 ⟨rfl, hb2⟩
      go_wp2
      go_ret2
      rw [unhide er']
      exact ⟨rfl, (below_drewN hb0 _).trans (hb2.mono (by simp; omega))⟩
  · have h12' : (Dm.sgn c1 != Dm.sgn c2) = true := by simp [h12]
    have hr := hide (unhide hd' h12)
    clear h12
    go_wp2_with fail
    refine (cmpInt_any _ _ _).mono ?_
    rintro e w3 ⟨rfl, rfl⟩
    go_wp2
    go_ret2
    rw [unhide hr]
    exact ⟨rfl, below_drewN hb0 _⟩

theorem cmp_ok (c1 x1 c2 x2 : Int) (w : World) (h1 : Dm.wrongN c1 x1 = 0) (h2 : Dm.wrongN c2 x2 = 0) :
    Calls Tryz.prog 39 #[.agg #[.int .i64 c1, .int .i64 x1], .agg #[.int .i64 c2, .int .i64 x2]] w fun e w' => e = .returned (.tuple #[.int .i64 (Dm.sgn (Dm.V c1 x1 - Dm.V c2 x2)), .int .i64 0]) ∧ Below w.heap.size w w' := by
  obtain ⟨p1, p2, p3, p4, _⟩ := Dm.wrong_ok h1
  obtain ⟨q1, q2, q3, q4, _⟩ := Dm.wrong_ok h2
  refine cmp_core c1 x1 c2 x2 w (by rw [Dm.wrong2_ok h1, h2]) _ ?_ ?_ ?_
  · exact Dm.cmp_diff x1 x2
  · exact Dm.cmp_zero x1 x2
  · intro h12 h0
    obtain ⟨n1, n2, hr⟩ := Dm.cmp_same x1 x2 h12 h0
    exact ⟨_, (Dm.sgn_bd _).1, (Dm.sgn_bd _).2, hr, fun wx => compareSizes_any c1 x1 c2 x2 wx p1 p2 n1 p3 p4 q1 q2 n2 q3 q4⟩
end Go.Proofs.YtdkgapapdjefdaaGreatDoor

/- Walks: trimmed, number. -/
namespace Go.Proofs.YtdkgapapdjefdaaGreatDoor
open Go.RowKit

theorem ret_near {a b c a' b' c' : Int} (h1 : a = a') (h2 : b = b') (h3 : c = c') :
    Ending.returned (.tuple #[.agg #[.int .i64 a, .int .i64 b], .int .i64 c]) = .returned (.tuple #[.agg #[.int .i64 a', .int .i64 b'], .int .i64 c']) := by rw [h1, h2, h3]

set_option maxHeartbeats 400000 in
theorem trimmed_zero (x : Int) (w : World) :
    Calls Tryz.prog 133 #[.int .i64 0, .int .i64 x] w fun e w' => e = .returned (.tuple #[.agg #[.int .i64 0, .int .i64 0], .int .i64 0]) ∧ Below w.heap.size w w' := by
  go_enter Tryz.func133, Tryz.ntmps133
  go_wp2
  exact bodyPost_ret (v := .tuple #[.agg #[.int .i64 0, .int .i64 0], .int .i64 0]) (by simp [results, Tryz.results133, go_sem]) rfl ⟨rfl, (Below.refl _ _).alloc (Nat.le_refl _) _⟩

set_option maxHeartbeats 400000 in
theorem trimmed_some (c x : Int) (w : World) (h0 : (c == 0) = false) (h1 : -1000000000000000000 ≤ c) (h2 : c ≤ 1000000000000000000) (hx1 : -200 ≤ x) (hx2 : x ≤ 200) :
    Calls Tryz.prog 133 #[.int .i64 c, .int .i64 x] w fun e w' => ∃ (m : Int) (k : Nat), c = Dm.tens m k ∧ m.tmod 10 ≠ 0 ∧ ((40 < x + k ∧ e = .returned (.tuple #[.agg #[.int .i64 0, .int .i64 0], .int .i64 4])) ∨ (x + k ≤ 40 ∧ e = .returned (.tuple #[.agg #[.int .i64 m, .int .i64 (x + k)], .int .i64 0]))) ∧ Below w.heap.size w w' := by
  go_enter Tryz.func133, Tryz.ntmps133
  go_wp2
  go_loop [0, 1] (fun a b => ∃ (m : Int) (k : Nat), a = .int .i64 m ∧ b = .int .i64 (x + k) ∧ Hid (c = Dm.tens m k) ∧ Hid (m ≠ 0) ∧ -1000000000000000000 ≤ m ∧ m ≤ 1000000000000000000 ∧ k ≤ 18) (fun a _ => (intOf a).natAbs)
  case atStart => exact ⟨c, 0, rfl, by simp, hide rfl, hide (by simpa using h0), h1, h2, by omega⟩
  case round =>
    obtain ⟨m, k, rfl, rfl, H, hm0, hm1, hm2, hk⟩ := hrel
    by_cases hm : m.tmod 10 = 0
    · have hm' : (m.tmod 10 == 0) = true := by simp [hm]
      have T := hide (Dm.td10 m)
      have Hm := hide hm
      obtain ⟨q1, q2, q3, q4, q5⟩ := Dm.tdiv_facts (unhide hm0) hm
      have hq1 := hide q1
      have hk' := Dm.tens_k (unhide H) hm (unhide hm0) h1 h2
      clear hm q1
      go_wp2
      go_round
      case rel => exact ⟨_, k + 1, rfl, by go_num, hide (Dm.tens_step (unhide H) (unhide hq1)), hide q2, by omega, by omega, by omega⟩
      case measure => exact q3
    · have hm' : (m.tmod 10 == 0) = false := by simp [hm]
      have Hm := hide hm
      clear hm
      by_cases hg : 40 < x + (k : Int)
      · go_wp2
        exact bodyPost_ret (v := .tuple #[.agg #[.int .i64 0, .int .i64 0], .int .i64 4]) (by simp [results, Tryz.results133, go_sem]) rfl ⟨m, k, unhide H, unhide Hm, .inl ⟨hg, rfl⟩, (Below.refl _ _).alloc (Nat.le_refl _) _⟩
      · go_wp2
        exact bodyPost_ret (v := .tuple #[.agg #[.int .i64 m, .int .i64 (x + k)], .int .i64 0]) (by simp [results, Tryz.results133, go_sem]) rfl ⟨m, k, unhide H, unhide Hm, .inr ⟨by omega, rfl⟩, (Below.refl _ _).alloc (Nat.le_refl _) _⟩

theorem trimmed_any (c x : Int) (w : World) (h1 : -1000000000000000000 ≤ c) (h2 : c ≤ 1000000000000000000) (hx1 : -200 ≤ x) (hx2 : x ≤ 200) :
    Calls Tryz.prog 133 #[.int .i64 c, .int .i64 x] w fun e w' => e = .returned (.tuple #[.agg #[.int .i64 (Dm.fC c x), .int .i64 (Dm.fE c x)], .int .i64 (Dm.fR c x)]) ∧ Below w.heap.size w w' := by
  by_cases h0 : c = 0
  · subst h0
    exact (trimmed_zero x w).mono fun e w' h => h
  · refine (trimmed_some c x w (by simp [h0]) h1 h2 hx1 hx2).mono ?_
    rintro e w' ⟨m, k, hc, hm, he, hb⟩
    obtain ⟨t1, t2⟩ := Dm.tz_at hc hm (by omega)
    refine ⟨?_, hb⟩
    rcases he with ⟨g, rfl⟩ | ⟨g, rfl⟩
    · refine ret_near ?_ ?_ ?_ <;> simp only [Dm.fC, Dm.fE, Dm.fR, if_neg h0, t1, if_pos g]
    · have g' : ¬ 40 < x + (k : Int) := by omega
      refine ret_near ?_ ?_ ?_ <;> simp only [Dm.fC, Dm.fE, Dm.fR, if_neg h0, t1, t2, if_neg g']

set_option maxHeartbeats 400000 in
theorem number_any (B R : Bool) (sv : Value) (x : Int) (hsv : ∃ ao n c, sv = .slice ao n c) (q : Nat) (y : Int) (w : World) (hq : (q : Int) ≤ 1000000000000000000) (hx1 : -200 ≤ y) (hx2 : y ≤ 200) :
    Calls Tryz.prog 109 #[.agg #[.bool B, sv, .int .i64 x, .bool R], .int .u64 (q : Int), .int .i64 y] w fun e w' => e = .returned (.tuple #[.agg #[.int .i64 (Dm.fC (Dm.sg B q) y), .int .i64 (Dm.fE (Dm.sg B q) y)], .int .i64 (Dm.fR (Dm.sg B q) y)]) ∧ Below w.heap.size w w' := by
  obtain ⟨ao, n, cp, rfl⟩ := hsv
  cases B
  · go_enter Tryz.func109, Tryz.ntmps109
    go_wp2_with fail
    refine (trimmed_any (q : Int) y _ (by omega) (by omega) hx1 hx2).mono ?_
    rintro e w1 ⟨rfl, hb⟩
    obtain ⟨hc, hf⟩ := bcell hb
    have hz : w.heap.size + 2 ≤ w1.heap.size := by have := hb.size; simp at this; omega
    have hb0 : Below w.heap.size w w1 := (((Below.refl _ _).alloc (Nat.le_refl _) _).alloc (by simp) _).trans (hb.mono (by simp; omega))
    go_wp2
    exact bodyPost_ret (v := .tuple #[.agg #[.int .i64 (Dm.fC (q : Int) y), .int .i64 (Dm.fE (q : Int) y)], .int .i64 (Dm.fR (q : Int) y)]) (by simp [results, Tryz.results109, go_sem, hc]) rfl ⟨rfl, (hb0.setCell (by simp) _).setCell (by simp) _⟩
  · go_enter Tryz.func109, Tryz.ntmps109
    go_wp2_with fail
    refine (trimmed_any (-(q : Int)) y _ (by omega) (by omega) hx1 hx2).mono ?_
    rintro e w1 ⟨rfl, hb⟩
    obtain ⟨hc, hf⟩ := bcell hb
    have hz : w.heap.size + 2 ≤ w1.heap.size := by have := hb.size; simp at this; omega
    have hb0 : Below w.heap.size w w1 := (((Below.refl _ _).alloc (Nat.le_refl _) _).alloc (by simp) _).trans (hb.mono (by simp; omega))
    go_wp2
    exact bodyPost_ret (v := .tuple #[.agg #[.int .i64 (Dm.fC (-(q : Int)) y), .int .i64 (Dm.fE (-(q : Int)) y)], .int .i64 (Dm.fR (-(q : Int)) y)]) (by simp [results, Tryz.results109, go_sem, hc]) rfl ⟨rfl, (hb0.setCell (by simp) _).setCell (by simp) _⟩

end Go.Proofs.YtdkgapapdjefdaaGreatDoor
