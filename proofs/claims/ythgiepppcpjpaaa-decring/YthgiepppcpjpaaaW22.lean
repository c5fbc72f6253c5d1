/- Walks: quotient. -/
import Derived.Test.YthgiepppcpjpaaaW20
namespace Go.Proofs.Ythgiepppcpjpaaa
open Go.RowKit

theorem rowL_snoc (D : Nat → Nat) (n d : Nat) : rowL D n ++ [Value.int .u8 (d : Int)] = rowL (Dm.upd D n d) (n + 1) := by
  have e : [Value.int .u8 (d : Int)] = rowL (fun _ => d) 1 := rfl
  rw [e, rowL_append]
  refine rowL_congr fun j hj => ?_
  by_cases h : j < n
  · rw [if_pos h, Dm.upd_other (by omega)]
  · rw [if_neg h, show j = n by omega, Dm.upd_same]
theorem quo_step {D : Nat → Nat} {n d r r' N P k : Nat} (h : Dm.val D n * N + r = P * 10 ^ k) (hd : r * 10 / N = d) (hr : r * 10 % N = r') : Dm.val (Dm.upd D n d) (n + 1) * N + r' = P * 10 ^ (k + 1) := by
  rw [Dm.val, Dm.upd_same, Dm.val_congr (E := D) n (fun j hj => Dm.upd_other (by omega)), Dm.p10_succ]
  have e := Nat.div_add_mod (r * 10) N
  rw [hd, hr, Nat.mul_comm] at e
  rw [Nat.add_mul, Nat.mul_right_comm, show P * (10 * 10 ^ k) = P * 10 ^ k * 10 by rw [Nat.mul_comm 10, Nat.mul_assoc], ← h, Nat.add_mul]
  omega
theorem quo_first {a N : Nat} (ha : a < 1000000000000000000) : Dm.val (Dm.pd (a / N) 18) 18 * N + a % N = a * 10 ^ 0 := by
  have : a / N ≤ a := Nat.div_le_self _ _
  rw [Dm.val_pd (by omega)]
  have := Nat.div_add_mod a N
  rw [Nat.mul_comm] at this
  omega

set_option maxHeartbeats 1000000 in
theorem quotient_any (c1 x1 c2 x2 : Int) (w : World) (a1 : -1000000000000000000 < c1) (a2 : c1 < 1000000000000000000) (a3 : -40 ≤ x1) (a4 : x1 ≤ 40)
    (b1 : -1000000000000000000 < c2) (b2 : c2 < 1000000000000000000) (b3 : -40 ≤ x2) (b4 : x2 ≤ 40) (b0 : c2 ≠ 0) :
    Calls Try.prog 25 #[.agg #[.int .i64 c1, .int .i64 x1], .agg #[.int .i64 c2, .int .i64 x2]] w fun e w' => ∃ (g cap r : Nat) (D : Nat → Nat), e = .returned (.agg #[.bool (!(decide (c1 < 0) == decide (c2 < 0))), .slice (some ⟨g, 0, none⟩) 58 cap, .int .i64 (x1 - x2 - 40), .bool ((r : Int) != 0)]) ∧ 58 ≤ cap ∧ DS w' g 0 58 D ∧ Dm.val D 58 * c2.natAbs + r = c1.natAbs * 10 ^ 40 ∧ r < c2.natAbs ∧ Below w.heap.size w w' := by
  have SA := hide (fun wx => size_any c1 x1 wx a1 a2)
  have SB := hide (fun wx => size_any c2 x2 wx b1 b2)
  obtain ⟨i0, hi, hz0, hz1, hz2⟩ := info_parts info_u8
  have I0 := hide hi
  have I1 := hide hz0
  have I2 := hide hz1
  have I3 := hide hz2
  have n1 : c1.natAbs < 1000000000000000000 := by omega
  have n2 : c2.natAbs < 1000000000000000000 := by omega
  have n3 : 1 ≤ c2.natAbs := by omega
  clear hi hz0 hz1 hz2 b0
  go_enter Try.func25, Try.ntmps25
  go_upto_region 1 with fail
  go_cut [5, 6] from 8 (fun a b wc => a = .int .u64 (c1.natAbs : Int) ∧ b = .int .u64 (c2.natAbs : Int) ∧ Hid (Below (((w.alloc (.cells #[.int .i64 c1, .int .i64 x1] 23)).alloc (.cells #[.int .i64 c2, .int .i64 x2] 23)).alloc (.cells #[.bool false, .slice none 0 0, .int .i64 0, .bool false] 42)).heap.size (((w.alloc (.cells #[.int .i64 c1, .int .i64 x1] 23)).alloc (.cells #[.int .i64 c2, .int .i64 x2] 23)).alloc (.cells #[.bool false, .slice none 0 0, .int .i64 0, .bool false] 42)) wc))
  case first =>
    have f0 := frac3 (Below.refl (((w.alloc (.cells #[.int .i64 c1, .int .i64 x1] 23)).alloc (.cells #[.int .i64 c2, .int .i64 x2] 23)).alloc (.cells #[.bool false, .slice none 0 0, .int .i64 0, .bool false] 42)).heap.size (((w.alloc (.cells #[.int .i64 c1, .int .i64 x1] 23)).alloc (.cells #[.int .i64 c2, .int .i64 x2] 23)).alloc (.cells #[.bool false, .slice none 0 0, .int .i64 0, .bool false] 42)))
    obtain ⟨t0, t1, t2, t3, _⟩ := f0
    go_region_held2 (fun w' => w'.cell? ⟨w.heap.size, 0, none⟩ = some (.int .i64 c1) ∧ w'.cell? ⟨w.heap.size, 1, none⟩ = some (.int .i64 x1) ∧ w'.cell? ⟨w.heap.size + 1, 0, none⟩ = some (.int .i64 c2) ∧ w'.cell? ⟨w.heap.size + 1, 1, none⟩ = some (.int .i64 x2)) (go_keep) (first
      | (go_at_call_of 27 (Value.int IntKind.i64 c1); refine (unhide SA _).mono ?_; rintro e w1 ⟨rfl, hb1⟩; have hb1 := (Below.refl _ _).drew.trans hb1; obtain ⟨t0', t1', t2', t3', _⟩ := frac3 hb1)
      | (go_at_call_of 27 (Value.int IntKind.i64 c2); refine (unhide SB _).mono ?_; rintro e w2 ⟨rfl, hb2⟩; have hb2 := hb1.trans (hb2.mono hb1.size); obtain ⟨t0'', t1'', t2'', t3'', _⟩ := frac3 hb2))
    all_goals
      go_wp2_with fail
      go_meet
      case rel => exact ⟨rfl, rfl, hide hb2⟩
  case rest =>
    obtain ⟨rfl, rfl, HB⟩ := hcut
    have V0 := hide (quo_first (a := c1.natAbs) (N := c2.natAbs) n1)
    have E1 := Int.natCast_ediv c1.natAbs c2.natAbs
    have E2 := Int.natCast_emod c1.natAbs c2.natAbs
    have l1 : c1.natAbs / c2.natAbs ≤ c1.natAbs := Nat.div_le_self _ _
    have l2 : c1.natAbs % c2.natAbs < c2.natAbs := Nat.mod_lt _ n3
    generalize c1.natAbs / c2.natAbs = k0 at *
    generalize c1.natAbs % c2.natAbs = r0 at *
    generalize hA : c1.natAbs = N1 at *
    generalize hB : c2.natAbs = N2 at *
    have HA := hide hA
    have HC := hide hB
    have e1 := E1.symm
    have e2 := E2.symm
    clear hA hB E1 E2
    go_wp2_with fail
    refine (padded_any k0 18 _ (by omega) (by omega)).mono ?_
    rintro e w5 ⟨rfl, own5, hb5⟩
    have HB5 := hide ((unhide HB).trans (hb5.mono (unhide HB).size))
    have bs : wc.heap.size ≤ w5.heap.size := hb5.size
    have W0s := hide (unhide HB).size
    clear hb5
    go_wp2
    have eL : Value.int IntKind.u64 ((N1 : Int) % (N2 : Int)) = .int .u64 (r0 : Int) := by rw [e2]
    rw [eL]
    have O5 := hide own5
    clear eL own5 e1 e2
    go_loopw [5, 7, 19] (fun a v i wr => ∃ (k r : Nat) (D : Nat → Nat), k ≤ 40 ∧ i = .int .i64 (k : Int) ∧ a = .int .u64 (r : Int) ∧ r < N2 ∧ Hid (wr.ownsRow wc.heap.size 5 1 v (18 + k) (rowL D (18 + k))) ∧ Hid (∀ j, D j < 10) ∧ Hid (Dm.val D (18 + k) * N2 + r = N1 * 10 ^ k) ∧ Hid (Below (((w.alloc (.cells #[.int .i64 c1, .int .i64 x1] 23)).alloc (.cells #[.int .i64 c2, .int .i64 x2] 23)).alloc (.cells #[.bool false, .slice none 0 0, .int .i64 0, .bool false] 42)).heap.size (((w.alloc (.cells #[.int .i64 c1, .int .i64 x1] 23)).alloc (.cells #[.int .i64 c2, .int .i64 x2] 23)).alloc (.cells #[.bool false, .slice none 0 0, .int .i64 0, .bool false] 42)) wr) ∧ wc.heap.size ≤ wr.heap.size) (fun _ _ i _ => 40 - (intOf i).toNat)
    case atStart => exact ⟨0, r0, _, by omega, rfl, rfl, l2, O5, hide (Dm.pd_lt _ _), V0, HB5, bs⟩
    case round =>
      obtain ⟨k, r, D, hk, rfl, rfl, hr, O, HD, HV, HBr, bsr⟩ := hrel
      clear O5 V0 HB5 bs
      by_cases hlt : k < 40
      · obtain ⟨d, hd⟩ : ∃ d, r * 10 / N2 = d := ⟨_, rfl⟩
        obtain ⟨r', hr'⟩ : ∃ r', r * 10 % N2 = r' := ⟨_, rfl⟩
        have d9 : d < 10 := by rw [← hd]; exact Nat.div_lt_of_lt_mul (by omega)
        have rr : r' < N2 := by rw [← hr']; exact Nat.mod_lt _ n3
        have e1 : (r : Int) * 10 / (N2 : Int) = (d : Int) := by rw [← hd, Int.natCast_ediv, Int.natCast_mul]; rfl
        have e2 : (r : Int) * 10 % (N2 : Int) = (r' : Int) := by rw [← hr', Int.natCast_emod, Int.natCast_mul]; rfl
        have HV2 := hide (quo_step (unhide HV) hd hr')
        have HD2 := hide (Dm.upd_lt (unhide HD) d9 (18 + k))
        have m1 : Hid (18 + k + 1 ≤ maxLen) := hide (by unfold maxLen; omega)
        clear hd hr' HV HD
        go_wp2_with (at_builtin; refine wpList_append_own _ rfl _ _ 40 rfl wc.heap.size 5 i0 (.int .u8 0) 1 1 Try.underlying40 (unhide I0) (unhide I1) (unhide I2) (unhide I3) rfl (by decide) _ _ _ rfl ((unhide O).alloc _) ⟨wr.heap.size, 0, none⟩ 1 1 [.int .u8 (d : Int)] rfl rfl ?c1 ?c2 (unhide m1) ?c4 ?c5 ?_)
        case c1 => exact cell_one_new _ _ _
        case c2 => intro u hu; simp at hu; subst hu; rfl
        case c4 => omega
        case c5 => simp; omega
        intro v' w1 own' hgrow _
        rw [rowL_snoc] at own'
        have O1 := hide own'
        have HB1 := hide (((unhide HBr).alloc (unhide HBr).size _).grown hgrow (Nat.le_trans (unhide HBr).size (by simp)) (fun j hj => Nat.le_trans (unhide W0s) ((unhide O).lt j hj).1))
        have bs1 : wc.heap.size ≤ w1.heap.size := Nat.le_trans bsr (Nat.le_trans (by simp) hgrow.size)
        clear own' hgrow HBr O m1
        go_wp2
        go_roundw
        case rel => exact ⟨k + 1, r', _, by omega, by go_num, by rw [e2], rr, O1, HD2, HV2, HB1, bs1⟩
        case measure => simp [intOf]; omega
      · have hk4 : k = 40 := by omega
        subst hk4
        obtain ⟨g, cap, hv, hcap, hgb⟩ := own_shape (unhide O) (by omega)
        have D7 := unhide O
        rw [hv] at D7 ⊢
        have D8 := hide (DS.own D7 (unhide HD) (by omega))
        obtain ⟨t0, t1, t2, t3, q0, q1, q2, q3, f0, f1, f2, f3, hsz, hbw⟩ := frac3 (unhide HBr)
        have hs4 : w.heap.size + 1 + 1 + 1 ≤ wc.heap.size := by have := unhide W0s; simp at this; omega
        clear hv D7 O
        go_wp2
        refine bodyPost_ret (v := .agg #[.bool (!(decide (c1 < 0) == decide (c2 < 0))), .slice (some ⟨g, 0, none⟩) 58 cap, .int .i64 (x1 - x2 - 40), .bool ((r : Int) != 0)]) (by simp [results, Try.results25, go_sem, q0, q1, q2, q3]) rfl ?_
        refine ⟨g, cap, r, D, rfl, hcap, ((((unhide D8).setCell (by simp; omega) _).setCell (by simp; omega) _).setCell (by simp; omega) _).setCell (by simp; omega) _, ?_, ?_, (((hbw.setCell (by simp; omega) _).setCell (by simp; omega) _).setCell (by simp; omega) _).setCell (by simp; omega) _⟩
        · rw [unhide HA, unhide HC]; exact unhide HV
        · rw [unhide HC]; exact hr
end Go.Proofs.Ythgiepppcpjpaaa
