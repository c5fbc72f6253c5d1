/- Walks: product. -/
import Derived.Test.YtdkgapapdjefdaaGreatDoorG14
import Derived.Test.YtdkgapapdjefdaaGreatDoorG13
import Derived.Deep.RegionHeld2
namespace Go.Proofs.YtdkgapapdjefdaaGreatDoor
open Go.RowKit

theorem own_below {w w' : World} {base e size n : Nat} {v : Value} {xs : List Value} (h : w.ownsRow base e size v n xs) (hb : Below w.heap.size w w') : w'.ownsRow base e size v n xs := by
  refine ⟨h.1, ?_⟩
  rcases h.2 with hn | ⟨g, cap, cur, rfl, hbs, hg, rest⟩
  · exact .inl hn
  · refine .inr ⟨g, cap, cur, rfl, hbs, ?_, rest⟩
    rw [hb.block g (Array.getElem?_eq_some_iff.1 hg).1]
    exact hg
theorem rowL_append (D E : Nat → Nat) (n m : Nat) : rowL D n ++ rowL E m = rowL (fun j => if j < n then D j else E (j - n)) (n + m) := by
  apply List.ext_getElem?
  intro j
  by_cases h : j < n
  · rw [List.getElem?_append_left (by rw [rowL_len]; exact h), rowL_at _ h, rowL_at _ (by omega), if_pos h]
  · rw [List.getElem?_append_right (by rw [rowL_len]; omega), rowL_len]
    by_cases g : j < n + m
    · rw [rowL_at _ (by omega), rowL_at _ g, if_neg h]
    · rw [List.getElem?_eq_none (by rw [rowL_len]; omega), List.getElem?_eq_none (by rw [rowL_len]; omega)]
theorem rowL_one (D : Nat → Nat) (n : Nat) : ∀ u ∈ rowL D n, u.oneCell' = true := by
  intro u hu
  obtain ⟨_, _, rfl⟩ := List.mem_map.1 hu
  rfl
theorem rowL_cells {w : World} {b off n : Nat} {D : Nat → Nat} (h : DS w b off n D) : ∀ j u, (rowL D n)[j]? = some u → w.cell? ((⟨b, off, none⟩ : Addr).add j) = some u := by
  intro j u hu
  have hj : j < n := by have := (List.getElem?_eq_some_iff.1 hu).1; rw [rowL_len] at this; exact this
  rw [rowL_at D hj] at hu
  rw [Addr.add_lit, h.cell j hj]
  exact hu
/-- an owned row is a slice at the head of a block -/
theorem own_shape {w : World} {base e n : Nat} {v : Value} {xs : List Value} (h : w.ownsRow base e 1 v n xs) (hn : 0 < n) : ∃ g cap, v = .slice (some ⟨g, 0, none⟩) n cap ∧ n ≤ cap ∧ base ≤ g := by
  rcases h.2 with ⟨_, h0⟩ | ⟨g, cap, cur, rfl, hb, _, hc, _⟩
  · omega
  · exact ⟨g, cap, rfl, hc, hb⟩

theorem frac3 {w w3 : World} {c1 x1 c2 x2 : Int}
    (hb : Below (((w.alloc (.cells #[.int .i64 c1, .int .i64 x1] 24)).alloc (.cells #[.int .i64 c2, .int .i64 x2] 24)).alloc (.cells #[.bool false, .slice none 0 0, .int .i64 0, .bool false] 112)).heap.size (((w.alloc (.cells #[.int .i64 c1, .int .i64 x1] 24)).alloc (.cells #[.int .i64 c2, .int .i64 x2] 24)).alloc (.cells #[.bool false, .slice none 0 0, .int .i64 0, .bool false] 112)) w3) :
    w3.cell? ⟨w.heap.size, 0, none⟩ = some (.int .i64 c1) ∧ w3.cell? ⟨w.heap.size, 1, none⟩ = some (.int .i64 x1) ∧ w3.cell? ⟨w.heap.size + 1, 0, none⟩ = some (.int .i64 c2) ∧ w3.cell? ⟨w.heap.size + 1, 1, none⟩ = some (.int .i64 x2) ∧
    w3.cell? ⟨w.heap.size + 1 + 1, 0, none⟩ = some (.bool false) ∧ w3.cell? ⟨w.heap.size + 1 + 1, 1, none⟩ = some (.slice none 0 0) ∧ w3.cell? ⟨w.heap.size + 1 + 1, 2, none⟩ = some (.int .i64 0) ∧ w3.cell? ⟨w.heap.size + 1 + 1, 3, none⟩ = some (.bool false) ∧
    w3.frozen? ⟨w.heap.size + 1 + 1, 0, none⟩ = false ∧ w3.frozen? ⟨w.heap.size + 1 + 1, 1, none⟩ = false ∧ w3.frozen? ⟨w.heap.size + 1 + 1, 2, none⟩ = false ∧ w3.frozen? ⟨w.heap.size + 1 + 1, 3, none⟩ = false ∧ w.heap.size + 3 ≤ w3.heap.size ∧ Below w.heap.size w w3 := by
  obtain ⟨hc, hf⟩ := bcell hb
  have s := hb.size
  simp at s
  have hw : Below w.heap.size w (((w.alloc (.cells #[.int .i64 c1, .int .i64 x1] 24)).alloc (.cells #[.int .i64 c2, .int .i64 x2] 24)).alloc (.cells #[.bool false, .slice none 0 0, .int .i64 0, .bool false] 112)) := (((Below.refl w.heap.size w).alloc (Nat.le_refl _) _).alloc (by simp) _).alloc (by simp; omega) _
  refine ⟨?_, ?_, ?_, ?_, ?_, ?_, ?_, ?_, ?_, ?_, ?_, ?_, by omega, hw.trans (hb.mono (by simp; omega))⟩
  all_goals first | (rw [hc _ _ (by simp <;> omega)]; simp [go_sem]; done) | (rw [hf _ _ (by simp <;> omega)]; simp [go_sem]; done)

theorem prod_facts (a b : Nat) (ha : a < 1000000000000000000) (hb : b < 1000000000000000000) :
    ∃ h l : Nat, a * b / 18446744073709551616 = h ∧ a * b % 18446744073709551616 = l ∧ h < 60000000000000000 ∧ l < 18446744073709551616 ∧ dq h l < 1000000000000000000 ∧ dr h l < 1000000000000000000 ∧ dq h l * 1000000000000000000 + dr h l = a * b := by
  have m : a * b ≤ 999999999999999999 * 999999999999999999 := Nat.mul_le_mul (by omega) (by omega)
  refine ⟨_, _, rfl, rfl, ?_⟩
  unfold dq dr
  generalize a * b = P at *
  omega

theorem prod_dig (up lo : Nat) : ∀ j, (if j < 18 then Dm.pd up 18 j else Dm.pd lo 18 (j - 18)) < 10 := by
  intro j
  split
  · exact Dm.pd_lt _ _ _
  · exact Dm.pd_lt _ _ _
theorem prod_val {up lo : Nat} (hu : up < 1000000000000000000) (hl : lo < 1000000000000000000) : Dm.val (fun j => if j < 18 then Dm.pd up 18 j else Dm.pd lo 18 (j - 18)) 36 = up * 1000000000000000000 + lo := by
  have e := Dm.val_drop (fun j => if j < 18 then Dm.pd up 18 j else Dm.pd lo 18 (j - 18)) 18 18
  have e1 : Dm.val (fun j => if j < 18 then Dm.pd up 18 j else Dm.pd lo 18 (j - 18)) 18 = Dm.val (Dm.pd up 18) 18 := Dm.val_congr 18 (fun j hj => by simp only [if_pos hj])
  have e2 : Dm.val (fun j => if 18 + j < 18 then Dm.pd up 18 (18 + j) else Dm.pd lo 18 (18 + j - 18)) 18 = Dm.val (Dm.pd lo 18) 18 := Dm.val_congr 18 (fun j _ => by simp only [if_neg (show ¬ 18 + j < 18 by omega), Nat.add_sub_cancel_left])
  rw [e1, e2, Dm.val_pd (by omega), Dm.val_pd (by omega)] at e
  omega
end Go.Proofs.YtdkgapapdjefdaaGreatDoor

/- Walks: quotient. -/
namespace Go.Proofs.YtdkgapapdjefdaaGreatDoor
open Go.RowKit

theorem rowL_snoc (D : Nat → Nat) (n d : Nat) : rowL D n ++ [Value.int .u8 (d : Int)] = rowL (Dm.upd D n d) (n + 1) := by
  have e : [Value.int .u8 (d : Int)] = rowL (fun _ => d) 1 := rfl
  rw [e, rowL_append]
  refine rowL_congr fun j hj => ?_
  by_cases h : j < n
  · rw [if_pos h, Dm.upd_other (by omega)]
  · rw [if_neg h, show j = n by omega, Dm.upd_same]
theorem quo_step {D : Nat → Nat} {n d r r' N P k : Nat} (h : Dm.val D n * N + r = P * 10 ^ k) (hd : r * 10 / N = d) (hr : r * 10 % N = r') : Dm.val (Dm.upd D n d) (n + 1) * N + r' = P * 10 ^ (k + 1) := by
  rw [Dm.val, Dm.upd_same, Dm.val_congr (E := D) n (fun j hj => Dm.upd_other (by omega)), Dm.p10_succ]
  have e := Nat.div_add_mod (r * 10) N
  rw [hd, hr, Nat.mul_comm] at e
  rw [Nat.add_mul, Nat.mul_right_comm, show P * (10 * 10 ^ k) = P * 10 ^ k * 10 by rw [Nat.mul_comm 10, Nat.mul_assoc], ← h, Nat.add_mul]
  omega
theorem quo_first {a N : Nat} (ha : a < 1000000000000000000) : Dm.val (Dm.pd (a / N) 18) 18 * N + a % N = a * 10 ^ 0 := by
  have : a / N ≤ a := Nat.div_le_self _ _
  rw [Dm.val_pd (by omega)]
  have := Nat.div_add_mod a N
  rw [Nat.mul_comm] at this
  omega

set_option maxRecDepth 100000 in
set_option maxHeartbeats 1000000 in
theorem quotient_any (c1 x1 c2 x2 : Int) (w : World) (a1 : -1000000000000000000 < c1) (a2 : c1 < 1000000000000000000) (a3 : -40 ≤ x1) (a4 : x1 ≤ 40)
    (b1 : -1000000000000000000 < c2) (b2 : c2 < 1000000000000000000) (b3 : -40 ≤ x2) (b4 : x2 ≤ 40) (b0 : c2 ≠ 0) :
    Calls Tryz.prog 111 #[.agg #[.int .i64 c1, .int .i64 x1], .agg #[.int .i64 c2, .int .i64 x2]] w fun e w' => ∃ (g cap r : Nat) (D : Nat → Nat), e = .returned (.agg #[.bool (!(decide (c1 < 0) == decide (c2 < 0))), .slice (some ⟨g, 0, none⟩) 58 cap, .int .i64 (x1 - x2 - 40), .bool ((r : Int) != 0)]) ∧ 58 ≤ cap ∧ DS w' g 0 58 D ∧ Dm.val D 58 * c2.natAbs + r = c1.natAbs * 10 ^ 40 ∧ r < c2.natAbs ∧ Below w.heap.size w w' := by
  have SA := hide (fun wx => size_any c1 x1 wx a1 a2)
  have SB := hide (fun wx => size_any c2 x2 wx b1 b2)
  obtain ⟨i0, hi, hz0, hz1, hz2⟩ := info_parts info_u8
  have I0 := hide hi
  have I1 := hide hz0
  have I2 := hide hz1
  have I3 := hide hz2
  have n1 : c1.natAbs < 1000000000000000000 := by omega
  have n2 : c2.natAbs < 1000000000000000000 := by omega
  have n3 : 1 ≤ c2.natAbs := by omega
  clear hi hz0 hz1 hz2 b0
  go_enter Tryz.func111, Tryz.ntmps111
  go_upto_region 1 with fail
  go_cut [5, 6] from 8 (fun a b wc => a = .int .u64 (c1.natAbs : Int) ∧ b = .int .u64 (c2.natAbs : Int) ∧ Hid (Below (((w.alloc (.cells #[.int .i64 c1, .int .i64 x1] 24)).alloc (.cells #[.int .i64 c2, .int .i64 x2] 24)).alloc (.cells #[.bool false, .slice none 0 0, .int .i64 0, .bool false] 112)).heap.size (((w.alloc (.cells #[.int .i64 c1, .int .i64 x1] 24)).alloc (.cells #[.int .i64 c2, .int .i64 x2] 24)).alloc (.cells #[.bool false, .slice none 0 0, .int .i64 0, .bool false] 112)) wc))
  case first =>
    have f0 := frac3 (Below.refl (((w.alloc (.cells #[.int .i64 c1, .int .i64 x1] 24)).alloc (.cells #[.int .i64 c2, .int .i64 x2] 24)).alloc (.cells #[.bool false, .slice none 0 0, .int .i64 0, .bool false] 112)).heap.size (((w.alloc (.cells #[.int .i64 c1, .int .i64 x1] 24)).alloc (.cells #[.int .i64 c2, .int .i64 x2] 24)).alloc (.cells #[.bool false, .slice none 0 0, .int .i64 0, .bool false] 112)))
    obtain ⟨t0, t1, t2, t3, _⟩ := f0
    go_region_held2 (fun w' => w'.cell? ⟨w.heap.size, 0, none⟩ = some (.int .i64 c1) ∧ w'.cell? ⟨w.heap.size, 1, none⟩ = some (.int .i64 x1) ∧ w'.cell? ⟨w.heap.size + 1, 0, none⟩ = some (.int .i64 c2) ∧ w'.cell? ⟨w.heap.size + 1, 1, none⟩ = some (.int .i64 x2)) (go_keep) (first
      | (go_at_call_of 131 (Value.int IntKind.i64 c1); refine (unhide SA _).mono ?_; rintro e w1 ⟨rfl, hb1⟩; have hb1 := (Below.refl _ _).drew.trans hb1; obtain ⟨t0', t1', t2', t3', _⟩ := frac3 hb1)
      | (go_at_call_of 131 (Value.int IntKind.i64 c2); refine (unhide SB _).mono ?_; rintro e w2 ⟨rfl, hb2⟩; have hb2 := hb1.trans (hb2.mono hb1.size); obtain ⟨t0'', t1'', t2'', t3'', _⟩ := frac3 hb2))
    all_goals
      go_wp2_with fail
      go_meet
      case rel => exact ⟨rfl, rfl, hide hb2⟩
  case rest =>
    obtain ⟨rfl, rfl, HB⟩ := hcut
    have V0 := hide (quo_first (a := c1.natAbs) (N := c2.natAbs) n1)
    have E1 := Int.natCast_ediv c1.natAbs c2.natAbs
    have E2 := Int.natCast_emod c1.natAbs c2.natAbs
    have l1 : c1.natAbs / c2.natAbs ≤ c1.natAbs := Nat.div_le_self _ _
    have l2 : c1.natAbs % c2.natAbs < c2.natAbs := Nat.mod_lt _ n3
    generalize c1.natAbs / c2.natAbs = k0 at *
    generalize c1.natAbs % c2.natAbs = r0 at *
    generalize hA : c1.natAbs = N1 at *
    generalize hB : c2.natAbs = N2 at *
    have HA := hide hA
    have HC := hide hB
    have e1 := E1.symm
    have e2 := E2.symm
    clear hA hB E1 E2
    go_wp2_with fail
    refine (padded_any k0 18 _ (by omega) (by omega)).mono ?_
    rintro e w5 ⟨rfl, own5, hb5⟩
    have HB5 := hide ((unhide HB).trans (hb5.mono (unhide HB).size))
    have bs : wc.heap.size ≤ w5.heap.size := hb5.size
    have W0s := hide (unhide HB).size
    clear hb5
    go_wp2
    have eL : Value.int IntKind.u64 ((N1 : Int) % (N2 : Int)) = .int .u64 (r0 : Int) := by rw [e2]
    rw [eL]
    have O5 := hide own5
    clear eL own5 e1 e2
    go_loopw [5, 7, 19] (fun a v i wr => ∃ (k r : Nat) (D : Nat → Nat), k ≤ 40 ∧ i = .int .i64 (k : Int) ∧ a = .int .u64 (r : Int) ∧ r < N2 ∧ Hid (wr.ownsRow wc.heap.size 5 1 v (18 + k) (rowL D (18 + k))) ∧ Hid (∀ j, D j < 10) ∧ Hid (Dm.val D (18 + k) * N2 + r = N1 * 10 ^ k) ∧ Hid (Below (((w.alloc (.cells #[.int .i64 c1, .int .i64 x1] 24)).alloc (.cells #[.int .i64 c2, .int .i64 x2] 24)).alloc (.cells #[.bool false, .slice none 0 0, .int .i64 0, .bool false] 112)).heap.size (((w.alloc (.cells #[.int .i64 c1, .int .i64 x1] 24)).alloc (.cells #[.int .i64 c2, .int .i64 x2] 24)).alloc (.cells #[.bool false, .slice none 0 0, .int .i64 0, .bool false] 112)) wr) ∧ wc.heap.size ≤ wr.heap.size) (fun _ _ i _ => 40 - (intOf i).toNat)
    case atStart => exact ⟨0, r0, _, by omega, rfl, rfl, l2, O5, hide (Dm.pd_lt _ _), V0, HB5, bs⟩
    case round =>
      obtain ⟨k, r, D, hk, rfl, rfl, hr, O, HD, HV, HBr, bsr⟩ := hrel
      clear O5 V0 HB5 bs
      by_cases hlt : k < 40
      · obtain ⟨d, hd⟩ : ∃ d, r * 10 / N2 = d := ⟨_, rfl⟩
        obtain ⟨r', hr'⟩ : ∃ r', r * 10 % N2 = r' := ⟨_, rfl⟩
        have d9 : d < 10 := by rw [← hd]; exact Nat.div_lt_of_lt_mul (by omega)
        have rr : r' < N2 := by rw [← hr']; exact Nat.mod_lt _ n3
        have e1 : (r : Int) * 10 / (N2 : Int) = (d : Int) := by rw [← hd, Int.natCast_ediv, Int.natCast_mul]; rfl
        have e2 : (r : Int) * 10 % (N2 : Int) = (r' : Int) := by rw [← hr', Int.natCast_emod, Int.natCast_mul]; rfl
        have HV2 := hide (quo_step (unhide HV) hd hr')
        have HD2 := hide (Dm.upd_lt (unhide HD) d9 (18 + k))
        have m1 : Hid (18 + k + 1 ≤ maxLen) := hide (by unfold maxLen; omega)
        clear hd hr' HV HD
        go_wp2_with (at_builtin; refine wpList_append_own _ rfl _ _ 110 rfl wc.heap.size 5 i0 (.int .u8 0) 1 1 Tryz.underlying110 (unhide I0) (unhide I1) (unhide I2) (unhide I3) rfl (by decide) _ _ _ rfl ((unhide O).alloc _) ⟨wr.heap.size, 0, none⟩ 1 1 [.int .u8 (d : Int)] rfl rfl ?c1 ?c2 (unhide m1) ?c4 ?c5 ?_)
        case c1 => exact cell_one_new _ _ _
        case c2 => intro u hu; simp at hu; subst hu; rfl
        case c4 => omega
        case c5 => simp; omega
        intro v' w1 own' hgrow _
        rw [rowL_snoc] at own'
        have O1 := hide own'
        have HB1 := hide (((unhide HBr).alloc (unhide HBr).size _).grown hgrow (Nat.le_trans (unhide HBr).size (by simp)) (fun j hj => Nat.le_trans (unhide W0s) ((unhide O).lt j hj).1))
        have bs1 : wc.heap.size ≤ w1.heap.size := Nat.le_trans bsr (Nat.le_trans (by simp) hgrow.size)
        clear own' hgrow HBr O m1
        go_wp2
        go_roundw
        case rel => exact ⟨k + 1, r', _, by omega, by go_num, by rw [e2], rr, O1, HD2, HV2, HB1, bs1⟩
        case measure => simp [intOf]; omega
      · have hk4 : k = 40 := by omega
        subst hk4
        obtain ⟨g, cap, hv, hcap, hgb⟩ := own_shape (unhide O) (by omega)
        have D7 := unhide O
        rw [hv] at D7 ⊢
        have D8 := hide (DS.own D7 (unhide HD) (by omega))
        obtain ⟨t0, t1, t2, t3, q0, q1, q2, q3, f0, f1, f2, f3, hsz, hbw⟩ := frac3 (unhide HBr)
        have hs4 : w.heap.size + 1 + 1 + 1 ≤ wc.heap.size := by have := unhide W0s; simp at this; omega
        clear hv D7 O
        go_wp2
        refine bodyPost_ret (v := .agg #[.bool (!(decide (c1 < 0) == decide (c2 < 0))), .slice (some ⟨g, 0, none⟩) 58 cap, .int .i64 (x1 - x2 - 40), .bool ((r : Int) != 0)]) (by simp [results, Tryz.results111, go_sem, q0, q1, q2, q3]) rfl ?_
        refine ⟨g, cap, r, D, rfl, hcap, ((((unhide D8).setCell (by simp; omega) _).setCell (by simp; omega) _).setCell (by simp; omega) _).setCell (by simp; omega) _, ?_, ?_, (((hbw.setCell (by simp; omega) _).setCell (by simp; omega) _).setCell (by simp; omega) _).setCell (by simp; omega) _⟩
        · rw [unhide HA, unhide HC]; exact unhide HV
        · rw [unhide HC]; exact hr
end Go.Proofs.YtdkgapapdjefdaaGreatDoor

/- Walks: Div. -/
namespace Go.Proofs.YtdkgapapdjefdaaGreatDoor
open Go.RowKit

/-- what is ntold of the digits N, of which perhaps more follow, times 10^x -/
def toldB (B : Bool) (N : Nat) (x : Int) (R : Bool) : Ending := .returned (.tuple #[.agg #[.int .i64 (Dm.fC (Dm.sg B (Dm.nQ N x R)) (Dm.nE N x)), .int .i64 (Dm.fE (Dm.sg B (Dm.nQ N x R)) (Dm.nE N x))], .int .i64 (Dm.fR (Dm.sg B (Dm.nQ N x R)) (Dm.nE N x))])

set_option maxHeartbeats 400000 in
theorem div_no (c1 x1 c2 x2 : Int) (w : World) (h : (Dm.wrong2 c1 x1 c2 x2 != 0) = true) :
    Calls Tryz.prog 72 #[.agg #[.int .i64 c1, .int .i64 x1], .agg #[.int .i64 c2, .int .i64 x2]] w fun e w' => e = .returned (.tuple #[.agg #[.int .i64 0, .int .i64 0], .int .i64 (Dm.wrong2 c1 x1 c2 x2)]) ∧ Below w.heap.size w w' := by
  go_enter Tryz.func72, Tryz.ntmps72
  go_wp2_with fail
  refine (wrongOf_any c1 x1 c2 x2 _).mono ?_
  rintro e w1 ⟨rfl, hb⟩
  obtain ⟨t0, t1, t2, t3, t4, t5, f0, f1, hz, hbw⟩ := three_cells hb
  go_wp2
  exact bodyPost_ret (v := .tuple #[.agg #[.int .i64 0, .int .i64 0], .int .i64 (Dm.wrong2 c1 x1 c2 x2)]) (by simp [results, Tryz.results72, go_sem, t4, t5]) rfl ⟨rfl, (hbw.setCell (by simp; omega) _).setCell (by simp; omega) _⟩

set_option maxHeartbeats 400000 in
theorem div_zero (c1 x1 x2 : Int) (w : World) (h1 : Dm.wrongN c1 x1 = 0) (h2 : Dm.wrongN 0 x2 = 0) :
    Calls Tryz.prog 72 #[.agg #[.int .i64 c1, .int .i64 x1], .agg #[.int .i64 0, .int .i64 x2]] w fun e w' => e = .returned (.tuple #[.agg #[.int .i64 0, .int .i64 0], .int .i64 10]) ∧ Below w.heap.size w w' := by
  have H := hide ((Dm.wrong2_ok h1 0 x2).trans h2)
  clear h1 h2
  go_enter Tryz.func72, Tryz.ntmps72
  go_wp2_with fail
  refine (wrongOf_any c1 x1 0 x2 _).mono ?_
  rintro e w1 ⟨rfl, hb⟩
  obtain ⟨t0, t1, t2, t3, t4, t5, f0, f1, hz, hbw⟩ := three_cells hb
  rw [unhide H]
  go_wp2
  exact bodyPost_ret (v := .tuple #[.agg #[.int .i64 0, .int .i64 0], .int .i64 10]) (by simp [results, Tryz.results72, go_sem, t4, t5]) rfl ⟨rfl, (hbw.setCell (by simp; omega) _).setCell (by simp; omega) _⟩

set_option maxHeartbeats 400000 in
theorem div_ok (c1 x1 c2 x2 : Int) (w : World) (h1 : Dm.wrongN c1 x1 = 0) (h2 : Dm.wrongN c2 x2 = 0) (h0 : c2 ≠ 0) :
    Calls Tryz.prog 72 #[.agg #[.int .i64 c1, .int .i64 x1], .agg #[.int .i64 c2, .int .i64 x2]] w fun e w' => ∃ r : Nat, e = toldB (!(decide (c1 < 0) == decide (c2 < 0))) (c1.natAbs * 10 ^ 40 / c2.natAbs) (x1 - x2 - 40) ((r : Int) != 0) ∧ r = c1.natAbs * 10 ^ 40 % c2.natAbs ∧ Below w.heap.size w w' := by
  obtain ⟨p1, p2, p3, p4, _⟩ := Dm.wrong_ok h1
  obtain ⟨q1, q2, q3, q4, _⟩ := Dm.wrong_ok h2
  have H := hide ((Dm.wrong2_ok h1 c2 x2).trans h2)
  have H0 := hide h0
  have n0 : (c2 == 0) = false := by simp [h0]
  clear h1 h2 h0
  go_enter Tryz.func72, Tryz.ntmps72
  go_wp2_with fail
  refine (wrongOf_any c1 x1 c2 x2 _).mono ?_
  rintro e w1 ⟨rfl, hb⟩
  obtain ⟨t0, t1, t2, t3, t4, t5, f0, f1, hz, hbw⟩ := three_cells hb
  rw [unhide H]
  go_wp2_with fail
  refine (quotient_any c1 x1 c2 x2 _ p1 p2 p3 p4 q1 q2 q3 q4 (unhide H0)).mono ?_
  rintro e w2 ⟨g, cap, r, D, rfl, hcap, hD, hv, hr, hb2⟩
  have NZ : Hid (Dm.val D 58 = c1.natAbs * 10 ^ 40 / c2.natAbs ∧ r = c1.natAbs * 10 ^ 40 % c2.natAbs) := hide (by
    rw [← hv, Nat.mul_comm]
    exact ⟨by rw [Nat.mul_add_div (by omega), Nat.div_eq_of_lt hr, Nat.add_zero], by rw [Nat.mul_add_mod, Nat.mod_eq_of_lt hr]⟩)
  have hD' := hide hD
  have hb3 := hb.trans (hb2.mono hb.size)
  clear hv hr hD t0 t1 t2 t3 t4 t5 f0 f1 hz hbw
  generalize hB : (!(decide (c1 < 0) == decide (c2 < 0))) = B at *
  generalize hR : ((r : Int) != 0) = R at *
  have HB := hide hB
  have HR := hide hR
  clear hB hR
  go_wp2_with fail
  refine (dnearest_any B R g 0 58 cap (x1 - x2 - 40) D _ (unhide hD') hcap (by omega) (by omega) (by omega)).mono ?_
  rintro e w3 ⟨rfl, hb4⟩
  obtain ⟨t0, t1, t2, t3, t4, t5, f0, f1, hz, hbw⟩ := three_cells (hb3.trans (hb4.mono hb3.size))
  rw [(unhide NZ).1]
  clear hb4 hb3 hb2 hb
  generalize hN : c1.natAbs * 10 ^ 40 / c2.natAbs = N at *
  have HN := hide hN
  clear hN
  go_wp2
  exact bodyPost_ret (v := .tuple #[.agg #[.int .i64 (Dm.fC (Dm.sg B (Dm.nQ N (x1 - x2 - 40) R)) (Dm.nE N (x1 - x2 - 40))), .int .i64 (Dm.fE (Dm.sg B (Dm.nQ N (x1 - x2 - 40) R)) (Dm.nE N (x1 - x2 - 40)))], .int .i64 (Dm.fR (Dm.sg B (Dm.nQ N (x1 - x2 - 40) R)) (Dm.nE N (x1 - x2 - 40)))]) (by simp [results, Tryz.results72, go_sem, t4, t5]) rfl ⟨r, by rw [unhide HB, unhide HR, unhide HN]; rfl, (unhide NZ).2, (hbw.setCell (by simp; omega) _).setCell (by simp; omega) _⟩
end Go.Proofs.YtdkgapapdjefdaaGreatDoor
