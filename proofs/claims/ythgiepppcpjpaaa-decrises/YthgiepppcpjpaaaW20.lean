/- Walks: product. -/
import Derived.Test.YthgiepppcpjpaaaW13
import Derived.Test.YthgiepppcpjpaaaW19
import Derived.Deep.RegionHeld2
namespace Go.Proofs.Ythgiepppcpjpaaa
open Go.RowKit

theorem own_below {w w' : World} {base e size n : Nat} {v : Value} {xs : List Value} (h : w.ownsRow base e size v n xs) (hb : Below w.heap.size w w') : w'.ownsRow base e size v n xs := by
  refine ⟨h.1, ?_⟩
  rcases h.2 with hn | ⟨g, cap, cur, rfl, hbs, hg, rest⟩
  · exact .inl hn
  · refine .inr ⟨g, cap, cur, rfl, hbs, ?_, rest⟩
    rw [hb.block g (Array.getElem?_eq_some_iff.1 hg).1]
    exact hg
theorem rowL_append (D E : Nat → Nat) (n m : Nat) : rowL D n ++ rowL E m = rowL (fun j => if j < n then D j else E (j - n)) (n + m) := by
  apply List.ext_getElem?
  intro j
  by_cases h : j < n
  · rw [List.getElem?_append_left (by rw [rowL_len]; exact h), rowL_at _ h, rowL_at _ (by omega), if_pos h]
  · rw [List.getElem?_append_right (by rw [rowL_len]; omega), rowL_len]
    by_cases g : j < n + m
    · rw [rowL_at _ (by omega), rowL_at _ g, if_neg h]
    · rw [List.getElem?_eq_none (by rw [rowL_len]; omega), List.getElem?_eq_none (by rw [rowL_len]; omega)]
theorem rowL_one (D : Nat → Nat) (n : Nat) : ∀ u ∈ rowL D n, u.oneCell' = true := by
  intro u hu
  obtain ⟨_, _, rfl⟩ := List.mem_map.1 hu
  rfl
theorem rowL_cells {w : World} {b off n : Nat} {D : Nat → Nat} (h : DS w b off n D) : ∀ j u, (rowL D n)[j]? = some u → w.cell? ((⟨b, off, none⟩ : Addr).add j) = some u := by
  intro j u hu
  have hj : j < n := by have := (List.getElem?_eq_some_iff.1 hu).1; rw [rowL_len] at this; exact this
  rw [rowL_at D hj] at hu
  rw [Addr.add_lit, h.cell j hj]
  exact hu
/-- an owned row is a slice at the head of a block -/
theorem own_shape {w : World} {base e n : Nat} {v : Value} {xs : List Value} (h : w.ownsRow base e 1 v n xs) (hn : 0 < n) : ∃ g cap, v = .slice (some ⟨g, 0, none⟩) n cap ∧ n ≤ cap ∧ base ≤ g := by
  rcases h.2 with ⟨_, h0⟩ | ⟨g, cap, cur, rfl, hb, _, hc, _⟩
  · omega
  · exact ⟨g, cap, rfl, hc, hb⟩

theorem frac3 {w w3 : World} {c1 x1 c2 x2 : Int}
    (hb : Below (((w.alloc (.cells #[.int .i64 c1, .int .i64 x1] 23)).alloc (.cells #[.int .i64 c2, .int .i64 x2] 23)).alloc (.cells #[.bool false, .slice none 0 0, .int .i64 0, .bool false] 42)).heap.size (((w.alloc (.cells #[.int .i64 c1, .int .i64 x1] 23)).alloc (.cells #[.int .i64 c2, .int .i64 x2] 23)).alloc (.cells #[.bool false, .slice none 0 0, .int .i64 0, .bool false] 42)) w3) :
    w3.cell? ⟨w.heap.size, 0, none⟩ = some (.int .i64 c1) ∧ w3.cell? ⟨w.heap.size, 1, none⟩ = some (.int .i64 x1) ∧ w3.cell? ⟨w.heap.size + 1, 0, none⟩ = some (.int .i64 c2) ∧ w3.cell? ⟨w.heap.size + 1, 1, none⟩ = some (.int .i64 x2) ∧
    w3.cell? ⟨w.heap.size + 1 + 1, 0, none⟩ = some (.bool false) ∧ w3.cell? ⟨w.heap.size + 1 + 1, 1, none⟩ = some (.slice none 0 0) ∧ w3.cell? ⟨w.heap.size + 1 + 1, 2, none⟩ = some (.int .i64 0) ∧ w3.cell? ⟨w.heap.size + 1 + 1, 3, none⟩ = some (.bool false) ∧
    w3.frozen? ⟨w.heap.size + 1 + 1, 0, none⟩ = false ∧ w3.frozen? ⟨w.heap.size + 1 + 1, 1, none⟩ = false ∧ w3.frozen? ⟨w.heap.size + 1 + 1, 2, none⟩ = false ∧ w3.frozen? ⟨w.heap.size + 1 + 1, 3, none⟩ = false ∧ w.heap.size + 3 ≤ w3.heap.size ∧ Below w.heap.size w w3 := by
  obtain ⟨hc, hf⟩ := bcell hb
  have s := hb.size
  simp at s
  have hw : Below w.heap.size w (((w.alloc (.cells #[.int .i64 c1, .int .i64 x1] 23)).alloc (.cells #[.int .i64 c2, .int .i64 x2] 23)).alloc (.cells #[.bool false, .slice none 0 0, .int .i64 0, .bool false] 42)) := (((Below.refl w.heap.size w).alloc (Nat.le_refl _) _).alloc (by simp) _).alloc (by simp; omega) _
  refine ⟨?_, ?_, ?_, ?_, ?_, ?_, ?_, ?_, ?_, ?_, ?_, ?_, by omega, hw.trans (hb.mono (by simp; omega))⟩
  all_goals first | (rw [hc _ _ (by simp <;> omega)]; simp [go_sem]; done) | (rw [hf _ _ (by simp <;> omega)]; simp [go_sem]; done)

theorem div64_any (h l : Nat) (hh : h < 60000000000000000) (hl : l < 18446744073709551616) (w : World) :
    Calls Try.prog 42 #[.int .u64 (h : Int), .int .u64 (l : Int), .int .u64 1000000000000000000] w fun e w' => e = .returned (.tuple #[.int .u64 (dq h l : Int), .int .u64 (dr h l : Int)]) ∧ Below w.heap.size w w' := by
  rcases Nat.eq_zero_or_pos h with g | g
  · subst g
    exact div64_low l hl w
  · exact div64_high h l g hh hl w

theorem prod_facts (a b : Nat) (ha : a < 1000000000000000000) (hb : b < 1000000000000000000) :
    ∃ h l : Nat, a * b / 18446744073709551616 = h ∧ a * b % 18446744073709551616 = l ∧ h < 60000000000000000 ∧ l < 18446744073709551616 ∧ dq h l < 1000000000000000000 ∧ dr h l < 1000000000000000000 ∧ dq h l * 1000000000000000000 + dr h l = a * b := by
  have m : a * b ≤ 999999999999999999 * 999999999999999999 := Nat.mul_le_mul (by omega) (by omega)
  refine ⟨_, _, rfl, rfl, ?_⟩
  unfold dq dr
  generalize a * b = P at *
  omega

theorem prod_dig (up lo : Nat) : ∀ j, (if j < 18 then Dm.pd up 18 j else Dm.pd lo 18 (j - 18)) < 10 := by
  intro j
  split
  · exact Dm.pd_lt _ _ _
  · exact Dm.pd_lt _ _ _
theorem prod_val {up lo : Nat} (hu : up < 1000000000000000000) (hl : lo < 1000000000000000000) : Dm.val (fun j => if j < 18 then Dm.pd up 18 j else Dm.pd lo 18 (j - 18)) 36 = up * 1000000000000000000 + lo := by
  have e := Dm.val_drop (fun j => if j < 18 then Dm.pd up 18 j else Dm.pd lo 18 (j - 18)) 18 18
  have e1 : Dm.val (fun j => if j < 18 then Dm.pd up 18 j else Dm.pd lo 18 (j - 18)) 18 = Dm.val (Dm.pd up 18) 18 := Dm.val_congr 18 (fun j hj => by simp only [if_pos hj])
  have e2 : Dm.val (fun j => if 18 + j < 18 then Dm.pd up 18 (18 + j) else Dm.pd lo 18 (18 + j - 18)) 18 = Dm.val (Dm.pd lo 18) 18 := Dm.val_congr 18 (fun j _ => by simp only [if_neg (show ¬ 18 + j < 18 by omega), Nat.add_sub_cancel_left])
  rw [e1, e2, Dm.val_pd (by omega), Dm.val_pd (by omega)] at e
  omega

set_option maxHeartbeats 1000000 in
theorem product_any (c1 x1 c2 x2 : Int) (w : World) (a1 : -1000000000000000000 < c1) (a2 : c1 < 1000000000000000000) (a3 : -40 ≤ x1) (a4 : x1 ≤ 40)
    (b1 : -1000000000000000000 < c2) (b2 : c2 < 1000000000000000000) (b3 : -40 ≤ x2) (b4 : x2 ≤ 40) :
    Calls Try.prog 23 #[.agg #[.int .i64 c1, .int .i64 x1], .agg #[.int .i64 c2, .int .i64 x2]] w fun e w' => ∃ (g cap : Nat) (D : Nat → Nat), e = .returned (.agg #[.bool (!(decide (c1 < 0) == decide (c2 < 0))), .slice (some ⟨g, 0, none⟩) 36 cap, .int .i64 (x1 + x2), .bool false]) ∧ 36 ≤ cap ∧ DS w' g 0 36 D ∧ Dm.val D 36 = c1.natAbs * c2.natAbs ∧ Below w.heap.size w w' := by
  obtain ⟨h, l, eh, el, hh, hl, hu, hd, hp⟩ := prod_facts c1.natAbs c2.natAbs (by omega) (by omega)
  have MU := hide (fun wx => mul64_any c1.natAbs c2.natAbs (by omega) (by omega) wx)
  rw [eh, el] at MU
  have DV := hide (fun wx => div64_any h l hh hl wx)
  have SA := hide (fun wx => size_any c1 x1 wx a1 a2)
  have SB := hide (fun wx => size_any c2 x2 wx b1 b2)
  have HP := hide hp
  obtain ⟨i0, hi, hz0, hz1, hz2⟩ := info_parts info_u8
  have I0 := hide hi
  have I1 := hide hz0
  have I2 := hide hz1
  have I3 := hide hz2
  generalize dq h l = up at *
  generalize dr h l = lo at *
  clear eh el hh hl hp hi hz0 hz1 hz2
  go_enter Try.func23, Try.ntmps23
  go_upto_region 1 with fail
  go_cut [5, 6] from 10 (fun a b wc => a = .int .u64 (h : Int) ∧ b = .int .u64 (l : Int) ∧ Hid (Below (((w.alloc (.cells #[.int .i64 c1, .int .i64 x1] 23)).alloc (.cells #[.int .i64 c2, .int .i64 x2] 23)).alloc (.cells #[.bool false, .slice none 0 0, .int .i64 0, .bool false] 42)).heap.size (((w.alloc (.cells #[.int .i64 c1, .int .i64 x1] 23)).alloc (.cells #[.int .i64 c2, .int .i64 x2] 23)).alloc (.cells #[.bool false, .slice none 0 0, .int .i64 0, .bool false] 42)) wc))
  case first =>
    have f0 := frac3 (Below.refl (((w.alloc (.cells #[.int .i64 c1, .int .i64 x1] 23)).alloc (.cells #[.int .i64 c2, .int .i64 x2] 23)).alloc (.cells #[.bool false, .slice none 0 0, .int .i64 0, .bool false] 42)).heap.size (((w.alloc (.cells #[.int .i64 c1, .int .i64 x1] 23)).alloc (.cells #[.int .i64 c2, .int .i64 x2] 23)).alloc (.cells #[.bool false, .slice none 0 0, .int .i64 0, .bool false] 42)))
    obtain ⟨t0, t1, t2, t3, _⟩ := f0
    go_region_held2 (fun w' => w'.cell? ⟨w.heap.size, 0, none⟩ = some (.int .i64 c1) ∧ w'.cell? ⟨w.heap.size, 1, none⟩ = some (.int .i64 x1) ∧ w'.cell? ⟨w.heap.size + 1, 0, none⟩ = some (.int .i64 c2) ∧ w'.cell? ⟨w.heap.size + 1, 1, none⟩ = some (.int .i64 x2)) (go_keep) (first
      | (go_at_call_of 27 (Value.int IntKind.i64 c1); refine (unhide SA _).mono ?_; rintro e w1 ⟨rfl, hb1⟩; have hb1 := (Below.refl _ _).drew.trans hb1; obtain ⟨t0', t1', t2', t3', _⟩ := frac3 hb1)
      | (go_at_call_of 27 (Value.int IntKind.i64 c2); refine (unhide SB _).mono ?_; rintro e w2 ⟨rfl, hb2⟩; have hb2 := hb1.trans (hb2.mono hb1.size); obtain ⟨t0'', t1'', t2'', t3'', _⟩ := frac3 hb2)
      | (go_at_call 41; refine (unhide MU _).mono ?_; rintro e w3 ⟨rfl, rfl⟩))
    all_goals
      go_wp2_with fail
      go_meet
      case rel => exact ⟨rfl, rfl, hide hb2⟩
  case rest =>
    obtain ⟨rfl, rfl, HB⟩ := hcut
    go_wp2_with fail
    refine (unhide DV _).mono ?_
    rintro e w4 ⟨rfl, hb4⟩
    have HB4 := hide ((unhide HB).trans (hb4.mono (unhide HB).size))
    clear hb4 HB
    go_wp2_with fail
    refine (padded_any up 18 _ (by omega) (by omega)).mono ?_
    rintro e w5 ⟨rfl, own5, hb5⟩
    have HB5 := hide ((unhide HB4).trans (hb5.mono (unhide HB4).size))
    have O5 := hide own5
    clear own5
    go_wp2_with fail
    refine (padded_any lo 18 _ (by omega) (by omega)).mono ?_
    rintro e w6 ⟨rfl, own6, hb6⟩
    have HB6 := hide ((unhide HB5).trans (hb6.mono (unhide HB5).size))
    have O5' := hide (own_below (unhide O5) hb6)
    have D6 := hide (DS.own own6 (Dm.pd_lt _ _) (by omega))
    have sz : w4.heap.size ≤ w6.heap.size := Nat.le_trans hb5.size hb6.size
    clear own6 hb5 hb6 O5
    have a1' := rowL_cells (unhide D6)
    have a2' : 18 + 18 ≤ maxLen := by unfold maxLen; omega
    have A1 := hide a1'
    have A2 := hide a2'
    clear a1' a2'
    go_wp2_with (at_builtin; refine wpList_append_own _ rfl _ _ 40 rfl w4.heap.size 5 i0 (.int .u8 0) 1 1 Try.underlying40 (unhide I0) (unhide I1) (unhide I2) (unhide I3) rfl (by decide) _ _ _ rfl (unhide O5') ⟨w5.heap.size, 0, none⟩ 18 18 (rowL (Dm.pd lo 18) 18) rfl (rowL_len _ _) (unhide A1) (rowL_one _ _) (unhide A2) (by omega) sz ?_)
    intro v' w7 own7 hgrow _
    rw [rowL_append] at own7
    obtain ⟨g, cap, hv, hcap, hgb⟩ := own_shape own7 (by omega)
    have HB7 := hide ((unhide HB6).grown hgrow (unhide HB6).size (fun k hk => by simp [Value.ownBlock] at hk; rw [← hk]; exact (unhide HB4).size))
    rw [hv] at own7 ⊢
    have D7 := hide (DS.own own7 (prod_dig up lo) (by omega))
    have hs4 : w.heap.size + 1 + 1 + 1 ≤ w4.heap.size := by have := (unhide HB4).size; simp at this; omega
    clear own7 hgrow hv O5' D6 HB4 HB5 HB6
    obtain ⟨t0, t1, t2, t3, r0, r1, r2, r3, f0, f1, f2, f3, hsz, hbw⟩ := frac3 (unhide HB7)
    go_wp2
    refine bodyPost_ret (v := .agg #[.bool (!(decide (c1 < 0) == decide (c2 < 0))), .slice (some ⟨g, 0, none⟩) 36 cap, .int .i64 (x1 + x2), .bool false]) (by simp [results, Try.results23, go_sem, r0, r1, r2, r3]) rfl ?_
    exact ⟨g, cap, _, rfl, hcap, ((((unhide D7).setCell (by simp; omega) _).setCell (by simp; omega) _).setCell (by simp; omega) _).setCell (by simp; omega) _, (prod_val hu hd).trans (unhide HP), (((hbw.setCell (by simp; omega) _).setCell (by simp; omega) _).setCell (by simp; omega) _).setCell (by simp; omega) _⟩
end Go.Proofs.Ythgiepppcpjpaaa
