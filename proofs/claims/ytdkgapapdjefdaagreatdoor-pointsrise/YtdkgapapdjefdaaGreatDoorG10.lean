/- Digits in memory: a slice of bytes that holds them. -/
import Derived.Test.YtdkgapapdjefdaaGreatDoorG06
import Derived.Test.YtdkgapapdjefdaaGreatDoorG01
import Derived.Lib.AppendZerosOnto
namespace Go.Proofs.YtdkgapapdjefdaaGreatDoor
open Go.RowKit

/-- the slice at block b, from off on, holds the n digits that D tells -/
structure DS (w : World) (b off n : Nat) (D : Nat → Nat) : Prop where
  blk : b < w.heap.size
  cell : ∀ j, j < n → w.cell? ⟨b, off + j, none⟩ = some (.int .u8 (D j : Int))
  dig : ∀ j, D j < 10
  len : n ≤ 1000

theorem DS.below {w w' : World} {b off n : Nat} {D : Nat → Nat} (h : DS w b off n D) (hb : Below w.heap.size w w') : DS w' b off n D :=
  ⟨Nat.lt_of_lt_of_le h.blk hb.size, fun j hj => (hb.cell (p := ⟨b, off + j, none⟩) h.blk).trans (h.cell j hj), h.dig, h.len⟩
theorem DS.drop {w : World} {b off n : Nat} {D : Nat → Nat} (h : DS w b off n D) (k : Nat) (hk : k ≤ n) : DS w b (off + k) (n - k) (fun j => D (k + j)) :=
  ⟨h.blk, fun j hj => by rw [Nat.add_assoc]; exact h.cell (k + j) (by omega), fun j => h.dig _, by have := h.len; omega⟩
theorem DS.empty {w : World} {b off n : Nat} {D : Nat → Nat} (h : DS w b off n D) (off' : Nat) {E : Nat → Nat} (hE : ∀ j, E j < 10) {m : Nat} (hm : m = 0) : DS w b off' m E :=
  ⟨h.blk, fun j hj => absurd hj (by omega), hE, by omega⟩
end Go.Proofs.YtdkgapapdjefdaaGreatDoor

/- Walks: padded. -/
namespace Go.Proofs.YtdkgapapdjefdaaGreatDoor
open Go.RowKit

/-- the cells of n digits -/
def rowL (D : Nat → Nat) (n : Nat) : List Value := (List.range n).map fun j => Value.int .u8 (D j : Int)
theorem rowL_len (D : Nat → Nat) (n : Nat) : (rowL D n).length = n := by simp [rowL]
theorem rowL_at (D : Nat → Nat) {n j : Nat} (h : j < n) : (rowL D n)[j]? = some (Value.int .u8 (D j : Int)) := by simp [rowL, h]
theorem rowL_set (D : Nat → Nat) (n i d : Nat) : (rowL D n).set i (Value.int .u8 (d : Int)) = rowL (Dm.upd D i d) n := by
  apply List.ext_getElem?
  intro j
  rw [List.getElem?_set]
  by_cases h : j < n
  · by_cases e : i = j
    · subst e; rw [if_pos rfl, if_pos (by rw [rowL_len]; exact h), rowL_at _ h, Dm.upd_same]
    · rw [if_neg e, rowL_at _ h, rowL_at _ h, Dm.upd_other (fun q => e q.symm)]
  · have a : (rowL D n)[j]? = none := List.getElem?_eq_none (by rw [rowL_len]; omega)
    have b : (rowL (Dm.upd D i d) n)[j]? = none := List.getElem?_eq_none (by rw [rowL_len]; omega)
    rw [a, b]
    by_cases e : i = j
    · subst e; rw [if_pos rfl, if_neg (by rw [rowL_len]; exact h)]
    · rw [if_neg e]
theorem rowL_zero (n : Nat) : List.replicate n (Value.int .u8 0) = rowL (fun _ => 0) n := by
  apply List.ext_getElem?
  intro j
  by_cases h : j < n
  · rw [rowL_at _ h]; simp [h]
  · rw [List.getElem?_eq_none (by simp; omega), List.getElem?_eq_none (by rw [rowL_len]; omega)]
theorem rowL_congr {D E : Nat → Nat} {n : Nat} (h : ∀ j, j < n → D j = E j) : rowL D n = rowL E n := by
  unfold rowL
  refine List.map_congr_left fun j hj => ?_
  rw [h j (by simpa using hj)]
theorem DS.own {w : World} {base e g n cap : Nat} {D : Nat → Nat} (h : w.ownsRow base e 1 (.slice (some ⟨g, 0, none⟩) n cap) n (rowL D n)) (hD : ∀ j, D j < 10) (hn : n ≤ 1000) : DS w g 0 n D := by
  refine ⟨?_, fun j hj => ?_, hD, hn⟩
  · rcases h.2 with ⟨h', _⟩ | ⟨g', cap', cur, h', _, hg, _⟩
    · simp at h'
    · simp only [Value.slice.injEq, Option.some.injEq, Addr.mk.injEq, and_true, true_and] at h'
      obtain ⟨rfl, rfl⟩ := h'
      rcases Nat.lt_or_ge g w.heap.size with q | q
      · exact q
      · rw [Array.getElem?_eq_none q] at hg; simp at hg
  · rw [Nat.zero_add, h.cellAt j (by omega), rowL_at _ hj]

theorem info_u8 : (Tryz.prog.info? 5).map (fun i => (i.zero, i.size, i.bytes)) = some (some (.int .u8 0), 1, 1) := by kernel_rfl

theorem pad_quo {N W q m : Nat} (h : q = N / 10 ^ (W - (m + 1))) (hm : m + 1 ≤ W) : q / 10 = N / 10 ^ (W - m) := by
  rw [h, Nat.div_div_eq_div_mul, ← Nat.pow_succ, show (W - (m + 1)).succ = W - m by omega]
theorem pad_dig {N W q m : Nat} {R : Nat → Nat} (h : q = N / 10 ^ (W - (m + 1))) (_hm : m + 1 ≤ W) (hR : ∀ j, m + 1 ≤ j → j < W → R j = Dm.pd N W j) : ∀ j, m ≤ j → j < W → Dm.upd R m (q % 10) j = Dm.pd N W j := by
  intro j a b
  by_cases e : j = m
  · subst e; rw [Dm.upd_same, h]; unfold Dm.pd; rw [show W - 1 - j = W - (j + 1) by omega]
  · rw [Dm.upd_other e]; exact hR j (by omega) b

set_option maxHeartbeats 400000 in
theorem padded_any (N W : Nat) (w : World) (hN : N < 18446744073709551616) (hW : W ≤ 1000) :
    Calls Tryz.prog 130 #[.int .u64 (N : Int), .int .i64 (W : Int)] w fun e w' => e = .returned (.slice (some ⟨w.heap.size, 0, none⟩) W W) ∧ w'.ownsRow w.heap.size 5 1 (.slice (some ⟨w.heap.size, 0, none⟩) W W) W (rowL (Dm.pd N W) W) ∧ Below w.heap.size w w' := by
  obtain ⟨i0, hi, hz0, hz1, hz2⟩ := info_parts info_u8
  go_enter Tryz.func130, Tryz.ntmps130
  go_wp2_with (at_make; refine wpList_make_full _ rfl _ _ 110 rfl w.heap.size 5 i0 (.int .u8 0) 1 Tryz.underlying110 hi hz0 hz1 _ _ _ _ W rfl rfl rfl rfl ?c1 ?c2 ?c3 ?_)
  case c1 => rw [hz2]; omega
  case c2 => unfold maxLen; omega
  case c3 => exact Nat.le_refl _
  intro w1 hown hgrow
  have hb1 : Below w.heap.size w w1 := (Below.refl _ _).grown hgrow (Nat.le_refl _) (fun k hk => by simp at hk)
  rw [toList_madeCells_one, rowL_zero] at hown
  clear hgrow hi hz0 hz1 hz2
  go_wp2
  go_loopw [0, 6] (fun a i wr => ∃ (m q : Nat) (R : Nat → Nat), m ≤ W ∧ i = .int .i64 ((m : Int) - 1) ∧ a = .int .u64 (q : Int) ∧ q < 18446744073709551616 ∧ Hid (q = N / 10 ^ (W - m)) ∧ Hid (∀ j, m ≤ j → j < W → R j = Dm.pd N W j) ∧ wr.ownsRow w.heap.size 5 1 (.slice (some ⟨w.heap.size, 0, none⟩) W W) W (rowL R W) ∧ Below w.heap.size w wr) (fun _ i _ => (intOf i + 1).toNat)
  case atStart => exact ⟨W, N, _, Nat.le_refl _, rfl, rfl, hN, hide (by simp), hide (fun j a b => by omega), hown, hb1⟩
  case round =>
    obtain ⟨m, q, R, hm, rfl, rfl, hq, HQ, HR, hownr, hbr⟩ := hrel
    clear hown hb1
    cases m with
    | zero =>
      have HD := hide (rowL_congr (D := R) (E := Dm.pd N W) (n := W) (fun j hj => unhide HR j (Nat.zero_le _) hj))
      go_wp2
      go_ret
      rw [unhide HD] at hownr
      exact ⟨rfl, hownr, hbr⟩
    | succ m' =>
      rw [show ((m' + 1 : Nat) : Int) - 1 = (m' : Int) by omega]
      have hfr := hownr.frozenAt m'
      have hcl := (hownr.cellAt m' (by omega)).trans (rowL_at R (by omega))
      have hst := hide (hownr.stored m' (.int .u8 ((q % 10 : Nat) : Int))).1
      clear hownr
      have E1 := hide (pad_quo (unhide HQ) hm)
      have E2 := hide (pad_dig (unhide HQ) hm (unhide HR))
      rw [rowL_set] at hst
      go_wp2
      rw [show (q : Int) % 10 = ((q % 10 : Nat) : Int) by omega, show (q : Int) / 10 = ((q / 10 : Nat) : Int) by omega]
      refine ⟨⟨m', q / 10, Dm.upd R m' (q % 10), by omega, rfl, rfl, by omega, E1, E2, unhide hst, hbr.setCell (Nat.le_refl _) _⟩, ?_⟩
      simp [intOf]
end Go.Proofs.YtdkgapapdjefdaaGreatDoor

/- Walks: column. -/
namespace Go.Proofs.YtdkgapapdjefdaaGreatDoor
open Go.RowKit

theorem run_append_no_zeros (w : World) (base : Option Addr) (n cap : Nat) (hc : n ≤ cap) :
    (Builtin.append_ #[110, 3] 110 #[.slice base n cap, .int .i64 0]).run Tryz.prog w = .ok (.slice base n cap) w := by
  obtain ⟨i0, hi, hz0, hz1, hz2⟩ := info_parts info_u8
  have hw : IntKind.i64.wrap (0 : Int) = 0 := by rw [IntKind.wrap_i64]; omega
  simp [Builtin.append_, run_underlying Tryz.underlying110, run_underlying Tryz.underlying3, sizeOf, typeInfo, hi, hz1, asInt, asIntOf, hw, hc]
  cases base <;> simp [storeCells]

/-- the cells of a column: the digits, the noughts, and what more the array has -/
theorem col_cells (D : Nat → Nat) (m z k j : Nat) (h : j < m + z) :
    ((rowL D m).toArray ++ Builtin.zeroCells (Value.int IntKind.u8 0).cells z ++ Builtin.zeroCells (Value.int IntKind.u8 0).cells k)[j]? = some (Value.int .u8 ((if j < m then D j else 0 : Nat) : Int)) := by
  have hz : (Builtin.zeroCells (Value.int IntKind.u8 0).cells z).size = z := by rw [size_zeroCells]; simp [Value.cells]
  have hr : (rowL D m).toArray.size = m := by simp [rowL_len]
  rw [Array.getElem?_append_left (by rw [Array.size_append, hr, hz]; exact h)]
  by_cases g : j < m
  · rw [Array.getElem?_append_left (by rw [hr]; exact g), if_pos g, List.getElem?_toArray, rowL_at D g]
  · rw [Array.getElem?_append_right (by rw [hr]; omega), hr, if_neg g]
    have : j - m < z := by omega
    simp [Builtin.zeroCells, Value.cells, this, Nat.mod_one]

theorem col_grow {w : World} {g m z : Nat} {D : Nat → Nat} (hz : 0 < z) (hm : m + z ≤ 1000) (hD : DS w g 0 m D) :
    ∃ cap w', m + z ≤ cap ∧ (Builtin.append_ #[110, 3] 110 #[.slice (some ⟨g, 0, none⟩) m m, .int .i64 (z : Int)]).run Tryz.prog w = .ok (.slice (some ⟨w.heap.size, 0, none⟩) (m + z) cap) w' ∧
      DS w' w.heap.size 0 (m + z) (fun j => if j < m then D j else 0) ∧ Below w.heap.size w w' := by
  obtain ⟨i0, hi, hz0, hz1, hz2⟩ := info_parts info_u8
  have hold : (Builtin.firstCells i0.size m (.slice (some ⟨g, 0, none⟩) m m)).run Tryz.prog w.drew = .ok (rowL D m).toArray w.drew := by
    refine run_firstCells_some _ i0.size m ⟨g, 0, none⟩ m m (rowL D m) (by rw [rowL_len, hz1, Nat.mul_one]) ?_
    intro j v hv
    have hj : j < m := by have := (List.getElem?_eq_some_iff.1 hv).1; rw [rowL_len] at this; exact this
    rw [rowL_at D hj] at hv
    have hc : w.cell? ⟨g, 0 + j, none⟩ = some v := by rw [hD.cell j hj]; exact hv
    rw [Addr.add_lit]; exact hc
  have hr := Lib.run_append_grow_zeros (P := Tryz.prog) w 110 3 110 5 i0 (.int .u8 0) .i64 .i64 Tryz.underlying110 Tryz.underlying3 hi hz0 (some ⟨g, 0, none⟩) m m (rowL D m) hold z hz (by omega) (by omega) (by omega) (by rw [hz2]; omega) (growslice_fits (by omega) (by rw [hz2]; omega))
  refine ⟨_, _, grownCap_ge _ _ _ _, hr, ⟨?_, ?_, ?_, by omega⟩, ?_⟩
  · simp
  · intro j hj
    rw [Nat.zero_add]
    exact (World.cell?_alloc_at (w := w.drew) _ _ w.heap.size j rfl).trans (col_cells D m z _ j hj)
  · intro j
    show (if j < m then D j else 0) < 10
    split
    · exact hD.dig j
    · omega
  · exact (Below.refl w.heap.size w).drew.alloc (Nat.le_refl _) _

set_option maxHeartbeats 400000 in
theorem column_any (c x low : Int) (W z : Nat) (w : World) (h1 : -1000000000000000000 < c) (h2 : c < 1000000000000000000) (hl1 : -100 ≤ low) (hx : x - low = (z : Int)) (hx2 : x ≤ 100) (hW : W ≤ 1000) (hz : z + 18 ≤ W) :
    Calls Tryz.prog 104 #[.agg #[.int .i64 c, .int .i64 x], .int .i64 low, .int .i64 (W : Int)] w fun e w' => ∃ g cap, e = .returned (.slice (some ⟨g, 0, none⟩) W cap) ∧ W ≤ cap ∧ DS w' g 0 W (Dm.cl c.natAbs W z) ∧ Below w.heap.size w w' := by
  have X := hide hx
  have hx3 : low ≤ x := by omega
  have hx4 : x - low ≤ 1000 := by omega
  clear hx
  go_enter Tryz.func104, Tryz.ntmps104
  go_wp2_with fail
  refine (size_any c x _ h1 h2).mono ?_
  rintro e w1 ⟨rfl, hb⟩
  rw [unhide X]
  have hb0 : Below w.heap.size w w1 := ((Below.refl _ _).alloc (Nat.le_refl _) _).trans (hb.mono (by simp))
  go_wp2_with fail
  rw [show (W : Int) - (z : Int) = ((W - z : Nat) : Int) by omega]
  refine (padded_any c.natAbs (W - z) _ (by omega) (by omega)).mono ?_
  rintro e w2 ⟨rfl, hown, hb2⟩
  have hD := DS.own hown (Dm.pd_lt _ _) (by omega)
  have hb3 : Below w.heap.size w w2 := hb0.trans (hb2.mono hb0.size)
  clear hown
  rcases Nat.eq_zero_or_pos z with h0 | h0
  · subst h0
    have hr := run_append_no_zeros w2 (some ⟨w1.heap.size, 0, none⟩) (W - 0) (W - 0) (Nat.le_refl _)
    have hD' := hide hD
    clear hD
    go_wp2_with (at_builtin; refine Lib.wpList_append_run _ rfl _ _ _ _ rfl _ _ rfl rfl _ _ hr ?_)
    go_ret
    refine ⟨_, _, rfl, Nat.le_refl _, ?_, hb3⟩
    have := unhide hD'
    exact ⟨this.blk, fun j hj => by rw [this.cell j hj]; unfold Dm.cl; rw [if_pos (by omega)], Dm.cl_lt _ _ _, by omega⟩
  · obtain ⟨cap, w3, hcap, hr, hD3, hb4⟩ := col_grow h0 (by omega) hD
    have hD' := hide hD3
    clear hD hD3
    go_wp2_with (at_builtin; refine Lib.wpList_append_run _ rfl _ _ _ _ rfl _ _ rfl rfl _ _ hr ?_)
    go_ret
    have := unhide hD'
    rw [show W - z + z = W by omega] at this hcap ⊢
    exact ⟨_, _, rfl, hcap, this, hb3.trans (hb4.mono hb3.size)⟩
end Go.Proofs.YtdkgapapdjefdaaGreatDoor

/- Walks: plus, minus. -/
namespace Go.Proofs.YtdkgapapdjefdaaGreatDoor
open Go.RowKit

theorem row_drew {w : World} {base e g n cap : Nat} {R : Nat → Nat} (h : w.ownsRow base e 1 (.slice (some ⟨g, 0, none⟩) n cap) n (rowL R n)) (nq i d : Nat) :
    ((w.drewN nq).setCell ⟨g, i, none⟩ (.int .u8 (d : Int))).ownsRow base e 1 (.slice (some ⟨g, 0, none⟩) n cap) n (rowL (Dm.upd R i d) n) := by
  have h2 : (w.drewN nq).ownsRow base e 1 (.slice (some ⟨g, 0, none⟩) n cap) n (rowL R n) := h
  rw [← rowL_set]
  exact (h2.stored i _).1

set_option maxHeartbeats 1000000 in
theorem plus_any (bx ox cx b y cy n : Nat) (X Y : Nat → Nat) (w : World) (hX : DS w bx ox n X) (hY : DS w b y n Y) :
    Calls Tryz.prog 105 #[.slice (some ⟨bx, ox, none⟩) n cx, .slice (some ⟨b, y, none⟩) n cy] w fun e w' => ∃ R : Nat → Nat, e = .returned (.slice (some ⟨w.heap.size, 0, none⟩) n n) ∧ DS w' w.heap.size 0 n R ∧ (Dm.val X n + Dm.val Y n < 10 ^ n → Dm.val R n = Dm.val X n + Dm.val Y n) ∧ Below w.heap.size w w' := by
  have hl := hX.len
  obtain ⟨i0, hi, hz0, hz1, hz2⟩ := info_parts info_u8
  go_enter Tryz.func105, Tryz.ntmps105
  go_wp2_with (at_make; refine wpList_make_full _ rfl _ _ 110 rfl w.heap.size 5 i0 (.int .u8 0) 1 Tryz.underlying110 hi hz0 hz1 _ _ _ _ n rfl rfl rfl rfl ?c1 ?c2 ?c3 ?_)
  case c1 => rw [hz2]; omega
  case c2 => unfold maxLen; omega
  case c3 => exact Nat.le_refl _
  intro w1 hown hgrow
  have hb1 : Below w.heap.size w w1 := (Below.refl _ _).grown hgrow (Nat.le_refl _) (fun k hk => by simp at hk)
  rw [toList_madeCells_one, rowL_zero] at hown
  clear hgrow hi hz0 hz1 hz2
  go_wp2
  go_loopw [6, 7] (fun a i wr => ∃ (m q : Nat) (R : Nat → Nat), m ≤ n ∧ i = .int .i64 ((m : Int) - 1) ∧ a = .int .u8 (q : Int) ∧ q ≤ 1 ∧ Hid (∀ j, R j < 10) ∧ Hid (Dm.suf X n (n - m) + Dm.suf Y n (n - m) = Dm.suf R n (n - m) + q * 10 ^ (n - m)) ∧ wr.ownsRow w.heap.size 5 1 (.slice (some ⟨w.heap.size, 0, none⟩) n n) n (rowL R n) ∧ Below w.heap.size w wr) (fun _ i _ => (intOf i + 1).toNat)
  case atStart => exact ⟨n, 0, _, Nat.le_refl _, rfl, rfl, by omega, hide (fun _ => by decide), hide (by simp [Dm.suf]), hown, hb1⟩
  case round =>
    obtain ⟨m, q, R, hm, rfl, rfl, hq, HR, H, hownr, hbr⟩ := hrel
    clear hown hb1
    cases m with
    | zero =>
      have HD := hide (DS.own hownr (unhide HR) hl)
      go_wp2
      go_ret
      refine ⟨R, rfl, unhide HD, fun hs => ?_, hbr⟩
      have h := unhide H
      rw [Nat.sub_zero, ← Dm.val_suf_all, ← Dm.val_suf_all, ← Dm.val_suf_all] at h
      rcases (show q = 0 ∨ q = 1 by omega) with g | g
      · rw [g] at h; omega
      · rw [g] at h; omega
    | succ m' =>
      rw [show ((m' + 1 : Nat) : Int) - 1 = (m' : Int) by omega]
      have hfr := hownr.frozenAt m'
      have hcl := (hownr.cellAt m' (by omega)).trans (rowL_at R (by omega))
      have hx := (hX.below hbr).cell m' (by omega)
      have hy := (hY.below hbr).cell m' (by omega)
      have hxd := hX.dig m'
      have hyd := hY.dig m'
      have hst := hide (fun nq => row_drew hownr nq m' ((X m' + Y m' + q) % 10))
      have HR2 := hide (Dm.upd_lt (unhide HR) (d := (X m' + Y m' + q) % 10) (by omega) m')
      have H2 := hide (Dm.plus_step (X := X) (Y := Y) (by omega) (unhide H))
      have i1 : (m' : Int) < (n : Int) := by omega
      clear hownr HR H
      go_wp2
      go_quiet (fail)
      go_wp2
      rw [show ((X m' : Int) + (Y m' : Int) + (q : Int)) % 10 = (((X m' + Y m' + q) % 10 : Nat) : Int) by omega, show ((X m' : Int) + (Y m' : Int) + (q : Int)) / 10 = (((X m' + Y m' + q) / 10 : Nat) : Int) by omega]
      refine ⟨⟨m', _, _, by omega, rfl, rfl, by omega, HR2, H2, unhide hst nq, (below_drewN hbr nq).setCell (Nat.le_refl _) _⟩, ?_⟩
      simp [intOf]
set_option maxHeartbeats 1000000 in
theorem minus_any (bx ox cx b y cy n : Nat) (X Y : Nat → Nat) (w : World) (hX : DS w bx ox n X) (hY : DS w b y n Y) :
    Calls Tryz.prog 107 #[.slice (some ⟨bx, ox, none⟩) n cx, .slice (some ⟨b, y, none⟩) n cy] w fun e w' => ∃ R : Nat → Nat, e = .returned (.slice (some ⟨w.heap.size, 0, none⟩) n n) ∧ DS w' w.heap.size 0 n R ∧ (Dm.val Y n ≤ Dm.val X n → Dm.val R n = Dm.val X n - Dm.val Y n) ∧ Below w.heap.size w w' := by
  have hl := hX.len
  obtain ⟨i0, hi, hz0, hz1, hz2⟩ := info_parts info_u8
  go_enter Tryz.func107, Tryz.ntmps107
  go_wp2_with (at_make; refine wpList_make_full _ rfl _ _ 110 rfl w.heap.size 5 i0 (.int .u8 0) 1 Tryz.underlying110 hi hz0 hz1 _ _ _ _ n rfl rfl rfl rfl ?c1 ?c2 ?c3 ?_)
  case c1 => rw [hz2]; omega
  case c2 => unfold maxLen; omega
  case c3 => exact Nat.le_refl _
  intro w1 hown hgrow
  have hb1 : Below w.heap.size w w1 := (Below.refl _ _).grown hgrow (Nat.le_refl _) (fun k hk => by simp at hk)
  rw [toList_madeCells_one, rowL_zero] at hown
  clear hgrow hi hz0 hz1 hz2
  go_wp2
  go_loopw [6, 7] (fun a i wr => ∃ (m q : Nat) (R : Nat → Nat), m ≤ n ∧ i = .int .i64 ((m : Int) - 1) ∧ a = .int .u8 (q : Int) ∧ q ≤ 1 ∧ Hid (∀ j, R j < 10) ∧ Hid (Dm.suf X n (n - m) + q * 10 ^ (n - m) = Dm.suf Y n (n - m) + Dm.suf R n (n - m)) ∧ wr.ownsRow w.heap.size 5 1 (.slice (some ⟨w.heap.size, 0, none⟩) n n) n (rowL R n) ∧ Below w.heap.size w wr) (fun _ i _ => (intOf i + 1).toNat)
  case atStart => exact ⟨n, 0, _, Nat.le_refl _, rfl, rfl, by omega, hide (fun _ => by decide), hide (by simp [Dm.suf]), hown, hb1⟩
  case round =>
    obtain ⟨m, q, R, hm, rfl, rfl, hq, HR, H, hownr, hbr⟩ := hrel
    clear hown hb1
    cases m with
    | zero =>
      have HD := hide (DS.own hownr (unhide HR) hl)
      go_wp2
      go_ret
      refine ⟨R, rfl, unhide HD, fun hs => ?_, hbr⟩
      have h := unhide H
      rw [Nat.sub_zero, ← Dm.val_suf_all, ← Dm.val_suf_all, ← Dm.val_suf_all] at h
      have hv := Dm.val_lt (unhide HR) n
      rcases (show q = 0 ∨ q = 1 by omega) with g | g
      · rw [g] at h; omega
      · rw [g] at h; omega
    | succ m' =>
      rw [show ((m' + 1 : Nat) : Int) - 1 = (m' : Int) by omega]
      have hfr := hownr.frozenAt m'
      have hcl := (hownr.cellAt m' (by omega)).trans (rowL_at R (by omega))
      have hx := (hX.below hbr).cell m' (by omega)
      have hy := (hY.below hbr).cell m' (by omega)
      have hxd := hX.dig m'
      have hyd := hY.dig m'
      have hst := hide (fun nq => row_drew hownr nq m' ((10 + X m' - Y m' - q) % 10))
      have HR2 := hide (Dm.upd_lt (unhide HR) (d := (10 + X m' - Y m' - q) % 10) (by omega) m')
      have H2 := hide (Dm.minus_step (X := X) (Y := Y) (by omega) hyd hq (unhide H) hxd)
      have i1 : (m' : Int) < (n : Int) := by omega
      clear hownr HR H
      go_wp2
      go_quiet (fail)
      go_wp2
      rw [show (10 + (X m' : Int) - (Y m' : Int) - (q : Int)) % 10 = (((10 + X m' - Y m' - q) % 10 : Nat) : Int) by omega, show 1 - (10 + (X m' : Int) - (Y m' : Int) - (q : Int)) / 10 = ((1 - (10 + X m' - Y m' - q) / 10 : Nat) : Int) by omega]
      refine ⟨⟨m', _, _, by omega, rfl, rfl, by omega, HR2, H2, unhide hst nq, (below_drewN hbr nq).setCell (Nat.le_refl _) _⟩, ?_⟩
      simp [intOf]
end Go.Proofs.YtdkgapapdjefdaaGreatDoor

/- Walks: noughtsAhead, goesUp, wholeAt. -/
namespace Go.Proofs.YtdkgapapdjefdaaGreatDoor
open Go.RowKit

set_option maxHeartbeats 400000 in
theorem noughts_any (b off n cap : Nat) (D : Nat → Nat) (w : World) (h : DS w b off n D) :
    Calls Tryz.prog 108 #[.slice (some ⟨b, off, none⟩) n cap] w fun e w' => ∃ z : Nat, e = .returned (.int .i64 (z : Int)) ∧ z ≤ n ∧ (∀ j, j < z → D j = 0) ∧ (z < n → D z ≠ 0) ∧ w' = w := by
  have hl := h.len
  go_enter Tryz.func108, Tryz.ntmps108
  go_wp2
  go_loop [3] (fun i => ∃ k : Nat, k ≤ n ∧ i = .int .i64 (k : Int) ∧ Hid (∀ j, j < k → D j = 0)) (fun i => n - (intOf i).toNat)
  case atStart => exact ⟨0, Nat.zero_le _, rfl, hide (fun j hj => absurd hj (by omega))⟩
  case round =>
    obtain ⟨k, hk, rfl, H⟩ := hrel
    by_cases hlt : k < n
    · have hcell := h.cell k hlt
      by_cases hd : D k = 0
      · have hd' : ((D k : Int) == 0) = true := by simp [hd]
        have Hd := hide hd
        clear hd
        go_wp2
        go_round
        case rel => exact ⟨k + 1, by omega, by go_num, hide (fun j hj => by rcases Nat.lt_or_ge j k with g | g; · exact unhide H j g
                                                                            · rw [show j = k by omega]; exact unhide Hd)⟩
        case measure => simp [intOf]; omega
      · have hd' : ((D k : Int) == 0) = false := by simp [hd]
        have Hd := hide hd
        clear hd
        go_wp2
        go_ret
        exact ⟨k, rfl, hk, unhide H, fun _ => unhide Hd, rfl⟩
    · go_wp2
      go_ret
      exact ⟨k, rfl, hk, unhide H, fun g => absurd g hlt, rfl⟩

theorem ret_bool {a b : Bool} (h : a = b) : Ending.returned (.bool a) = .returned (.bool b) := by rw [h]

set_option maxHeartbeats 400000 in
theorem goesUp_out (B R odd : Bool) (b off n cap : Nat) (x kept : Int) (w : World) (h : kept < 0 ∨ (n : Int) ≤ kept) :
    Calls Tryz.prog 134 #[.agg #[.bool B, .slice (some ⟨b, off, none⟩) n cap, .int .i64 x, .bool R], .int .i64 kept, .bool odd] w fun e w' => e = .returned (.bool false) ∧ Below w.heap.size w w' := by
  by_cases h0 : kept < 0
  · clear h
    go_enter Tryz.func134, Tryz.ntmps134
    go_wp2
    go_ret
    exact ⟨rfl, (Below.refl _ _).alloc (Nat.le_refl _) _⟩
  · have h1 : (n : Int) ≤ kept := by omega
    clear h
    go_enter Tryz.func134, Tryz.ntmps134
    go_wp2
    go_ret
    exact ⟨rfl, (Below.refl _ _).alloc (Nat.le_refl _) _⟩

set_option maxHeartbeats 400000 in
theorem goesUp_in (B R odd : Bool) (b off n cap : Nat) (x : Int) (k : Nat) (D : Nat → Nat) (w : World) (hD : DS w b off n D) (hk : k < n) (h5 : ((D k : Int) != 5) = true) :
    Calls Tryz.prog 134 #[.agg #[.bool B, .slice (some ⟨b, off, none⟩) n cap, .int .i64 x, .bool R], .int .i64 (k : Int), .bool odd] w fun e w' => e = .returned (.bool (decide (5 < (D k : Int)))) ∧ Below w.heap.size w w' := by
  have hl := hD.len
  have hblk := hD.blk
  have hcell := hD.cell k hk
  have hc2 : (w.alloc (.cells #[.bool B, .slice (some ⟨b, off, none⟩) n cap, .int .i64 x, .bool R] 112)).cell? ⟨b, off + k, none⟩ = some (.int .u8 (D k : Int)) := by
    rw [← hcell]; exact ((Below.refl w.heap.size w).alloc (Nat.le_refl _) _).cell (p := ⟨b, off + k, none⟩) hblk
  go_enter Tryz.func134, Tryz.ntmps134
  go_wp2
  go_ret
  exact ⟨rfl, (Below.refl _ _).alloc (Nat.le_refl _) _⟩

set_option maxHeartbeats 400000 in
theorem goesUp_5 (B R odd : Bool) (b off n cap : Nat) (x : Int) (k : Nat) (D : Nat → Nat) (w : World) (hD : DS w b off n D) (hcap : n ≤ cap) (hk : k < n) (h5 : ((D k : Int) != 5) = false) :
    Calls Tryz.prog 134 #[.agg #[.bool B, .slice (some ⟨b, off, none⟩) n cap, .int .i64 x, .bool R], .int .i64 (k : Int), .bool odd] w fun e w' => e = .returned (.bool (odd || R || decide (0 < Dm.suf D n (n - k - 1)))) ∧ Below w.heap.size w w' := by
  have hl := hD.len
  have hblk := hD.blk
  have hcell := hD.cell k hk
  have hbw := (Below.refl w.heap.size w).alloc (Nat.le_refl _) (.cells #[.bool B, .slice (some ⟨b, off, none⟩) n cap, .int .i64 x, .bool R] 112)
  have hc2 : (w.alloc (.cells #[.bool B, .slice (some ⟨b, off, none⟩) n cap, .int .i64 x, .bool R] 112)).cell? ⟨b, off + k, none⟩ = some (.int .u8 (D k : Int)) := by
    rw [← hcell]; exact hbw.cell (p := ⟨b, off + k, none⟩) hblk
  have hD2 := hide (hD.below hbw)
  clear hbw
  have E0 := fun (z : Nat) a b c => hide (Dm.suf_z D hk (z := z) a b c)
  cases odd
  · cases R
    · by_cases hcp : cap = k + 1
      · subst hcp
        go_enter Tryz.func134, Tryz.ntmps134
        go_wp2_with fail
        refine (noughts_any b off 0 0 (fun j => D (k + 1 + j)) _ ((unhide hD2).empty off (fun j => hD.dig _) rfl)).mono ?_
        rintro e w1 ⟨z, rfl, hz, hz0, hz1, rfl⟩
        have E1 := E0 z (by omega) hz0 (fun g => absurd g (by omega))
        clear hz0 hz1 E0
        go_wp2
        go_ret
        refine ⟨ret_bool ?_, (Below.refl _ _).alloc (Nat.le_refl _) _⟩
        rw [unhide E1]; simp; try omega
      · go_enter Tryz.func134, Tryz.ntmps134
        go_wp2_with fail
        refine (noughts_any b (off + (k + 1)) (n - (k + 1)) _ (fun j => D (k + 1 + j)) _ ((unhide hD2).drop (k + 1) (by omega))).mono ?_
        rintro e w1 ⟨z, rfl, hz, hz0, hz1, rfl⟩
        have E1 := E0 z hz hz0 hz1
        clear hz0 hz1 E0
        go_wp2
        go_ret
        refine ⟨ret_bool ?_, (Below.refl _ _).alloc (Nat.le_refl _) _⟩
        rw [unhide E1]; simp; try omega
    · go_enter Tryz.func134, Tryz.ntmps134
      go_wp2
      all_goals
        go_ret
        exact ⟨rfl, (Below.refl _ _).alloc (Nat.le_refl _) _⟩
  · go_enter Tryz.func134, Tryz.ntmps134
    go_wp2
    all_goals
      go_ret
      exact ⟨rfl, (Below.refl _ _).alloc (Nat.le_refl _) _⟩

theorem goesUp_any (B R odd : Bool) (b off n cap : Nat) (x kept : Int) (D : Nat → Nat) (w : World) (hD : DS w b off n D) (hcap : n ≤ cap) :
    Calls Tryz.prog 134 #[.agg #[.bool B, .slice (some ⟨b, off, none⟩) n cap, .int .i64 x, .bool R], .int .i64 kept, .bool odd] w fun e w' => e = .returned (.bool (Dm.gu D n kept odd R)) ∧ Below w.heap.size w w' := by
  by_cases h : kept < 0 ∨ (n : Int) ≤ kept
  · rw [Dm.gu_out odd R h]
    exact goesUp_out B R odd b off n cap x kept w h
  · obtain ⟨k, rfl⟩ : ∃ k : Nat, kept = (k : Int) := ⟨kept.toNat, by omega⟩
    by_cases h5 : D k = 5
    · rw [Dm.gu_5 odd R (by omega) h5]
      exact goesUp_5 B R odd b off n cap x k D w hD hcap (by omega) (by simp [h5])
    · rw [Dm.gu_in odd R (by omega) h5]
      refine (goesUp_in B R odd b off n cap x k D w hD (by omega) (by simp; omega)).mono ?_
      rintro e w' ⟨rfl, hb⟩
      exact ⟨ret_bool (by simp; omega), hb⟩

end Go.Proofs.YtdkgapapdjefdaaGreatDoor

/- Walks: wholeAt. -/
namespace Go.Proofs.YtdkgapapdjefdaaGreatDoor
open Go.RowKit

set_option maxHeartbeats 1000000 in
theorem wholeAt_any (B R : Bool) (b off n cap : Nat) (x y : Int) (D : Nat → Nat) (w : World) (hD : DS w b off n D) (hcap : n ≤ cap) (hx1 : -1000 ≤ x) (hx2 : x ≤ 1000) (hy1 : -1000 ≤ y) (hy2 : y ≤ 1000) (hk18 : (n : Int) + x - y ≤ 18) :
    Calls Tryz.prog 110 #[.agg #[.bool B, .slice (some ⟨b, off, none⟩) n cap, .int .i64 x, .bool R], .int .i64 y] w fun e w' => e = .returned (.int .u64 (Dm.sc (Dm.val D n) (x - y) R : Int)) ∧ Below w.heap.size w w' := by
  have hl := hD.len
  have hblk := hD.blk
  have hbw := (Below.refl w.heap.size w).alloc (Nat.le_refl _) (.cells #[.bool B, .slice (some ⟨b, off, none⟩) n cap, .int .i64 x, .bool R] 112)
  have hD2 := hide (hD.below hbw)
  have hbw' := hide hbw
  have hdig := hide hD.dig
  have W := hide (Dm.whole_eq hD.dig n x y R)
  clear hbw hD
  go_enter Tryz.func110, Tryz.ntmps110
  go_wp2
  go_loop [6, 17] (fun a c => ∃ (q k : Nat), a = .int .u64 (q : Int) ∧ c = .int .i64 (k : Int) ∧ Hid (q = Dm.vx D n k) ∧ k ≤ ((n : Int) + x - y).toNat) (fun _ c => ((n : Int) + x - y).toNat - (intOf c).toNat)
  case atStart => exact ⟨0, 0, rfl, rfl, hide (Dm.vx_zero D n).symm, Nat.zero_le _⟩
  case round =>
    obtain ⟨q, k, rfl, rfl, H, hk⟩ := hrel
    by_cases hlt : (k : Int) < (n : Int) + x - y
    · have hq : q < 100000000000000000 := by
        have a := Dm.vx_lt (unhide hdig) n k
        have c := Dm.p10_17 (k := k) (by omega)
        rw [unhide H]; omega
      have hd := unhide hdig k
      by_cases hin : k < n
      · have hcell := (unhide hD2).cell k hin
        have H2 := hide (Dm.vx_in (D := D) hin)
        go_wp2
        go_round
        case rel => exact ⟨q * 10 + D k, k + 1, by go_num, by go_num, hide (by rw [unhide H2, unhide H]), by omega⟩
        case measure => simp [intOf]; omega
      · have H2 := hide (Dm.vx_out (D := D) (n := n) (k := k) (by omega))
        go_wp2
        go_round
        case rel => exact ⟨q * 10, k + 1, by go_num, by go_num, hide (by rw [unhide H2, unhide H]), by omega⟩
        case measure => simp [intOf]; omega
    · have hq : q ≤ 1000000000000000000 := by
        have a := Dm.vx_lt (unhide hdig) n k
        have c := Dm.p10_18 (k := k) (by omega)
        rw [unhide H]; omega
      have ek : ((n : Int) + x - y).toNat = k := by omega
      have H3 : Hid (q + Dm.one (Dm.gu D n ((n : Int) + x - y) (decide (q % 2 = 1)) R) = Dm.sc (Dm.val D n) (x - y) R) := by
        have w9 := unhide W
        rw [ek, ← unhide H] at w9
        exact w9
      clear W hk ek H
      by_cases hodd : q % 2 = 1
      · have ho : ((q : Int) % 2 == 1) = true := by simp; omega
        have H4 : Hid (q + Dm.one (Dm.gu D n ((n : Int) + x - y) true R) = Dm.sc (Dm.val D n) (x - y) R) := by
          have := unhide H3; rw [decide_eq_true hodd] at this; exact this
        clear hodd H3
        go_wp2_with fail
        refine (goesUp_any B R true b off n cap x _ D _ (unhide hD2) hcap).mono ?_
        rintro e w1 ⟨rfl, hb⟩
        have hb0 : Below w.heap.size w w1 := (unhide hbw').trans (hb.mono (by simp))
        cases hg : Dm.gu D n ((n : Int) + x - y) true R
        all_goals
          have H5 := hide (unhide H4)
          rw [hg] at H5
          clear hg H4
          go_wp2
          go_ret
          exact ⟨ret_int (by rw [← unhide H5]; simp [Dm.one]), hb0⟩
      · have ho : ((q : Int) % 2 == 1) = false := by simp; omega
        have H4 : Hid (q + Dm.one (Dm.gu D n ((n : Int) + x - y) false R) = Dm.sc (Dm.val D n) (x - y) R) := by
          have := unhide H3; rw [decide_eq_false hodd] at this; exact this
        clear hodd H3
        go_wp2_with fail
        refine (goesUp_any B R false b off n cap x _ D _ (unhide hD2) hcap).mono ?_
        rintro e w1 ⟨rfl, hb⟩
        have hb0 : Below w.heap.size w w1 := (unhide hbw').trans (hb.mono (by simp))
        cases hg : Dm.gu D n ((n : Int) + x - y) false R
        all_goals
          have H5 := hide (unhide H4)
          rw [hg] at H5
          clear hg H4
          go_wp2
          go_ret
          exact ⟨ret_int (by rw [← unhide H5]; simp [Dm.one]), hb0⟩
end Go.Proofs.YtdkgapapdjefdaaGreatDoor

/- Walks: nearest. -/
namespace Go.Proofs.YtdkgapapdjefdaaGreatDoor
open Go.RowKit

/-- behind nearest's first statement: the noughts ahead are cut off -/
def NearRel (B R : Bool) (b n cap : Nat) (x : Int) (D : Nat → Nat) (w wc : World) : Prop :=
  ∃ z off' : Nat, Hid (z ≤ n ∧ (∀ j, j < z → D j = 0) ∧ (z < n → D z ≠ 0) ∧ DS wc b off' (n - z) (fun j => D (z + j))) ∧ wc.cell? ⟨w.heap.size, 0, none⟩ = some (.bool B) ∧ wc.cell? ⟨w.heap.size, 1, none⟩ = some (.slice (some ⟨b, off', none⟩) (n - z) (cap - z)) ∧ wc.cell? ⟨w.heap.size, 2, none⟩ = some (.int .i64 x) ∧ wc.cell? ⟨w.heap.size, 3, none⟩ = some (.bool R) ∧ wc.cell? ⟨w.heap.size + 1, 0, none⟩ = some (.int .i64 0) ∧ wc.cell? ⟨w.heap.size + 1, 1, none⟩ = some (.int .i64 0) ∧ wc.frozen? ⟨w.heap.size + 1, 0, none⟩ = false ∧ wc.frozen? ⟨w.heap.size + 1, 1, none⟩ = false ∧ w.heap.size + 2 ≤ wc.heap.size ∧ Below w.heap.size w wc

theorem near_rel {B R : Bool} {b off n cap : Nat} {x : Int} {D : Nat → Nat} {w : World} (hD : DS w b off n D) {z : Nat} (hz : z ≤ n) (hcap : n ≤ cap) (hz0 : ∀ j, j < z → D j = 0) (hz1 : z < n → D z ≠ 0) {ao : Option Addr} (hao : (if cap = z then some ({ block := b, off := off } : Addr) else some { block := b, off := off + z }) = ao) :
    NearRel B R b n cap x D w ((w.alloc (Obj.cells #[Value.bool B, Value.slice ao (n - z) (cap - z), Value.int IntKind.i64 x, Value.bool R] 112)).alloc (Obj.cells #[Value.int IntKind.i64 0, Value.int IntKind.i64 0] 24)).drew := by
  have hb : Below w.heap.size w ((w.alloc (Obj.cells #[Value.bool B, Value.slice ao (n - z) (cap - z), Value.int IntKind.i64 x, Value.bool R] 112)).alloc (Obj.cells #[Value.int IntKind.i64 0, Value.int IntKind.i64 0] 24)).drew :=
    (((Below.refl w.heap.size w).alloc (Nat.le_refl _) _).alloc (by simp) _).drew
  by_cases h : cap = z
  · rw [if_pos h] at hao
    subst hao
    refine ⟨z, off, hide ⟨hz, hz0, hz1, (hD.below hb).empty off (fun j => hD.dig _) (by omega)⟩, by simp [go_sem], by simp [go_sem], by simp [go_sem], by simp [go_sem], by simp [go_sem], by simp [go_sem], by simp [go_sem], by simp [go_sem], by simp, hb⟩
  · rw [if_neg h] at hao
    subst hao
    refine ⟨z, off + z, hide ⟨hz, hz0, hz1, (hD.below hb).drop z hz⟩, by simp [go_sem], by simp [go_sem], by simp [go_sem], by simp [go_sem], by simp [go_sem], by simp [go_sem], by simp [go_sem], by simp [go_sem], by simp, hb⟩

theorem cells_below {wc w1 : World} {h : Nat} {v0 v1 v2 v3 r0 r1 : Value} (hb : Below wc.drew.heap.size wc.drew w1) (hsz : h + 2 ≤ wc.heap.size)
    (c0 : wc.cell? ⟨h, 0, none⟩ = some v0) (c1 : wc.cell? ⟨h, 1, none⟩ = some v1) (c2 : wc.cell? ⟨h, 2, none⟩ = some v2) (c3 : wc.cell? ⟨h, 3, none⟩ = some v3)
    (d0 : wc.cell? ⟨h + 1, 0, none⟩ = some r0) (d1 : wc.cell? ⟨h + 1, 1, none⟩ = some r1) (f0 : wc.frozen? ⟨h + 1, 0, none⟩ = false) (f1 : wc.frozen? ⟨h + 1, 1, none⟩ = false) :
    w1.cell? ⟨h, 0, none⟩ = some v0 ∧ w1.cell? ⟨h, 1, none⟩ = some v1 ∧ w1.cell? ⟨h, 2, none⟩ = some v2 ∧ w1.cell? ⟨h, 3, none⟩ = some v3 ∧
    w1.cell? ⟨h + 1, 0, none⟩ = some r0 ∧ w1.cell? ⟨h + 1, 1, none⟩ = some r1 ∧ w1.frozen? ⟨h + 1, 0, none⟩ = false ∧ w1.frozen? ⟨h + 1, 1, none⟩ = false ∧ h + 2 ≤ w1.heap.size := by
  have e : wc.drew.heap.size = wc.heap.size := rfl
  refine ⟨(hb.cell (p := ⟨h, 0, none⟩) (by show h < _; omega)).trans c0, (hb.cell (p := ⟨h, 1, none⟩) (by show h < _; omega)).trans c1, (hb.cell (p := ⟨h, 2, none⟩) (by show h < _; omega)).trans c2, (hb.cell (p := ⟨h, 3, none⟩) (by show h < _; omega)).trans c3,
    (hb.cell (p := ⟨h + 1, 0, none⟩) (by show h + 1 < _; omega)).trans d0, (hb.cell (p := ⟨h + 1, 1, none⟩) (by show h + 1 < _; omega)).trans d1, (hb.frozen (p := ⟨h + 1, 0, none⟩) (by show h + 1 < _; omega)).trans f0, (hb.frozen (p := ⟨h + 1, 1, none⟩) (by show h + 1 < _; omega)).trans f1, by have := hb.size; omega⟩

theorem cells_below0 {wc w1 : World} {h : Nat} {v0 v1 v2 v3 r0 r1 : Value} (hb : Below wc.heap.size wc w1) (hsz : h + 2 ≤ wc.heap.size)
    (c0 : wc.cell? ⟨h, 0, none⟩ = some v0) (c1 : wc.cell? ⟨h, 1, none⟩ = some v1) (c2 : wc.cell? ⟨h, 2, none⟩ = some v2) (c3 : wc.cell? ⟨h, 3, none⟩ = some v3)
    (d0 : wc.cell? ⟨h + 1, 0, none⟩ = some r0) (d1 : wc.cell? ⟨h + 1, 1, none⟩ = some r1) (f0 : wc.frozen? ⟨h + 1, 0, none⟩ = false) (f1 : wc.frozen? ⟨h + 1, 1, none⟩ = false) :
    w1.cell? ⟨h, 0, none⟩ = some v0 ∧ w1.cell? ⟨h, 1, none⟩ = some v1 ∧ w1.cell? ⟨h, 2, none⟩ = some v2 ∧ w1.cell? ⟨h, 3, none⟩ = some v3 ∧
    w1.cell? ⟨h + 1, 0, none⟩ = some r0 ∧ w1.cell? ⟨h + 1, 1, none⟩ = some r1 ∧ w1.frozen? ⟨h + 1, 0, none⟩ = false ∧ w1.frozen? ⟨h + 1, 1, none⟩ = false ∧ h + 2 ≤ w1.heap.size := by
  refine ⟨(hb.cell (p := ⟨h, 0, none⟩) (by show h < _; omega)).trans c0, (hb.cell (p := ⟨h, 1, none⟩) (by show h < _; omega)).trans c1, (hb.cell (p := ⟨h, 2, none⟩) (by show h < _; omega)).trans c2, (hb.cell (p := ⟨h, 3, none⟩) (by show h < _; omega)).trans c3,
    (hb.cell (p := ⟨h + 1, 0, none⟩) (by show h + 1 < _; omega)).trans d0, (hb.cell (p := ⟨h + 1, 1, none⟩) (by show h + 1 < _; omega)).trans d1, (hb.frozen (p := ⟨h + 1, 0, none⟩) (by show h + 1 < _; omega)).trans f0, (hb.frozen (p := ⟨h + 1, 1, none⟩) (by show h + 1 < _; omega)).trans f1, by have := hb.size; omega⟩

set_option maxHeartbeats 1000000 in
theorem dnearest_any (B R : Bool) (b off n cap : Nat) (x : Int) (D : Nat → Nat) (w : World) (hD : DS w b off n D) (hcap : n ≤ cap) (hn : n ≤ 100) (hx1 : -200 ≤ x) (hx2 : x ≤ 100) :
    Calls Tryz.prog 71 #[.agg #[.bool B, .slice (some ⟨b, off, none⟩) n cap, .int .i64 x, .bool R]] w fun e w' => e = .returned (.tuple #[.agg #[.int .i64 (Dm.fC (Dm.sg B (Dm.nQ (Dm.val D n) x R)) (Dm.nE (Dm.val D n) x)), .int .i64 (Dm.fE (Dm.sg B (Dm.nQ (Dm.val D n) x R)) (Dm.nE (Dm.val D n) x))], .int .i64 (Dm.fR (Dm.sg B (Dm.nQ (Dm.val D n) x R)) (Dm.nE (Dm.val D n) x))]) ∧ Below w.heap.size w w' := by
  have hblk := hD.blk
  have hbw := ((Below.refl w.heap.size w).alloc (Nat.le_refl _) (.cells #[.bool B, .slice (some ⟨b, off, none⟩) n cap, .int .i64 x, .bool R] 112)).alloc (by simp) (.cells #[.int .i64 0, .int .i64 0] 24)
  have hbw' := hide hbw
  have hD2 := hide (hD.below hbw)
  clear hbw
  go_enter Tryz.func71, Tryz.ntmps71
  go_upto_region 1 with fail
  go_cut [] from 5 (fun wc => NearRel B R b n cap x D w wc)
  case first =>
    go_region_with (go_at_call 108; refine (noughts_any b off n cap D _ ?_).mono ?_; exact (unhide hD2).below (Below.refl _ _).drew; rintro e w1 ⟨z, rfl, hz, hz0, hz1, rfl⟩)
    all_goals
      generalize hao : (if cap = z then some ({ block := b, off := off } : Addr) else some { block := b, off := off + z }) = ao
      have Hao := hide hao
      clear hao
      go_wp2_with fail
      go_meet
      case rel => exact near_rel hD hz hcap hz0 hz1 (unhide Hao)
  case rest =>
    obtain ⟨z, off', H, c0, c1, c2, c3, d0, d1, f0, f1, hsz, hbel⟩ := hcut
    have hz := (unhide H).1
    go_upto_region 3 with fail
    generalize hy : (if -40 < x + ((n - z : Nat) : Int) - 18 then x + ((n - z : Nat) : Int) - 18 else -40) = y
    obtain ⟨q, hq⟩ : ∃ q, q = Dm.sc (Dm.val (fun j => D (z + j)) (n - z)) (x - y) R := ⟨_, rfl⟩
    obtain ⟨y1, y2, y3, hq2, ey, eq⟩ := Dm.near_facts hD.dig R hn hx1 hx2 hz (unhide H).2.1 (unhide H).2.2.1 hy hq
    have WC := hide (fun wx (h : DS wx b off' (n - z) (fun j => D (z + j))) => wholeAt_any B R b off' (n - z) (cap - z) x y _ wx h (by omega) (by omega) (by omega) (by omega) (by omega) y3)
    rw [← hq] at WC
    have EQ := hide eq
    have EY := hide ey
    clear hy hq ey eq y3
    go_region_with (first
      | (go_at_call 110; refine (unhide WC _ ?_).mono ?_; exact (unhide H).2.2.2.below (Below.refl _ _).drew; rintro e w1 ⟨rfl, hb1⟩; obtain ⟨c0', c1', c2', c3', d0', d1', f0', f1', hsz'⟩ := cells_below hb1 hsz c0 c1 c2 c3 d0 d1 f0 f1)
      | (go_at_call 109; refine (number_any B R _ x ⟨_, _, _, rfl⟩ q y _ hq2 y1 y2).mono ?_; rintro e w2 ⟨rfl, hb2⟩; obtain ⟨c0'', c1'', c2'', c3'', d0'', d1'', f0'', f1'', hsz''⟩ := cells_below0 hb2 hsz' c0' c1' c2' c3' d0' d1' f0' f1'))
    all_goals
      go_wp2
      refine bodyPost_ret (v := .tuple #[.agg #[.int .i64 (Dm.fC (Dm.sg B q) y), .int .i64 (Dm.fE (Dm.sg B q) y)], .int .i64 (Dm.fR (Dm.sg B q) y)]) (by simp [results, Tryz.results71, go_sem, d0'', d1'']) rfl ⟨?_, ?_⟩
      · rw [unhide EQ, unhide EY]
      · have e1 : Below w.heap.size w w1 := (hbel.drew).trans (hb1.mono (by simp; omega))
        have e2 : Below w.heap.size w w2 := e1.trans (hb2.mono (by omega))
        exact (e2.setCell (by simp) _).setCell (by simp) _
end Go.Proofs.YtdkgapapdjefdaaGreatDoor
