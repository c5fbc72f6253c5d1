/- Walks: column. -/
import Derived.Test.YtehnpfjmanmgpaaDoorW9
namespace Go.Proofs.YtehnpfjmanmgpaaDoor
open Go.RowKit

theorem run_append_no_zeros (w : World) (base : Option Addr) (n cap : Nat) (hc : n ≤ cap) :
    (Builtin.append_ #[49, 3] 49 #[.slice base n cap, .int .i64 0]).run Tryd.prog w = .ok (.slice base n cap) w := by
  obtain ⟨i0, hi, hz0, hz1, hz2⟩ := info_parts info_u8
  have hw : IntKind.i64.wrap (0 : Int) = 0 := by rw [IntKind.wrap_i64]; omega
  simp [Builtin.append_, run_underlying Tryd.underlying49, run_underlying Tryd.underlying3, sizeOf, typeInfo, hi, hz1, asInt, asIntOf, hw, hc]
  cases base <;> simp [storeCells]

/-- the cells of a column: the digits, the noughts, and what more the array has -/
theorem col_cells (D : Nat → Nat) (m z k j : Nat) (h : j < m + z) :
    ((rowL D m).toArray ++ Builtin.zeroCells (Value.int IntKind.u8 0).cells z ++ Builtin.zeroCells (Value.int IntKind.u8 0).cells k)[j]? = some (Value.int .u8 ((if j < m then D j else 0 : Nat) : Int)) := by
  have hz : (Builtin.zeroCells (Value.int IntKind.u8 0).cells z).size = z := by rw [size_zeroCells]; simp [Value.cells]
  have hr : (rowL D m).toArray.size = m := by simp [rowL_len]
  rw [Array.getElem?_append_left (by rw [Array.size_append, hr, hz]; exact h)]
  by_cases g : j < m
  · rw [Array.getElem?_append_left (by rw [hr]; exact g), if_pos g, List.getElem?_toArray, rowL_at D g]
  · rw [Array.getElem?_append_right (by rw [hr]; omega), hr, if_neg g]
    have : j - m < z := by omega
    simp [Builtin.zeroCells, Value.cells, this, Nat.mod_one]

theorem col_grow {w : World} {g m z : Nat} {D : Nat → Nat} (hz : 0 < z) (hm : m + z ≤ 1000) (hD : DS w g 0 m D) :
    ∃ cap w', m + z ≤ cap ∧ (Builtin.append_ #[49, 3] 49 #[.slice (some ⟨g, 0, none⟩) m m, .int .i64 (z : Int)]).run Tryd.prog w = .ok (.slice (some ⟨w.heap.size, 0, none⟩) (m + z) cap) w' ∧
      DS w' w.heap.size 0 (m + z) (fun j => if j < m then D j else 0) ∧ Below w.heap.size w w' := by
  obtain ⟨i0, hi, hz0, hz1, hz2⟩ := info_parts info_u8
  have hold : (Builtin.firstCells i0.size m (.slice (some ⟨g, 0, none⟩) m m)).run Tryd.prog w.drew = .ok (rowL D m).toArray w.drew := by
    refine run_firstCells_some _ i0.size m ⟨g, 0, none⟩ m m (rowL D m) (by rw [rowL_len, hz1, Nat.mul_one]) ?_
    intro j v hv
    have hj : j < m := by have := (List.getElem?_eq_some_iff.1 hv).1; rw [rowL_len] at this; exact this
    rw [rowL_at D hj] at hv
    have hc : w.cell? ⟨g, 0 + j, none⟩ = some v := by rw [hD.cell j hj]; exact hv
    rw [Addr.add_lit]; exact hc
  have hr := Lib.run_append_grow_zeros (P := Tryd.prog) w 49 3 49 5 i0 (.int .u8 0) .i64 .i64 Tryd.underlying49 Tryd.underlying3 hi hz0 (some ⟨g, 0, none⟩) m m (rowL D m) hold z hz (by omega) (by omega) (by omega) (by rw [hz2]; omega) (growslice_fits (by omega) (by rw [hz2]; omega))
  refine ⟨_, _, grownCap_ge _ _ _ _, hr, ⟨?_, ?_, ?_, by omega⟩, ?_⟩
  · simp
  · intro j hj
    rw [Nat.zero_add]
    exact (World.cell?_alloc_at (w := w.drew) _ _ w.heap.size j rfl).trans (col_cells D m z _ j hj)
  · intro j
    show (if j < m then D j else 0) < 10
    split
    · exact hD.dig j
    · omega
  · exact (Below.refl w.heap.size w).drew.alloc (Nat.le_refl _) _

set_option maxHeartbeats 400000 in
theorem column_any (c x low : Int) (W z : Nat) (w : World) (h1 : -1000000000000000000 < c) (h2 : c < 1000000000000000000) (hl1 : -100 ≤ low) (hx : x - low = (z : Int)) (hx2 : x ≤ 100) (hW : W ≤ 1000) (hz : z + 18 ≤ W) :
    Calls Tryd.prog 49 #[.agg #[.int .i64 c, .int .i64 x], .int .i64 low, .int .i64 (W : Int)] w fun e w' => ∃ g cap, e = .returned (.slice (some ⟨g, 0, none⟩) W cap) ∧ W ≤ cap ∧ DS w' g 0 W (Dm.cl c.natAbs W z) ∧ Below w.heap.size w w' := by
  have X := hide hx
  have hx3 : low ≤ x := by omega
  have hx4 : x - low ≤ 1000 := by omega
  clear hx
  go_enter Tryd.func49, Tryd.ntmps49
  go_wp2_with fail
  refine (size_any c x _ h1 h2).mono ?_
  rintro e w1 ⟨rfl, hb⟩
  rw [unhide X]
  have hb0 : Below w.heap.size w w1 := ((Below.refl _ _).alloc (Nat.le_refl _) _).trans (hb.mono (by simp))
  go_wp2_with fail
  rw [show (W : Int) - (z : Int) = ((W - z : Nat) : Int) by omega]
  refine (padded_any c.natAbs (W - z) _ (by omega) (by omega)).mono ?_
  rintro e w2 ⟨rfl, hown, hb2⟩
  have hD := DS.own hown (Dm.pd_lt _ _) (by omega)
  have hb3 : Below w.heap.size w w2 := hb0.trans (hb2.mono hb0.size)
  clear hown
  rcases Nat.eq_zero_or_pos z with h0 | h0
  · subst h0
    have hr := run_append_no_zeros w2 (some ⟨w1.heap.size, 0, none⟩) (W - 0) (W - 0) (Nat.le_refl _)
    have hD' := hide hD
    clear hD
    go_wp2_with (at_builtin; refine Lib.wpList_append_run _ rfl _ _ _ _ rfl _ _ rfl rfl _ _ hr ?_)
    go_ret
    refine ⟨_, _, rfl, Nat.le_refl _, ?_, hb3⟩
    have := unhide hD'
    exact ⟨this.blk, fun j hj => by rw [this.cell j hj]; unfold Dm.cl; rw [if_pos (by omega)], Dm.cl_lt _ _ _, by omega⟩
  · obtain ⟨cap, w3, hcap, hr, hD3, hb4⟩ := col_grow h0 (by omega) hD
    have hD' := hide hD3
    clear hD hD3
    go_wp2_with (at_builtin; refine Lib.wpList_append_run _ rfl _ _ _ _ rfl _ _ rfl rfl _ _ hr ?_)
    go_ret
    have := unhide hD'
    rw [show W - z + z = W by omega] at this hcap ⊢
    exact ⟨_, _, rfl, hcap, this, hb3.trans (hb4.mono hb3.size)⟩
end Go.Proofs.YtehnpfjmanmgpaaDoor
