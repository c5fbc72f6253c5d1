/- Walks: padded. -/
import Derived.Test.YtehnpfjmanmgpaaDoorMem
namespace Go.Proofs.YtehnpfjmanmgpaaDoor
open Go.RowKit

/-- the cells of n digits -/
def rowL (D : Nat → Nat) (n : Nat) : List Value := (List.range n).map fun j => Value.int .u8 (D j : Int)
theorem rowL_len (D : Nat → Nat) (n : Nat) : (rowL D n).length = n := by simp [rowL]
theorem rowL_at (D : Nat → Nat) {n j : Nat} (h : j < n) : (rowL D n)[j]? = some (Value.int .u8 (D j : Int)) := by simp [rowL, h]
theorem rowL_set (D : Nat → Nat) (n i d : Nat) : (rowL D n).set i (Value.int .u8 (d : Int)) = rowL (Dm.upd D i d) n := by
  apply List.ext_getElem?
  intro j
  rw [List.getElem?_set]
  by_cases h : j < n
  · by_cases e : i = j
    · subst e; rw [if_pos rfl, if_pos (by rw [rowL_len]; exact h), rowL_at _ h, Dm.upd_same]
    · rw [if_neg e, rowL_at _ h, rowL_at _ h, Dm.upd_other (fun q => e q.symm)]
  · have a : (rowL D n)[j]? = none := List.getElem?_eq_none (by rw [rowL_len]; omega)
    have b : (rowL (Dm.upd D i d) n)[j]? = none := List.getElem?_eq_none (by rw [rowL_len]; omega)
    rw [a, b]
    by_cases e : i = j
    · subst e; rw [if_pos rfl, if_neg (by rw [rowL_len]; exact h)]
    · rw [if_neg e]
theorem rowL_zero (n : Nat) : List.replicate n (Value.int .u8 0) = rowL (fun _ => 0) n := by
  apply List.ext_getElem?
  intro j
  by_cases h : j < n
  · rw [rowL_at _ h]; simp [h]
  · rw [List.getElem?_eq_none (by simp; omega), List.getElem?_eq_none (by rw [rowL_len]; omega)]
theorem rowL_congr {D E : Nat → Nat} {n : Nat} (h : ∀ j, j < n → D j = E j) : rowL D n = rowL E n := by
  unfold rowL
  refine List.map_congr_left fun j hj => ?_
  rw [h j (by simpa using hj)]
theorem DS.own {w : World} {base e g n cap : Nat} {D : Nat → Nat} (h : w.ownsRow base e 1 (.slice (some ⟨g, 0, none⟩) n cap) n (rowL D n)) (hD : ∀ j, D j < 10) (hn : n ≤ 1000) : DS w g 0 n D := by
  refine ⟨?_, fun j hj => ?_, hD, hn⟩
  · rcases h.2 with ⟨h', _⟩ | ⟨g', cap', cur, h', _, hg, _⟩
    · simp at h'
    · simp only [Value.slice.injEq, Option.some.injEq, Addr.mk.injEq, and_true, true_and] at h'
      obtain ⟨rfl, rfl⟩ := h'
      rcases Nat.lt_or_ge g w.heap.size with q | q
      · exact q
      · rw [Array.getElem?_eq_none q] at hg; simp at hg
  · rw [Nat.zero_add, h.cellAt j (by omega), rowL_at _ hj]

theorem info_u8 : (Tryd.prog.info? 5).map (fun i => (i.zero, i.size, i.bytes)) = some (some (.int .u8 0), 1, 1) := by kernel_rfl

theorem pad_quo {N W q m : Nat} (h : q = N / 10 ^ (W - (m + 1))) (hm : m + 1 ≤ W) : q / 10 = N / 10 ^ (W - m) := by
  rw [h, Nat.div_div_eq_div_mul, ← Nat.pow_succ, show (W - (m + 1)).succ = W - m by omega]
theorem pad_dig {N W q m : Nat} {R : Nat → Nat} (h : q = N / 10 ^ (W - (m + 1))) (_hm : m + 1 ≤ W) (hR : ∀ j, m + 1 ≤ j → j < W → R j = Dm.pd N W j) : ∀ j, m ≤ j → j < W → Dm.upd R m (q % 10) j = Dm.pd N W j := by
  intro j a b
  by_cases e : j = m
  · subst e; rw [Dm.upd_same, h]; unfold Dm.pd; rw [show W - 1 - j = W - (j + 1) by omega]
  · rw [Dm.upd_other e]; exact hR j (by omega) b

set_option maxHeartbeats 400000 in
theorem padded_any (N W : Nat) (w : World) (hN : N < 18446744073709551616) (hW : W ≤ 1000) :
    Calls Tryd.prog 66 #[.int .u64 (N : Int), .int .i64 (W : Int)] w fun e w' => e = .returned (.slice (some ⟨w.heap.size, 0, none⟩) W W) ∧ w'.ownsRow w.heap.size 5 1 (.slice (some ⟨w.heap.size, 0, none⟩) W W) W (rowL (Dm.pd N W) W) ∧ Below w.heap.size w w' := by
  obtain ⟨i0, hi, hz0, hz1, hz2⟩ := info_parts info_u8
  go_enter Tryd.func66, Tryd.ntmps66
  go_wp2_with (at_make; refine wpList_make_full _ rfl _ _ 49 rfl w.heap.size 5 i0 (.int .u8 0) 1 Tryd.underlying49 hi hz0 hz1 _ _ _ _ W rfl rfl rfl rfl ?c1 ?c2 ?c3 ?_)
  case c1 => rw [hz2]; omega
  case c2 => unfold maxLen; omega
  case c3 => exact Nat.le_refl _
  intro w1 hown hgrow
  have hb1 : Below w.heap.size w w1 := (Below.refl _ _).grown hgrow (Nat.le_refl _) (fun k hk => by simp at hk)
  rw [toList_madeCells_one, rowL_zero] at hown
  clear hgrow hi hz0 hz1 hz2
  go_wp2
  go_loopw [0, 6] (fun a i wr => ∃ (m q : Nat) (R : Nat → Nat), m ≤ W ∧ i = .int .i64 ((m : Int) - 1) ∧ a = .int .u64 (q : Int) ∧ q < 18446744073709551616 ∧ Hid (q = N / 10 ^ (W - m)) ∧ Hid (∀ j, m ≤ j → j < W → R j = Dm.pd N W j) ∧ wr.ownsRow w.heap.size 5 1 (.slice (some ⟨w.heap.size, 0, none⟩) W W) W (rowL R W) ∧ Below w.heap.size w wr) (fun _ i _ => (intOf i + 1).toNat)
  case atStart => exact ⟨W, N, _, Nat.le_refl _, rfl, rfl, hN, hide (by simp), hide (fun j a b => by omega), hown, hb1⟩
  case round =>
    obtain ⟨m, q, R, hm, rfl, rfl, hq, HQ, HR, hownr, hbr⟩ := hrel
    clear hown hb1
    cases m with
    | zero =>
      have HD := hide (rowL_congr (D := R) (E := Dm.pd N W) (n := W) (fun j hj => unhide HR j (Nat.zero_le _) hj))
      go_wp2
      go_ret
      rw [unhide HD] at hownr
      exact ⟨rfl, hownr, hbr⟩
    | succ m' =>
      rw [show ((m' + 1 : Nat) : Int) - 1 = (m' : Int) by omega]
      have hfr := hownr.frozenAt m'
      have hcl := (hownr.cellAt m' (by omega)).trans (rowL_at R (by omega))
      have hst := hide (hownr.stored m' (.int .u8 ((q % 10 : Nat) : Int))).1
      clear hownr
      have E1 := hide (pad_quo (unhide HQ) hm)
      have E2 := hide (pad_dig (unhide HQ) hm (unhide HR))
      rw [rowL_set] at hst
      go_wp2
      rw [show (q : Int) % 10 = ((q % 10 : Nat) : Int) by omega, show (q : Int) / 10 = ((q / 10 : Nat) : Int) by omega]
      refine ⟨⟨m', q / 10, Dm.upd R m' (q % 10), by omega, rfl, rfl, by omega, E1, E2, unhide hst, hbr.setCell (Nat.le_refl _) _⟩, ?_⟩
      simp [intOf]
end Go.Proofs.YtehnpfjmanmgpaaDoor
