/- Walks: padded. -/
import Derived.Test.YtjjioikgligaoaaDoorMem
namespace Go.Proofs.YtjjioikgligaoaaDoor
open Go.RowKit

/-- the cells of n digits -/
def rowL (D : Nat → Nat) (n : Nat) : List Value := (List.range n).map fun j => Value.int .u8 (D j : Int)
theorem rowL_len (D : Nat → Nat) (n : Nat) : (rowL D n).length = n := by simp [rowL]
theorem rowL_at (D : Nat → Nat) {n j : Nat} (h : j < n) : (rowL D n)[j]? = some (Value.int .u8 (D j : Int)) := by simp [rowL, h]
theorem rowL_set (D : Nat → Nat) (n i d : Nat) : (rowL D n).set i (Value.int .u8 (d : Int)) = rowL (Dm.upd D i d) n := by
  apply List.ext_getElem?
  intro j
  rw [List.getElem?_set]
  by_cases h : j < n
  · by_cases e : i = j
    · subst e; rw [if_pos rfl, if_pos (by rw [rowL_len]; exact h), rowL_at _ h, Dm.upd_same]
    · rw [if_neg e, rowL_at _ h, rowL_at _ h, Dm.upd_other (fun q => e q.symm)]
  · have a : (rowL D n)[j]? = none := List.getElem?_eq_none (by rw [rowL_len]; omega)
    have b : (rowL (Dm.upd D i d) n)[j]? = none := List.getElem?_eq_none (by rw [rowL_len]; omega)
    rw [a, b]
    by_cases e : i = j
    · subst e; rw [if_pos rfl, if_neg (by rw [rowL_len]; exact h)]
    · rw [if_neg e]
theorem rowL_zero (n : Nat) : List.replicate n (Value.int .u8 0) = rowL (fun _ => 0) n := by
  apply List.ext_getElem?
  intro j
  by_cases h : j < n
  · rw [rowL_at _ h]; simp [h]
  · rw [List.getElem?_eq_none (by simp; omega), List.getElem?_eq_none (by rw [rowL_len]; omega)]
theorem rowL_congr {D E : Nat → Nat} {n : Nat} (h : ∀ j, j < n → D j = E j) : rowL D n = rowL E n := by
  unfold rowL
  refine List.map_congr_left fun j hj => ?_
  rw [h j (by simpa using hj)]
theorem DS.own {w : World} {base e g n cap : Nat} {D : Nat → Nat} (h : w.ownsRow base e 1 (.slice (some ⟨g, 0, none⟩) n cap) n (rowL D n)) (hD : ∀ j, D j < 10) (hn : n ≤ 1000) : DS w g 0 n D := by
  refine ⟨?_, fun j hj => ?_, hD, hn⟩
  · rcases h.2 with ⟨h', _⟩ | ⟨g', cap', cur, h', _, hg, _⟩
    · simp at h'
    · simp only [Value.slice.injEq, Option.some.injEq, Addr.mk.injEq, and_true, true_and] at h'
      obtain ⟨rfl, rfl⟩ := h'
      rcases Nat.lt_or_ge g w.heap.size with q | q
      · exact q
      · rw [Array.getElem?_eq_none q] at hg; simp at hg
  · rw [Nat.zero_add, h.cellAt j (by omega), rowL_at _ hj]

theorem info_u8 : (Tryd.prog.info? 5).map (fun i => (i.zero, i.size, i.bytes)) = some (some (.int .u8 0), 1, 1) := by kernel_rfl

theorem pad_quo {N W q m : Nat} (h : q = N / 10 ^ (W - (m + 1))) (hm : m + 1 ≤ W) : q / 10 = N / 10 ^ (W - m) := by
  rw [h, Nat.div_div_eq_div_mul, ← Nat.pow_succ, show (W - (m + 1)).succ = W - m by omega]
theorem pad_dig {N W q m : Nat} {R : Nat → Nat} (h : q = N / 10 ^ (W - (m + 1))) (_hm : m + 1 ≤ W) (hR : ∀ j, m + 1 ≤ j → j < W → R j = Dm.pd N W j) : ∀ j, m ≤ j → j < W → Dm.upd R m (q % 10) j = Dm.pd N W j := by
  intro j a b
  by_cases e : j = m
  · subst e; rw [Dm.upd_same, h]; unfold Dm.pd; rw [show W - 1 - j = W - (j + 1) by omega]
  · rw [Dm.upd_other e]; exact hR j (by omega) b
end Go.Proofs.YtjjioikgligaoaaDoor
