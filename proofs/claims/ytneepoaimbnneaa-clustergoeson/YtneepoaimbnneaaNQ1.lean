/- slices.BinarySearch, slices.Insert of numbers that a slice owns. -/
import Derived.Test.YtneepoaimbnneaaNI
namespace Go.Proofs.Ytneepoaimbnneaa
open Go.RowKit

theorem setCells_heap (g : Nat) (e : TypeId) : ∀ (vs : List Value) (o : Nat) (w : World) (cur : Array Value), w.heap[g]? = some (.cells cur e (0, 0)) → ∃ cur', (w.setCells g o vs).heap[g]? = some (.cells cur' e (0, 0)) ∧ cur'.size = cur.size ∧ w.grownBy (w.setCells g o vs) (some g)
  | [], o, w, cur, h => ⟨cur, h, rfl, World.grownBy.refl _ _⟩
  | v :: vs, o, w, cur, h => by
    obtain ⟨cur', h1, h2, h3⟩ := setCells_heap g e vs (o + 1) (w.setCell ⟨g, o, none⟩ v) (cur.setIfInBounds o v) (heap_setCell_same w g o cur e v h)
    exact ⟨cur', h1, by rw [h2]; simp, grown_trans (grown_set w ⟨g, o, none⟩ v) h3⟩
/-- a row that is known cell by cell is owned -/
theorem own_of_cells {w : World} {B g n cap : Nat} {e : TypeId} {cur : Array Value} {xs : List Value} (hg : w.heap[g]? = some (.cells cur e (0, 0))) (hB : B ≤ g) (hn : n ≤ cap) (hm : cap ≤ maxLen) (hs : cur.size = cap * 1) (hl : xs.length = n) (hc : ∀ j, j < n → w.cell? ⟨g, j, none⟩ = xs[j]?) : w.ownsRow B e 1 (.slice (some ⟨g, 0, none⟩) n cap) n xs := by
  refine ⟨by omega, .inr ⟨g, cap, cur, rfl, hB, hg, hn, hm, hs, ?_⟩⟩
  apply List.ext_getElem?
  intro j
  rw [Nat.mul_one, List.getElem?_take]
  split
  · rename_i hj
    rw [← hc j hj, cell_of_row w g j cur e (0, 0) hg]
    simp
  · rw [List.getElem?_eq_none (by omega)]

end Go.Proofs.Ytneepoaimbnneaa
namespace Go.Proofs.Ytneepoaimbnneaa.RW
open Go.RowKit

theorem search_any (B : Nat) (l : List Int) (v : Value) (x : Int) (w : World) (hv : w.ownsRow B 3 1 v l.length (ints l)) (hs : l.Pairwise (· ≤ ·)) (hl : l.length ≤ 1000) : Calls Try.prog 66 #[v, .int .i64 x] w fun e w' => e = .returned (.tuple #[.int .i64 ((l.countP (· < x) : Nat) : Int), .bool (decide (x ∈ l))]) ∧ ∃ q, w' = w.drewN q := by
  rcases hv.2 with ⟨rfl, h0⟩ | ⟨g, cap, cur, rfl, hb, hg, hn, hm, hc, ht⟩
  · obtain rfl := List.eq_nil_of_length_eq_zero h0
    refine (Any.slices_BinarySearch_int_empty Try.lays25 none 0 x w).mono ?_
    rintro e w' ⟨rfl, rfl⟩
    exact ⟨by simp, 0, rfl⟩
  · have hcell : ∀ j, j < l.length → w.cell? ⟨g, 0 + j, none⟩ = some (.int .i64 (l.getD j 0)) := fun j hj => by
      have := World.ownsRow.cells hv (g := g) rfl j (.int .i64 (l.getD j 0)) (by simp [ints, List.getD, List.getElem?_eq_getElem hj])
      rwa [Addr.add_lit] at this
    refine (Any.slices_BinarySearch_int Try.lays25 g 0 l.length cap l x w (Nat.le_refl _) (by omega) hcell (by rw [List.take_length]; exact hs)).mono ?_
    rintro e w' ⟨rfl, q⟩
    rw [List.take_length]
    exact ⟨by simp, q⟩

end Go.Proofs.Ytneepoaimbnneaa.RW
