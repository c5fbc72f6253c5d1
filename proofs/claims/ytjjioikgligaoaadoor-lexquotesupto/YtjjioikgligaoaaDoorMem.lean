/- Digits in memory: a slice of bytes that holds them. -/
import Derived.Test.YtjjioikgligaoaaDoorW2
import Derived.Test.YtjjioikgligaoaaDoorDig
import Derived.Lib.AppendZerosOnto
namespace Go.Proofs.YtjjioikgligaoaaDoor
open Go.RowKit

/-- the slice at block b, from off on, holds the n digits that D tells -/
structure DS (w : World) (b off n : Nat) (D : Nat → Nat) : Prop where
  blk : b < w.heap.size
  cell : ∀ j, j < n → w.cell? ⟨b, off + j, none⟩ = some (.int .u8 (D j : Int))
  dig : ∀ j, D j < 10
  len : n ≤ 1000

theorem DS.below {w w' : World} {b off n : Nat} {D : Nat → Nat} (h : DS w b off n D) (hb : Below w.heap.size w w') : DS w' b off n D :=
  ⟨Nat.lt_of_lt_of_le h.blk hb.size, fun j hj => (hb.cell (p := ⟨b, off + j, none⟩) h.blk).trans (h.cell j hj), h.dig, h.len⟩
theorem DS.drop {w : World} {b off n : Nat} {D : Nat → Nat} (h : DS w b off n D) (k : Nat) (hk : k ≤ n) : DS w b (off + k) (n - k) (fun j => D (k + j)) :=
  ⟨h.blk, fun j hj => by rw [Nat.add_assoc]; exact h.cell (k + j) (by omega), fun j => h.dig _, by have := h.len; omega⟩
theorem DS.empty {w : World} {b off n : Nat} {D : Nat → Nat} (h : DS w b off n D) (off' : Nat) {E : Nat → Nat} (hE : ∀ j, E j < 10) {m : Nat} (hm : m = 0) : DS w b off' m E :=
  ⟨h.blk, fun j hj => absurd hj (by omega), hE, by omega⟩
end Go.Proofs.YtjjioikgligaoaaDoor
