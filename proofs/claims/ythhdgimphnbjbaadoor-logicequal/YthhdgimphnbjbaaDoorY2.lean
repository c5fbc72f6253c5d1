/- Walks: Same of two trees. -/
import Derived.Test.YthhdgimphnbjbaaDoorY1
import Derived.Test.YthhdgimphnbjbaaDoorX3
namespace Go.Proofs.YthhdgimphnbjbaaDoor
open Go.RowKit

/-- what Same tells of two trees -/
def SameC (T : Tree) : Prop := ∀ (U : Tree) (B : Nat) (w : World) (v u : Array Value), Mem B w T v → Mem B w U u → B ≤ w.heap.size →
  Calls Tryd.prog 8 #[.agg v, .agg u] w fun e w' => e = .returned (.bool (sameB T U)) ∧ Below w.heap.size w w'

theorem sameL_cons (u v : Tree) (us vs : List Tree) : sameL (u :: us) (v :: vs) = (sameB u v && sameL us vs) := by rw [sameL]
theorem sameL_nil (vs : List Tree) : sameL [] vs = true := by rw [sameL]

set_option maxHeartbeats 2000000 in
theorem same_no (k : Int) (y : Bool) (c x : Int) (t : ByteArray) (k' : Int) (y' : Bool) (c' x' : Int) (t' : ByteArray) (a a' : Option Addr) (n n' cap cap' B : Nat) (w : World) (hB : B ≤ w.heap.size)
    (h : ¬ (k = k' ∧ y = y' ∧ c = c' ∧ x = x' ∧ t.toList = t'.toList ∧ n = n')) :
    Calls Tryd.prog 8 #[.agg #[.int .i64 k, .bool y, .int .i64 c, .int .i64 x, .string t, .slice a n cap], .agg #[.int .i64 k', .bool y', .int .i64 c', .int .i64 x', .string t', .slice a' n' cap']] w fun e w' => e = .returned (.bool false) ∧ Below B w w' := by
  have hb : ∀ o o', Below B w ((w.alloc o).alloc o') := fun o o' => ((Below.refl B w).alloc hB o).alloc (by simp; omega) o'
  have HB := hide hb
  clear hb
  by_cases h1 : k = k'
  · subst h1
    by_cases h2 : y = y'
    · subst h2
      by_cases h3 : c = c' ∧ x = x'
      · obtain ⟨rfl, rfl⟩ := h3
        by_cases h4 : t.toList = t'.toList
        · have h5 : ¬ n = n' := fun q => h ⟨rfl, rfl, rfl, rfl, h4, q⟩
          have h5' : ((n : Int) != (n' : Int)) = true := by simp; omega
          clear h
          go_enter Tryd.func8, Tryd.ntmps8
          go_wp2
          go_ret
          exact ⟨rfl, unhide HB _ _⟩
        · have h4' : (t.toList == t'.toList) = false := by simp [h4]
          clear h
          go_enter Tryd.func8, Tryd.ntmps8
          go_wp2
          go_ret
          exact ⟨rfl, unhide HB _ _⟩
      · clear h
        by_cases h6 : c = c'
        · have h7 : ¬ x = x' := fun q => h3 ⟨h6, q⟩
          subst h6
          clear h3
          go_enter Tryd.func8, Tryd.ntmps8
          go_wp2
          go_ret
          exact ⟨rfl, unhide HB _ _⟩
        · clear h3
          go_enter Tryd.func8, Tryd.ntmps8
          go_wp2
          go_ret
          exact ⟨rfl, unhide HB _ _⟩
    · clear h
      have h2' : (y != y') = true := by simp [h2]
      go_enter Tryd.func8, Tryd.ntmps8
      go_wp2
      go_ret
      exact ⟨rfl, unhide HB _ _⟩
  · clear h
    have h1' : (k != k') = true := by simp [h1]
    go_enter Tryd.func8, Tryd.ntmps8
    go_wp2
    go_ret
    exact ⟨rfl, unhide HB _ _⟩
end Go.Proofs.YthhdgimphnbjbaaDoor
