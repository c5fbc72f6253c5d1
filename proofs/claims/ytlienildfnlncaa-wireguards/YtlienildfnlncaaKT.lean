/- The law WireGuards' walk. -/
import Derived.Test.YtlienildfnlncaaKR
import Derived.Test.YtlienildfnlncaaKS
namespace Go.Proofs.Ytlienildfnlncaa
open Go.RowKit

/-- so many bytes are changed -/
def cK (l : List UInt8) (A X k : Nat) : List UInt8 := l.mapIdx fun i v => if A ≤ i ∧ i < A + k then v ^^^ xb X (i - A) else v
theorem cK_len (l : List UInt8) (A X k : Nat) : (cK l A X k).length = l.length := by simp [cK]
theorem cK_zero (l : List UInt8) (A X : Nat) : cK l A X 0 = l := by
  apply List.ext_getElem
  · simp [cK]
  · intro i h1 h2
    simp [cK]
    omega
theorem cK_at {l : List UInt8} {A X k : Nat} (h : A + k < l.length) : (cK l A X k)[A + k]? = some l[A + k] := by
  simp [cK, h]
theorem cK_step {l : List UInt8} {A X k : Nat} (h : A + k < l.length) : (cK l A X k).set (A + k) (l[A + k] ^^^ xb X k) = cK l A X (k + 1) := by
  apply List.ext_getElem
  · simp [cK]
  · intro i h1 h2
    rw [List.getElem_set]
    simp only [cK, List.getElem_mapIdx]
    split
    · rename_i e
      subst e
      rw [if_pos (by omega)]
      simp
    · rename_i e
      by_cases q : A ≤ i ∧ i < A + k
      · rw [if_pos q, if_pos (by omega)]
      · rw [if_neg q, if_neg (by omega)]
theorem cK_four {l : List UInt8} {A X : Nat} (h : A + 4 ≤ l.length) : cK l A X 4 = List.zipWith (· ^^^ ·) l (delta (l.length - 4) A X) := by
  apply List.ext_getElem
  · simp [cK, delta_len (n := l.length - 4) (a := A) (x := X) (by omega)]
    omega
  · intro i h1 h2
    simp only [cK, List.getElem_mapIdx, List.getElem_zipWith]
    have hd : (delta (l.length - 4) A X).length = l.length - 4 + 4 := delta_len (by omega)
    have hi : i < l.length := by simpa [cK] using h1
    by_cases q : A ≤ i ∧ i < A + 4
    · rw [if_pos q]
      congr 1
      obtain ⟨j, rfl⟩ : ∃ j, i = A + j := ⟨i - A, by omega⟩
      have e : (delta (l.length - 4) A X)[A + j]? = some (xb X j) := by
        unfold delta
        rw [List.append_assoc, List.getElem?_append_right (by simp), List.length_replicate, show A + j - A = j by omega, List.getElem?_append_left (by show j < 4; omega)]
        rcases (by omega : j = 0 ∨ j = 1 ∨ j = 2 ∨ j = 3) with rfl | rfl | rfl | rfl <;> rfl
      rw [List.getElem?_eq_getElem (by omega)] at e
      rw [Option.some.inj e, show A + j - A = j by omega]
    · rw [if_neg q]
      have e : (delta (l.length - 4) A X)[i]? = some 0 := by
        unfold delta
        rcases Nat.lt_or_ge i A with p | p
        · rw [List.append_assoc, List.getElem?_append_left (by simpa using p), List.getElem?_replicate, if_pos p]
        · rw [List.getElem?_append_right (by simp [xs]; omega), List.getElem?_replicate, if_pos (by simp [xs]; omega)]
      rw [List.getElem?_eq_getElem (by omega)] at e
      rw [Option.some.inj e]
      simp
end Go.Proofs.Ytlienildfnlncaa
