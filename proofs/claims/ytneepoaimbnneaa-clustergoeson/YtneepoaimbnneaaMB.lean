/- Walks: within, Rising, At, Most. -/
import Derived.Test.YtneepoaimbnneaaMA
import Derived.BigRegion
namespace Go.Proofs.Ytneepoaimbnneaa.Rf

theorem rises_first {l : List Item} {most : Int} (h : rises l most) (k : Nat) : rises (l.take k) most :=
  ⟨fun x hx => h.1 x (List.mem_of_mem_take hx), h.2.sublist (List.take_sublist k l)⟩
theorem rises_nil (most : Int) : rises [] most := ⟨(fun _ hx => by cases hx), List.Pairwise.nil⟩
theorem rises_step {l : List Item} {most : Int} {m : Nat} {x : Item} (hx : l[m]? = some x) (h : rises (l.take m) most) : rises (l.take (m + 1)) most ↔ inB x.1 1 most ∧ ∀ y, 0 < m → l[m - 1]? = some y → y.1 ≤ x.1 := by
  have hm : m < l.length := (List.getElem?_eq_some_iff.1 hx).1
  have e : l.take (m + 1) = l.take m ++ [x] := by
    rw [List.take_add_one, hx]
    rfl
  rw [e]
  constructor
  · rintro ⟨h1, h2⟩
    refine ⟨h1 x (by simp), fun y h0 hy => ?_⟩
    rw [List.pairwise_append] at h2
    refine h2.2.2 y ?_ x (by simp)
    refine List.mem_of_getElem? (i := m - 1) ?_
    rw [List.getElem?_take_of_lt (by omega)]
    exact hy
  · rintro ⟨h1, h2⟩
    refine ⟨fun z hz => ?_, ?_⟩
    · rcases List.mem_append.1 hz with q | q
      · exact h.1 z q
      · simp at q; subst q; exact h1
    · rw [List.pairwise_append]
      refine ⟨h.2, List.pairwise_singleton _ _, fun a ha b hb => ?_⟩
      simp at hb
      subst hb
      obtain ⟨i, hi, rfl⟩ := List.getElem_of_mem ha
      rw [List.length_take] at hi
      have hl : l[m - 1]? = some (l[m - 1]'(by omega)) := List.getElem?_eq_getElem (by omega)
      have h3 := h2 _ (by omega) hl
      rw [List.getElem_take]
      by_cases e : i = m - 1
      · subst e; exact h3
      · have := List.pairwise_iff_getElem.1 h.2 i (m - 1) (by rw [List.length_take]; omega) (by rw [List.length_take]; omega) (by omega)
        simp only [List.getElem_take] at this
        exact Int.le_trans this h3
theorem atN_at {l : List Item} {k : Nat} {x : Item} (h : l[k]? = some x) : atN l (k + 1) = x.1 := by simp [atN, h]
theorem atN_zero (l : List Item) : atN l 0 = 0 := rfl
theorem atN_none {l : List Item} {k : Nat} (h : l.length < k) : atN l k = 0 := by
  cases k with
  | zero => omega
  | succ k => simp [atN, List.getElem?_eq_none (by omega : l.length ≤ k)]

end Go.Proofs.Ytneepoaimbnneaa.Rf

namespace Go.Proofs.Ytneepoaimbnneaa.R15
open Go.RowKit

set_option maxHeartbeats 1000000 in
theorem at_any (l : List Rf.Item) (v : Value) (i : Nat) (w : World) (hl : Tv w v l) : Calls Try.prog 6 #[v, .int .i64 (i : Int)] w fun e w' => e = .returned (.int .i64 (Rf.atN l i)) ∧ ∃ m, w' = w.drewN m := by
  obtain ⟨a, cap, rfl, hc1, hc2⟩ := SC.shape hl
  by_cases h1 : 1 ≤ i ∧ i ≤ l.length
  · obtain ⟨h1, h2⟩ := h1
    have h1' : (1 : Int) ≤ (i : Int) := by omega
    have h2' : (i : Int) ≤ (l.length : Int) := by omega
    obtain ⟨x, hx⟩ : ∃ x, l[i - 1]? = some x := ⟨_, List.getElem?_eq_getElem (by omega)⟩
    have hne : l ≠ [] := by intro e; rw [e] at h2; simp at h2; omega
    obtain ⟨b, off, cap', e, hb, _, _⟩ := hl.ex hne
    cases e
    obtain ⟨c0, c1⟩ := hl.at hx
    have em : (i : Int) - 1 = ((i - 1 : Nat) : Int) := by omega
    have lm : ((i - 1 : Nat) : Int) < (l.length : Int) := by omega
    have HE : Rf.atN l i = x.1 := by
      have := Rf.atN_at hx
      rwa [show i - 1 + 1 = i by omega] at this
    rw [HE]
    clear HE hx hl hne
    go_enter Try.func6, Try.ntmps6
    go_wp2
    all_goals
      go_ret
      exact ⟨rfl, 0, rfl⟩
  · have HE : Rf.atN l i = 0 := by
      by_cases e : i = 0
      · rw [e]; rfl
      · exact Rf.atN_none (by omega)
    rw [HE]
    clear hl
    by_cases h3 : (1 : Int) ≤ (i : Int)
    · have h4 : ¬ (i : Int) ≤ (l.length : Int) := by omega
      go_enter Try.func6, Try.ntmps6
      go_wp2
      go_ret
      exact ⟨rfl, 0, rfl⟩
    · go_enter Try.func6, Try.ntmps6
      go_wp2
      go_ret
      exact ⟨rfl, 0, rfl⟩

end Go.Proofs.Ytneepoaimbnneaa.R15
