/- Walks: within, Rising, At, Most. -/
import Derived.Test.YtiplnegiphhdlaaMA
import Derived.BigRegion
namespace Go.Proofs.Ytiplnegiphhdlaa.Rf

theorem rises_first {l : List Item} {most : Int} (h : rises l most) (k : Nat) : rises (l.take k) most :=
  ⟨fun x hx => h.1 x (List.mem_of_mem_take hx), h.2.sublist (List.take_sublist k l)⟩
theorem rises_nil (most : Int) : rises [] most := ⟨(fun _ hx => by cases hx), List.Pairwise.nil⟩
theorem rises_step {l : List Item} {most : Int} {m : Nat} {x : Item} (hx : l[m]? = some x) (h : rises (l.take m) most) : rises (l.take (m + 1)) most ↔ inB x.1 1 most ∧ ∀ y, 0 < m → l[m - 1]? = some y → y.1 ≤ x.1 := by
  have hm : m < l.length := (List.getElem?_eq_some_iff.1 hx).1
  have e : l.take (m + 1) = l.take m ++ [x] := by
    rw [List.take_add_one, hx]
    rfl
  rw [e]
  constructor
  · rintro ⟨h1, h2⟩
    refine ⟨h1 x (by simp), fun y h0 hy => ?_⟩
    rw [List.pairwise_append] at h2
    refine h2.2.2 y ?_ x (by simp)
    refine List.mem_of_getElem? (i := m - 1) ?_
    rw [List.getElem?_take_of_lt (by omega)]
    exact hy
  · rintro ⟨h1, h2⟩
    refine ⟨fun z hz => ?_, ?_⟩
    · rcases List.mem_append.1 hz with q | q
      · exact h.1 z q
      · simp at q; subst q; exact h1
    · rw [List.pairwise_append]
      refine ⟨h.2, List.pairwise_singleton _ _, fun a ha b hb => ?_⟩
      simp at hb
      subst hb
      obtain ⟨i, hi, rfl⟩ := List.getElem_of_mem ha
      rw [List.length_take] at hi
      have hl : l[m - 1]? = some (l[m - 1]'(by omega)) := List.getElem?_eq_getElem (by omega)
      have h3 := h2 _ (by omega) hl
      rw [List.getElem_take]
      by_cases e : i = m - 1
      · subst e; exact h3
      · have := List.pairwise_iff_getElem.1 h.2 i (m - 1) (by rw [List.length_take]; omega) (by rw [List.length_take]; omega) (by omega)
        simp only [List.getElem_take] at this
        exact Int.le_trans this h3
theorem atN_at {l : List Item} {k : Nat} {x : Item} (h : l[k]? = some x) : atN l (k + 1) = x.1 := by simp [atN, h]
theorem atN_zero (l : List Item) : atN l 0 = 0 := rfl
theorem atN_none {l : List Item} {k : Nat} (h : l.length < k) : atN l k = 0 := by
  cases k with
  | zero => omega
  | succ k => simp [atN, List.getElem?_eq_none (by omega : l.length ≤ k)]

end Go.Proofs.Ytiplnegiphhdlaa.Rf

namespace Go.Proofs.Ytiplnegiphhdlaa.R15
open Go.RowKit

theorem within_any (a lo hi : Int) (w : World) : Calls Try.prog 22 #[.int .i64 a, .int .i64 lo, .int .i64 hi] w fun e w' => e = .returned (.bool (decide (Rf.inB a lo hi))) ∧ w' = w := by
  by_cases h1 : lo ≤ a
  · by_cases h2 : a ≤ hi
    · have h : decide (Rf.inB a lo hi) = true := decide_eq_true ⟨h1, h2⟩
      rw [h]
      go_enter Try.func22, Try.ntmps22
      go_wp2
      go_ret
      exact ⟨rfl, rfl⟩
    · have h : decide (Rf.inB a lo hi) = false := decide_eq_false (fun q => h2 q.2)
      rw [h]
      go_enter Try.func22, Try.ntmps22
      go_wp2
      go_ret
      exact ⟨rfl, rfl⟩
  · have h : decide (Rf.inB a lo hi) = false := decide_eq_false (fun q => h1 q.1)
    rw [h]
    go_enter Try.func22, Try.ntmps22
    go_wp2
    go_ret
    exact ⟨rfl, rfl⟩

set_option maxHeartbeats 2000000 in
theorem rising_any (l : List Rf.Item) (v : Value) (most : Int) (w : World) (hl : Tv w v l) : Calls Try.prog 23 #[v, .int .i64 most] w fun e w' => e = .returned (.bool (decide (Rf.rises l most))) ∧ Below w.heap.size w w' := by
  obtain ⟨a, cap, rfl, hc1, hc2⟩ := SC.shape hl
  have HL := hide hl
  clear hl
  go_enter Try.func23, Try.ntmps23
  go_wp2_with fail
  go_loopw [9] (fun i wr => ∃ m : Nat, m ≤ l.length ∧ i = .int .i64 (m : Int) ∧ Hid (Rf.rises (l.take m) most) ∧ Hid (Below w.heap.size w wr)) (fun i _ => l.length - (intOf i).toNat)
  case atStart => exact ⟨0, Nat.zero_le _, rfl, hide (Rf.rises_nil most), hide (Below.refl _ _)⟩
  case round =>
    obtain ⟨m, hm, rfl, HR, HB⟩ := hrel
    by_cases hlt : m < l.length
    · have hi1 : (m : Int) < (l.length : Int) := by omega
      obtain ⟨x, hx⟩ : ∃ x, l[m]? = some x := ⟨_, List.getElem?_eq_getElem hlt⟩
      have hne : l ≠ [] := by intro e; rw [e] at hlt; simp at hlt
      obtain ⟨b, off, cap', e, hb, _, _⟩ := (unhide HL).ex hne
      cases e
      have hT := TV.keep (kept (unhide HB)) (unhide HL)
      obtain ⟨c0, c1⟩ := hT.at hx
      have HB' := hide (below_via (unhide HB) (below_new wr (.cells #[.int .i64 x.1, .int .i64 x.2] 58)))
      have HN := hide (fun y (h0 : 0 < m) (hy : l[m - 1]? = some y) => (hT.at hy).1)
      have HS := hide (Rf.rises_step hx (unhide HR))
      have hF : ¬ Rf.rises (l.take (m + 1)) most → decide (Rf.rises l most) = false := fun h => decide_eq_false (fun q => h (Rf.rises_first q _))
      clear hT
      by_cases d1 : x.1 < 1
      · have h := hF (fun q => absurd ((unhide HS).1 q).1.1 (by omega))
        clear hF hx hne HS HN HR
        have b1 : decide (x.1 < 1) = true := by simpa using d1
        go_wp2_with fail
        go_quiet (fail)
        focus
          go_wp2
          go_ret
          exact ⟨by first | (rw [h]; done) | (rw [h]; rfl), below_drewN (unhide HB') _⟩
      by_cases d2 : most < x.1
      · have h := hF (fun q => absurd ((unhide HS).1 q).1.2 (by omega))
        clear hF hx hne HS HN HR
        have b1 : decide (x.1 < 1) = false := by simpa using d1
        have b2 : decide (most < x.1) = true := by simpa using d2
        go_wp2_with fail
        go_quiet (fail)
        focus
          go_wp2
          go_ret
          exact ⟨by first | (rw [h]; done) | (rw [h]; rfl), below_drewN (unhide HB') _⟩
      by_cases d3 : 0 < m
      · have d3' : 0 < (m : Int) := by omega
        obtain ⟨y, hy⟩ : ∃ y, l[m - 1]? = some y := ⟨_, List.getElem?_eq_getElem (by omega)⟩
        have cy := unhide HN y d3 hy
        have hbl : b < wr.heap.size := Nat.lt_of_lt_of_le hb (unhide HB).size
        have hbn : b ≠ wr.heap.size := by omega
        have em : (m : Int) - 1 = ((m - 1 : Nat) : Int) := by omega
        have lm : ((m - 1 : Nat) : Int) < (l.length : Int) := by omega
        have lm2 : m - 1 < l.length := by omega
        have ew : IntKind.i64.wrap ((m - 1 : Nat) : Int) = ((m - 1 : Nat) : Int) := wrap_i64 (by omega) (by omega)
        by_cases d4 : x.1 < y.1
        · have h := hF (fun q => absurd (((unhide HS).1 q).2 y d3 hy) (by omega))
          clear hF hx hne HS HN HR hy d3
          have b1 : decide (x.1 < 1) = false := by simpa using d1
          have b2 : decide (most < x.1) = false := by simpa using d2
          have b3 : decide (0 < m) = true := by simpa using d3'
          have b4 : decide (x.1 < y.1) = true := by simpa using d4
          go_wp2_with fail
          go_quiet (fail)
          focus
            go_wp2
            go_ret
            exact ⟨by first | (rw [h]; done) | (rw [h]; rfl), below_drewN (unhide HB') _⟩
        · have h := (unhide HS).2 ⟨⟨by omega, by omega⟩, fun z _ hz => by rw [hy] at hz; cases hz; omega⟩
          clear hF hx hne HS HN HR hy d3
          have b1 : decide (x.1 < 1) = false := by simpa using d1
          have b2 : decide (most < x.1) = false := by simpa using d2
          have b3 : decide (0 < m) = true := by simpa using d3'
          have b4 : decide (x.1 < y.1) = false := by simpa using d4
          go_wp2_with fail
          go_quiet (fail)
          focus
            go_wp2
            go_roundw
            case rel => exact ⟨m + 1, by omega, by go_num, hide h, hide (below_drewN (unhide HB') _)⟩
            case measure => simp [intOf]; omega
      · have d3' : ¬ 0 < (m : Int) := by omega
        have h := (unhide HS).2 ⟨⟨by omega, by omega⟩, fun z hz _ => absurd hz d3⟩
        clear hF hx hne HS HN HR d3
        have b1 : decide (x.1 < 1) = false := by simpa using d1
        have b2 : decide (most < x.1) = false := by simpa using d2
        have b3 : decide (0 < m) = false := by simpa using d3'
        go_wp2_with fail
        go_quiet (fail)
        focus
          go_wp2
          go_roundw
          case rel => exact ⟨m + 1, by omega, by go_num, hide h, hide (below_drewN (unhide HB') _)⟩
          case measure => simp [intOf]; omega
    · obtain rfl : m = l.length := by omega
      have h : decide (Rf.rises l most) = true := decide_eq_true (by have := unhide HR; rwa [List.take_length] at this)
      go_wp2
      go_ret
      exact ⟨by first | (rw [h]; done) | (rw [h]; rfl), unhide HB⟩

set_option maxHeartbeats 1000000 in
theorem at_any (l : List Rf.Item) (v : Value) (i : Nat) (w : World) (hl : Tv w v l) : Calls Try.prog 26 #[v, .int .i64 (i : Int)] w fun e w' => e = .returned (.int .i64 (Rf.atN l i)) ∧ ∃ m, w' = w.drewN m := by
  obtain ⟨a, cap, rfl, hc1, hc2⟩ := SC.shape hl
  by_cases h1 : 1 ≤ i ∧ i ≤ l.length
  · obtain ⟨h1, h2⟩ := h1
    have h1' : (1 : Int) ≤ (i : Int) := by omega
    have h2' : (i : Int) ≤ (l.length : Int) := by omega
    obtain ⟨x, hx⟩ : ∃ x, l[i - 1]? = some x := ⟨_, List.getElem?_eq_getElem (by omega)⟩
    have hne : l ≠ [] := by intro e; rw [e] at h2; simp at h2; omega
    obtain ⟨b, off, cap', e, hb, _, _⟩ := hl.ex hne
    cases e
    obtain ⟨c0, c1⟩ := hl.at hx
    have em : (i : Int) - 1 = ((i - 1 : Nat) : Int) := by omega
    have lm : ((i - 1 : Nat) : Int) < (l.length : Int) := by omega
    have HE : Rf.atN l i = x.1 := by
      have := Rf.atN_at hx
      rwa [show i - 1 + 1 = i by omega] at this
    rw [HE]
    clear HE hx hl hne
    go_enter Try.func26, Try.ntmps26
    go_wp2
    all_goals
      go_ret
      exact ⟨rfl, 0, rfl⟩
  · have HE : Rf.atN l i = 0 := by
      by_cases e : i = 0
      · rw [e]; rfl
      · exact Rf.atN_none (by omega)
    rw [HE]
    clear hl
    by_cases h3 : (1 : Int) ≤ (i : Int)
    · have h4 : ¬ (i : Int) ≤ (l.length : Int) := by omega
      go_enter Try.func26, Try.ntmps26
      go_wp2
      go_ret
      exact ⟨rfl, 0, rfl⟩
    · go_enter Try.func26, Try.ntmps26
      go_wp2
      go_ret
      exact ⟨rfl, 0, rfl⟩

end Go.Proofs.Ytiplnegiphhdlaa.R15
