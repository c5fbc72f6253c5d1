/- Walks: alive; what the tokens' cells hold. -/
import Derived.Test.YtjjioikgligaoaaDoorG1
namespace Go.Proofs.YtjjioikgligaoaaDoor
open Go.RowKit

theorem tokens_of (s : ByteArray) (w : World) (hL : LT w) (hS : SG w) :
    Calls Tryd.prog 9 #[.string s] w fun e w' => (∃ sv, e = .returned (.tuple #[sv, .agg #[.int .i64 (toksF s.data.toList).2.1, .int .i64 ((toksF s.data.toList).2.2 : Int)]]) ∧ TM (w.heap.size + 1) w' sv (toksF s.data.toList).1) ∧ Below w.heap.size w w' := by
  unfold toksF utfL
  rw [← Lib.size_eq]
  by_cases h : 4000 < s.size
  · rw [if_pos h]
    refine (tokens_much s w h).mono ?_
    rintro e w' ⟨rfl, hb⟩
    exact ⟨⟨_, rfl, TM.nil _ _⟩, hb⟩
  · rw [if_neg h]
    by_cases hu : leadL (gUtf s.data.toList) s.size 0 s.data.toList < s.size
    · rw [if_pos hu]
      refine (tokens_utf s w (by omega) _ rfl hu).mono ?_
      rintro e w' ⟨rfl, hb⟩
      exact ⟨⟨_, rfl, TM.nil _ _⟩, hb⟩
    · rw [if_neg hu]
      have := leadL_le (gUtf s.data.toList) s.size 0 s.data.toList
      rw [← Lib.size_eq] at this
      exact tokens_any s w (by omega) (by omega) hL hS

def aliveL : List UInt8 := [195, 169, 49, 32, 62, 61, 32, 48, 46, 53]
theorem alive_toks : toksF aliveL = ([⟨1, [195, 169, 49], 0, 0, 0⟩, ⟨4, [62, 61], 0, 0, 4⟩, ⟨2, [48, 46, 53], 5, -1, 7⟩], 0, 0) := by kernel_rfl

theorem tkCs_at : ∀ (l : List Tk) (i : Nat) (t : Tk), l[i]? = some t → ∀ j v, (tkC t)[j]? = some v → (tkCs l)[i * 5 + j]? = some v
  | [], i, t, h, _, _, _ => by simp at h
  | a :: l, 0, t, h, j, v, hv => by
    simp only [List.getElem?_cons_zero, Option.some.injEq] at h
    subst h
    have hj : j < (tkC a).length := (List.getElem?_eq_some_iff.1 hv).1
    rw [show tkCs (a :: l) = tkC a ++ tkCs l by simp [tkCs], List.getElem?_append_left (by omega)]
    simpa using hv
  | a :: l, i + 1, t, h, j, v, hv => by
    rw [show tkCs (a :: l) = tkC a ++ tkCs l by simp [tkCs], List.getElem?_append_right (by show 5 ≤ _; omega)]
    rw [show (i + 1) * 5 + j - (tkC a).length = i * 5 + j by show (i + 1) * 5 + j - 5 = _; omega]
    exact tkCs_at l i t (by simpa using h) j v hv

/-- a token's cells -/
theorem TM.at {B : Nat} {w : World} {sv : Value} {l : List Tk} (h : TM B w sv l) (hl : l ≠ []) : ∃ g cap, sv = .slice (some ⟨g, 0, none⟩) l.length cap ∧ l.length ≤ cap ∧ cap ≤ maxLen ∧ g < w.heap.size ∧ B ≤ g ∧ ∀ i t, l[i]? = some t → ∀ j v, (tkC t)[j]? = some v → w.cell? ⟨g, i * 5 + j, none⟩ = some v := by
  rcases h.2 with ⟨_, h0⟩ | ⟨g, cap, cur, hv, hg, hh, h1, h2, h3, h4⟩
  · exact absurd (List.length_eq_zero_iff.1 h0) hl
  · refine ⟨g, cap, hv, h1, h2, lt_of_block hh, hg, fun i t ht j v hv' => ?_⟩
    have hx := tkCs_at l i t ht j v hv'
    rw [← h4, List.getElem?_take] at hx
    split at hx
    · simp [World.cell?, hh]
      simpa using hx
    · cases hx
theorem TM.zero {B : Nat} {w : World} {sv : Value} (h : TM B w sv []) : ∃ a cap, sv = .slice a 0 cap := by
  rcases h.2 with ⟨h, _⟩ | ⟨g, cap, cur, hv, _⟩
  · exact ⟨_, _, h⟩
  · exact ⟨_, _, hv⟩

set_option maxHeartbeats 1000000 in
theorem alive_any (w : World) (hL : LT w) (hS : SG w) :
    Calls Tryd.prog 6 #[] w fun e w' => e = .returned (.bool true) ∧ Below w.heap.size w w' := by
  have C := tokens_of ⟨#[195, 169, 49, 32, 62, 61, 32, 48, 46, 53]⟩ w hL hS
  rw [show (⟨#[195, 169, 49, 32, 62, 61, 32, 48, 46, 53]⟩ : ByteArray).data.toList = aliveL from rfl, alive_toks] at C
  replace C := hide C
  clear hL hS
  go_enter Tryd.func6, Tryd.ntmps6
  go_wp2_with fail
  refine (unhide C).mono ?_
  rintro e w1 ⟨⟨sv, rfl, hT⟩, hb⟩
  obtain ⟨g, cap, rfl, hc1, hc2, hg, hg2, hcell⟩ := hT.at (by simp)
  have t1 : w1.cell? ⟨g, 1, none⟩ = some (.string ⟨#[195, 169, 49]⟩) := hcell 0 _ rfl 1 _ rfl
  have t2 : w1.cell? ⟨g, 12, none⟩ = some (.int .i64 5) := hcell 2 _ rfl 2 _ rfl
  have t3 : w1.cell? ⟨g, 13, none⟩ = some (.int .i64 (-1)) := hcell 2 _ rfl 3 _ rfl
  unfold maxLen at hc2
  simp only [List.length_cons, List.length_nil] at hc1
  clear hcell hT C
  go_wp2
  go_ret
  exact ⟨rfl, hb.alloc hb.size _⟩
end Go.Proofs.YtjjioikgligaoaaDoor
