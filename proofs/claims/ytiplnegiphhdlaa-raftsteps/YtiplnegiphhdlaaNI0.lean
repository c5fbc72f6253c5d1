/- Plain: the last item that most have, by a sorted row. -/
import Derived.Test.YtiplnegiphhdlaaRfD
namespace Go.Proofs.Ytiplnegiphhdlaa.Rf

theorem countP_sorted : ∀ (s : List Int) (k : Nat) (i : Int) (h : k < s.length), s.Pairwise (· ≤ ·) → (s.length - k ≤ s.countP (fun v => decide (i ≤ v)) ↔ i ≤ s[k])
  | [], k, i, h, _ => by simp at h
  | a :: s, 0, i, h, hs => by
    have h1 := (List.pairwise_cons.1 hs).1
    rw [List.countP_cons]
    simp only [List.length_cons, List.getElem_cons_zero, Nat.sub_zero, decide_eq_true_eq]
    have hle := List.countP_le_length (p := fun v => decide (i ≤ v)) (l := s)
    constructor
    · intro q
      split at q
      · assumption
      · omega
    · intro q
      rw [if_pos q]
      have : s.countP (fun v => decide (i ≤ v)) = s.length := List.countP_eq_length.2 (fun v hv => by have := h1 v hv; simp; omega)
      omega
  | a :: s, k + 1, i, h, hs => by
    have h1 := (List.pairwise_cons.1 hs).1
    have h2 := countP_sorted s k i (by simpa using h) (List.pairwise_cons.1 hs).2
    rw [List.countP_cons]
    simp only [List.length_cons, List.getElem_cons_succ, decide_eq_true_eq]
    rw [← h2]
    have hle := List.countP_le_length (p := fun v => decide (i ≤ v)) (l := s)
    have hk : k < s.length := by simpa using h
    split
    · rename_i q
      have : s.countP (fun v => decide (i ≤ v)) = s.length := List.countP_eq_length.2 (fun v hv => by have := h1 v hv; simp; omega)
      omega
    · omega
theorem sureN_none (x : Node) : ∀ (j : Nat), (∀ i : Nat, 1 ≤ i → i ≤ j → ¬ (x.commit < (i : Int) ∧ most x.n (have9 x i) ∧ atN x.log i = x.term)) → sureN x j = x.commit
  | 0, _ => rfl
  | j + 1, h => by
    rw [sureN, if_neg (h (j + 1) (by omega) (by omega))]
    exact sureN_none x j (fun i h1 h2 => h i h1 (by omega))
theorem atN_le {l : List Item} {t : Int} (hr : rises l t) {i j : Nat} (h1 : 1 ≤ i) (h2 : i ≤ j) (h3 : j ≤ l.length) : atN l i ≤ atN l j ∧ atN l j ≤ t := by
  obtain ⟨a, rfl⟩ : ∃ a, i = a + 1 := ⟨i - 1, by omega⟩
  obtain ⟨b, rfl⟩ : ∃ b, j = b + 1 := ⟨j - 1, by omega⟩
  have ha : l[a]? = some (l[a]'(by omega)) := List.getElem?_eq_getElem _
  have hb : l[b]? = some (l[b]'(by omega)) := List.getElem?_eq_getElem _
  simp only [atN, ha, hb]
  refine ⟨?_, (hr.1 _ (List.getElem_mem _)).2⟩
  by_cases e : a = b
  · subst e; exact Int.le_refl _
  · exact List.pairwise_iff_getElem.1 hr.2 a b (by omega) (by omega) (by omega)
/-- of the row in order, the one that most have reached -/
theorem sure_sorted (x : Node) (hr : rises x.log x.term) (hc : 0 ≤ x.commit) (hm : ∀ v ∈ x.mtch, inB v 0 (x.log.length : Int)) (hn : (x.mtch.length : Int) = x.n) (s : List Int) (hp : s.Perm x.mtch) (hs : s.Pairwise (· ≤ ·)) (k : Nat) (hk : (k : Int) = x.n - (x.n / 2 + 1)) (hkl : k < s.length) :
    sureN x x.log.length = if x.commit < s[k] ∧ atN x.log s[k].toNat = x.term then s[k] else x.commit := by
  have hsl : s.length = x.mtch.length := hp.length_eq
  have hmost : ∀ i : Nat, most x.n (have9 x i) ↔ (i : Int) ≤ s[k] := by
    intro i
    have : have9 x i = s.countP (fun v => decide ((i : Int) ≤ v)) := (hp.countP_eq _).symm
    rw [this, ← countP_sorted s k i hkl hs]
    unfold most
    omega
  have hL := hm s[k] (hp.mem_iff.1 (List.getElem_mem hkl))
  generalize s[k] = L at hmost hL
  unfold inB at hL
  have main : ∀ j : Nat, L.toNat ≤ j → j ≤ x.log.length → sureN x j = if x.commit < L ∧ atN x.log L.toNat = x.term then L else x.commit := by
    intro j
    induction j with
    | zero =>
      intro h0 _
      rw [sureN, if_neg]
      intro q
      omega
    | succ j ih =>
      intro h0 h2
      by_cases e : L.toNat ≤ j
      · rw [sureN, if_neg, ih e (by omega)]
        rintro ⟨_, q, _⟩
        have := (hmost _).1 q
        omega
      · have eL : L = ((j + 1 : Nat) : Int) := by omega
        by_cases q : x.commit < L ∧ atN x.log L.toNat = x.term
        · rw [if_pos q, sureN, if_pos, eL]
          refine ⟨by omega, (hmost _).2 (by omega), ?_⟩
          rw [eL, Int.toNat_natCast] at q
          exact q.2
        · rw [if_neg q]
          refine sureN_none x (j + 1) (fun i i1 i2 => ?_)
          rintro ⟨a, _, c⟩
          apply q
          refine ⟨by omega, ?_⟩
          have := atN_le hr i1 i2 h2
          rw [eL, Int.toNat_natCast]
          omega
  exact main _ (by omega) (Nat.le_refl _)

end Go.Proofs.Ytiplnegiphhdlaa.Rf
