/- Plain: votes with one more, in their place. -/
import Derived.Test.YtneepoaimbnneaaRfD
namespace Go.Proofs.Ytneepoaimbnneaa.Rf

theorem lt_ext : ∀ (a b : List Int), a.Pairwise (· < ·) → b.Pairwise (· < ·) → (∀ x, x ∈ a ↔ x ∈ b) → a = b
  | [], [], _, _, _ => rfl
  | [], y :: b, _, _, h => by have := (h y).2 (by simp); cases this
  | x :: a, [], _, _, h => by have := (h x).1 (by simp); cases this
  | x :: a, y :: b, ha, hb, h => by
    obtain ⟨a1, a2⟩ := List.pairwise_cons.1 ha
    obtain ⟨b1, b2⟩ := List.pairwise_cons.1 hb
    have exy : x = y := by
      have h1 := (h x).1 (by simp)
      have h2 := (h y).2 (by simp)
      rcases List.mem_cons.1 h1 with e | e
      · exact e
      · rcases List.mem_cons.1 h2 with e' | e'
        · exact e'.symm
        · have := b1 x e; have := a1 y e'; omega
    subst exy
    rw [lt_ext a b a2 b2 (fun z => ?_)]
    have hz := h z
    constructor
    · intro q
      rcases List.mem_cons.1 (hz.1 (by simp [q])) with e | e
      · subst e; have := a1 z q; omega
      · exact e
    · intro q
      rcases List.mem_cons.1 (hz.2 (by simp [q])) with e | e
      · subst e; have := b1 z q; omega
      · exact e
theorem range_lt (n : Nat) : ((List.range n).map (fun i : Nat => (i : Int) + 1)).Pairwise (· < ·) := by
  rw [List.pairwise_map]
  exact List.pairwise_lt_range.imp (fun h => by omega)
theorem voters_rise (x : Node) (k : Int) : (voters x k).Pairwise (· < ·) := (range_lt _).sublist List.filter_sublist
theorem voters_mem (x : Node) (hv : votesOk x.votes x.n) {k : Int} (hk : inB k 1 x.n) (z : Int) : z ∈ voters x k ↔ z = k ∨ z ∈ x.votes := by
  unfold voters
  rw [List.mem_filter, decide_eq_true_eq]
  constructor
  · exact fun q => q.2
  · intro q
    refine ⟨?_, q⟩
    have hz : inB z 1 x.n := by
      rcases q with rfl | q
      · exact hk
      · exact hv.1 z q
    refine List.mem_map.2 ⟨(z - 1).toNat, List.mem_range.2 (by unfold inB at hz; omega), by unfold inB at hz; omega⟩
theorem count_split : ∀ (l : List Int) (k : Int), l.Pairwise (· < ·) → (∀ y ∈ l.take (l.countP (· < k)), y < k) ∧ ∀ y ∈ l.drop (l.countP (· < k)), k ≤ y
  | [], k, _ => by simp
  | a :: l, k, h => by
    obtain ⟨h1, h2⟩ := List.pairwise_cons.1 h
    obtain ⟨i1, i2⟩ := count_split l k h2
    by_cases q : a < k
    · rw [List.countP_cons_of_pos (by simpa using q)]
      refine ⟨fun y hy => ?_, fun y hy => i2 y (by simpa using hy)⟩
      rw [List.take_succ_cons] at hy
      rcases List.mem_cons.1 hy with rfl | hy
      · exact q
      · exact i1 y hy
    · have e : (a :: l).countP (· < k) = 0 := by
        rw [List.countP_eq_zero]
        intro y hy
        rcases List.mem_cons.1 hy with rfl | hy
        · simpa using q
        · have := h1 y hy; simp; omega
      rw [e]
      refine ⟨by simp, fun y hy => ?_⟩
      rw [List.drop_zero] at hy
      rcases List.mem_cons.1 hy with rfl | hy
      · omega
      · have := h1 y hy; omega
theorem voters_in (x : Node) (hv : votesOk x.votes x.n) {k : Int} (hk : inB k 1 x.n) (h : k ∈ x.votes) : voters x k = x.votes :=
  lt_ext _ _ (voters_rise x k) hv.2 (fun z => by rw [voters_mem x hv hk]; exact ⟨fun q => q.elim (fun e => e ▸ h) id, .inr⟩)
theorem voters_put (x : Node) (hv : votesOk x.votes x.n) {k : Int} (hk : inB k 1 x.n) (h : ¬ k ∈ x.votes) : voters x k = x.votes.take (x.votes.countP (· < k)) ++ k :: x.votes.drop (x.votes.countP (· < k)) := by
  obtain ⟨i1, i2⟩ := count_split x.votes k hv.2
  refine lt_ext _ _ (voters_rise x k) ?_ (fun z => ?_)
  · rw [List.pairwise_append]
    refine ⟨hv.2.sublist (List.take_sublist _ _), List.pairwise_cons.2 ⟨fun y hy => ?_, hv.2.sublist (List.drop_sublist _ _)⟩, fun y hy z hz => ?_⟩
    · have := i2 y hy
      have hne : y ≠ k := fun e => h (e ▸ List.mem_of_mem_drop hy)
      omega
    · have h1 := i1 y hy
      rcases List.mem_cons.1 hz with rfl | hz
      · exact h1
      · have := i2 z hz; omega
  · rw [voters_mem x hv hk, List.mem_append, List.mem_cons]
    conv => lhs; rw [← List.take_append_drop (x.votes.countP (· < k)) x.votes, List.mem_append]
    constructor
    · rintro (e | e | e)
      · exact .inr (.inl e)
      · exact .inl e
      · exact .inr (.inr e)
    · rintro (e | e | e)
      · exact .inr (.inl e)
      · exact .inl e
      · exact .inr (.inr e)

end Go.Proofs.Ytneepoaimbnneaa.Rf
