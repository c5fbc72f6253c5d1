/- When the order of the text serves for every order of a region: a check over a table of the operations' slots, each pair looked at once. -/
import Derived.Test.YtbfalkihkpdieaaProg
import Derived.WalkKit
import Derived.Deep.Quiet
namespace Go.Proofs.Ytbfalkihkpdieaa

/-- what an operation writes, looks at, waits for -/
abbrev OpRow : Type := Option Nat × List Nat × List Nat
def rowOf (md : Region.Mode) (ops : Array Oper) (o : Oper) : OpRow := (o.dst, o.looksAt ops, (o.after.toList.filter (Region.binds md)).map (·.on))
def apartR (t u : OpRow) : Bool :=
  (match t.1 with
   | some d => !u.2.1.contains d && u.1 != some d
   | none => true) &&
  (match u.1 with
   | some d => !t.2.1.contains d
   | none => true)
def checkRows : List OpRow → Nat → Bool
  | [], _ => true
  | t :: ts, k => t.2.2.all (fun j => decide (j < k)) && ts.all (fun u => u.2.2.contains k || apartR t u) && checkRows ts (k + 1)

theorem checkRows_wait : ∀ {T : List OpRow} {k0 : Nat}, checkRows T k0 = true → ∀ {k : Nat} {t : OpRow}, T[k]? = some t → ∀ j ∈ t.2.2, j < k0 + k
  | [], _, _, k, t, h => by simp at h
  | t0 :: T, k0, hc, 0, t, h => by
    simp only [checkRows, Bool.and_eq_true, List.all_eq_true, decide_eq_true_eq] at hc
    simp only [List.getElem?_cons_zero, Option.some.injEq] at h
    subst h
    intro j hj
    exact hc.1.1 j hj
  | t0 :: T, k0, hc, k + 1, t, h => by
    simp only [checkRows, Bool.and_eq_true] at hc
    have := checkRows_wait hc.2 (k := k) (t := t) (by simpa using h)
    intro j hj
    have := this j hj
    omega
theorem checkRows_pair : ∀ {T : List OpRow} {k0 : Nat}, checkRows T k0 = true → ∀ {k j : Nat} {t u : OpRow}, T[k]? = some t → T[j]? = some u → k < j → (u.2.2.contains (k0 + k) || apartR t u) = true
  | [], _, _, k, j, t, u, h, _, _ => by simp at h
  | t0 :: T, k0, hc, 0, j, t, u, h, hj, hlt => by
    simp only [checkRows, Bool.and_eq_true] at hc
    have ha := List.all_eq_true.1 hc.1.2
    simp only [List.getElem?_cons_zero, Option.some.injEq] at h
    subst h
    obtain ⟨i, rfl⟩ : ∃ i, j = i + 1 := ⟨j - 1, by omega⟩
    simp only [List.getElem?_cons_succ] at hj
    exact ha u (List.mem_of_getElem? hj)
  | t0 :: T, k0, hc, k + 1, j, t, u, h, hj, hlt => by
    simp only [checkRows, Bool.and_eq_true] at hc
    obtain ⟨i, rfl⟩ : ∃ i, j = i + 1 := ⟨j - 1, by omega⟩
    have := checkRows_pair hc.2 (k := k) (j := i) (t := t) (u := u) (by simpa using h) (by simpa using hj) (by omega)
    rwa [show k0 + 1 + k = k0 + (k + 1) by omega] at this

/-- so much has come up -/
def Upto (n k : Nat) (listed : Array Bool) : Prop := listed.size = n ∧ ∀ i, i < n → listed[i]? = some (decide (i < k))
theorem Upto.getD {n k : Nat} {listed : Array Bool} (h : Upto n k listed) {i : Nat} (hi : i < n) (b : Bool) : listed.getD i b = decide (i < k) := by
  rw [Array.getD_eq_getD_getElem?, h.2 i hi]; rfl
theorem Upto.next {n k : Nat} {listed : Array Bool} (h : Upto n k listed) (hk : k < n) : Upto n (k + 1) (listed.setIfInBounds k true) := by
  refine ⟨by simp [h.1], fun i hi => ?_⟩
  rw [Array.getElem?_setIfInBounds]
  by_cases e : k = i
  · subst e
    simp [h.1, hk]
  · rw [if_neg e, h.2 i hi]
    congr 1
    exact decide_eq_decide.2 (by omega)

theorem lexFrom_of {md : Region.Mode} {ops : Array Oper}
    (h1 : ∀ (k : Nat) (o : Oper), ops[k]? = some o → ∀ e ∈ o.after, Region.binds md e = true → e.on < k)
    (h2 : ∀ (k j : Nat) (ok oj : Oper), k < j → ops[k]? = some ok → ops[j]? = some oj → (oj.after.any (fun e => Region.binds md e && e.on == k) || ok.apart ops oj) = true) :
    ∀ (fuel k : Nat) (listed : Array Bool), Upto ops.size k listed → fuel + k = ops.size → Region.lexFrom md ops fuel k listed = true
  | 0, k, listed, hL, hk => by
    simp only [Region.lexFrom, Region.ready, List.isEmpty_iff, List.filter_eq_nil_iff, List.mem_range]
    intro i hi
    rw [hL.getD hi]
    simp
    omega
  | fuel + 1, k, listed, hL, hk => by
    have hkn : k < ops.size := by omega
    obtain ⟨o, ho⟩ : ∃ o, ops[k]? = some o := ⟨_, Array.getElem?_eq_getElem hkn⟩
    simp only [Region.lexFrom, Bool.and_eq_true]
    refine ⟨⟨?_, ?_⟩, lexFrom_of h1 h2 fuel (k + 1) _ (hL.next hkn) (by omega)⟩
    · simp only [Region.ready, List.contains_eq_mem, decide_eq_true_eq, List.mem_filter, List.mem_range, Bool.and_eq_true, Bool.not_eq_true']
      refine ⟨hkn, by rw [hL.getD hkn]; simp, ?_⟩
      rw [ho]
      simp only [Option.map_some, Option.getD_some]
      rw [Array.all_eq_true_iff_forall_mem]
      intro e he
      by_cases hb : Region.binds md e = true
      · have := h1 k o ho e he hb
        rw [hL.getD (by omega)]
        simp [this]
      · simp [hb]
    · unfold Region.free
      rw [ho]
      simp only [List.all_eq_true, List.mem_range]
      intro j hj
      obtain ⟨oj, hoj⟩ : ∃ o, ops[j]? = some o := ⟨_, Array.getElem?_eq_getElem hj⟩
      rw [hL.getD hj, hoj]
      rcases Nat.lt_trichotomy j k with h | h | h
      · simp [h]
      · simp [h]
      · have := h2 k j o oj h ho hoj
        simp only [Bool.or_eq_true] at this ⊢
        exact .inr this

theorem lexB_of {md : Region.Mode} {l : List Oper} {T : List OpRow} (hs : Region.noSelect l.toArray = true) (hT : l.map (rowOf md l.toArray) = T) (hc : checkRows T 0 = true) : Region.lexB md l.toArray = true := by
  have look : ∀ (k : Nat) (o : Oper), l.toArray[k]? = some o → T[k]? = some (rowOf md l.toArray o) := fun k o h => by
    rw [← hT, List.getElem?_map]
    simp at h
    rw [h]; rfl
  unfold Region.lexB
  rw [hs, Bool.true_and]
  refine lexFrom_of ?_ ?_ _ 0 _ ⟨by simp, fun i hi => ?_⟩ (by simp)
  · intro k o ho e he hb
    have := checkRows_wait hc (look k o ho) e.on (by
      simp only [rowOf, List.mem_map, List.mem_filter]
      exact ⟨e, ⟨by simpa using he, hb⟩, rfl⟩)
    omega
  · intro k j ok oj hlt hk hj
    have := checkRows_pair hc (look k ok hk) (look j oj hj) hlt
    simp only [Bool.or_eq_true] at this ⊢
    rcases this with h | h
    · left
      rw [Nat.zero_add] at h
      simp only [rowOf, List.contains_eq_mem, decide_eq_true_eq, List.mem_map, List.mem_filter] at h
      obtain ⟨e, ⟨he, hb⟩, hon⟩ := h
      rw [Array.any_eq_true']
      exact ⟨e, by simpa using he, by simp [hb, hon]⟩
    · right
      exact h
  · simp at hi
    simp [hi]
end Go.Proofs.Ytbfalkihkpdieaa
