/- Walks: types that are the same. -/
import Derived.Test.YtjgonkcfnfgakaaGreatDoorU8
namespace Go.Proofs.YtjgonkcfnfgakaaGreatDoor
open Go.RowKit

set_option maxHeartbeats 4000000 in
theorem same_no (T S : TT) (u v : Array Value) (w : World) (hu : MemT w.heap.size w T u) (hv : MemT w.heap.size w S v) (h : T.kind ≠ S.kind ∨ T.kids.length ≠ S.kids.length) :
    Calls Tryz.prog 10 #[.agg u, .agg v] w fun e w' => e = .returned (.bool false) ∧ Below w.heap.size w w' := by
  obtain ⟨k1, ks1⟩ := T
  obtain ⟨k2, ks2⟩ := S
  obtain ⟨l1, a1, c1, rfl⟩ := hu.any
  obtain ⟨l2, a2, c2, rfl⟩ := hv.any
  have HB := hide (((Below.refl w.heap.size w).alloc (Nat.le_refl _) (.cells #[.int .i64 k1, .slice a1 ks1.length c1] 24)).alloc (by simp) (.cells #[.int .i64 k2, .slice a2 ks2.length c2] 24))
  clear hu hv
  simp only [TT.kind, TT.kids] at h
  by_cases h1 : k1 = k2
  · subst h1
    have h2 : ((ks1.length : Int) != (ks2.length : Int)) = true := by
      have : ¬ (ks1.length : Int) = (ks2.length : Int) := by omega
      simpa using this
    clear h
    go_enter Tryz.func10, Tryz.ntmps10
    go_wp2
    go_ret
    exact ⟨rfl, unhide HB⟩
  · have h2 : (k1 != k2) = true := by simpa using h1
    clear h
    go_enter Tryz.func10, Tryz.ntmps10
    go_wp2
    go_ret
    exact ⟨rfl, unhide HB⟩

set_option maxHeartbeats 4000000 in
theorem same_leaf (k : Int) (u v : Array Value) (w : World) (hu : MemT w.heap.size w (.mk k []) u) (hv : MemT w.heap.size w (.mk k []) v) :
    Calls Tryz.prog 10 #[.agg u, .agg v] w fun e w' => e = .returned (.bool true) ∧ Below w.heap.size w w' := by
  obtain ⟨a1, c1, rfl⟩ := hu.leaf
  obtain ⟨a2, c2, rfl⟩ := hv.leaf
  have HB := hide (((Below.refl w.heap.size w).alloc (Nat.le_refl _) (.cells #[.int .i64 k, .slice a1 0 c1] 24)).alloc (by simp) (.cells #[.int .i64 k, .slice a2 0 c2] 24))
  clear hu hv
  go_enter Tryz.func10, Tryz.ntmps10
  go_wp2_with fail
  refine wp_loop_rounds 1 ?_
  rw [rounds_succ]
  go_wp2
  go_ret
  exact ⟨rfl, unhide HB⟩

set_option maxHeartbeats 4000000 in
theorem same_step (T S : TT) (r : Bool) (u v : Array Value) (w : World) (hu : MemT w.heap.size w (.mk 5 [T]) u) (hv : MemT w.heap.size w (.mk 5 [S]) v)
    (ih : ∀ (u v : Array Value) (w : World), MemT w.heap.size w T u → MemT w.heap.size w S v → Calls Tryz.prog 10 #[.agg u, .agg v] w fun e w' => e = .returned (.bool r) ∧ Below w.heap.size w w') :
    Calls Tryz.prog 10 #[.agg u, .agg v] w fun e w' => e = .returned (.bool r) ∧ Below w.heap.size w w' := by
  obtain ⟨b1, o1, c1, y0, y1, rfl, p1, q0, q1, hT⟩ := hu.kid
  obtain ⟨b2, o2, c2, z0, z1, rfl, p2, s0, s1, hS⟩ := hv.kid
  have B0 := ((Below.refl w.heap.size w).alloc (Nat.le_refl _) (.cells #[.int .i64 5, .slice (some ⟨b1, o1, none⟩) 1 c1] 24)).alloc (by simp) (.cells #[.int .i64 5, .slice (some ⟨b2, o2, none⟩) 1 c2] 24)
  have IH := hide (fun wx (h : Below w.heap.size w wx) => ih _ _ wx (MemT.grow hT h) (MemT.grow hS h))
  rw [← B0.cell (p := ⟨b1, o1, none⟩) p1] at q0
  rw [← B0.cell (p := ⟨b1, o1 + 1, none⟩) p1] at q1
  rw [← B0.cell (p := ⟨b2, o2, none⟩) p2] at s0
  rw [← B0.cell (p := ⟨b2, o2 + 1, none⟩) p2] at s1
  have HB := hide B0
  clear hu hv B0 hT hS ih
  go_enter Tryz.func10, Tryz.ntmps10
  go_wp2_with fail
  have X0 := (Bx2.new w 24 (.int .i64 5) (.slice (some ⟨b1, o1, none⟩) 1 c1)).keep ((Below.refl _ _).alloc (Nat.le_refl _) (.cells #[.int .i64 5, .slice (some ⟨b2, o2, none⟩) 1 c2] 24)) (by simp)
  have X1 : Bx2 ((w.alloc (.cells #[.int .i64 5, .slice (some ⟨b1, o1, none⟩) 1 c1] 24)).alloc (.cells #[.int .i64 5, .slice (some ⟨b2, o2, none⟩) 1 c2] 24)) (w.heap.size + 1) (.int .i64 5) (.slice (some ⟨b2, o2, none⟩) 1 c2) := by simpa using Bx2.new (w.alloc (.cells #[.int .i64 5, .slice (some ⟨b1, o1, none⟩) 1 c1] 24)) 24 (.int .i64 5) (.slice (some ⟨b2, o2, none⟩) 1 c2)
  generalize (w.alloc (.cells #[.int .i64 5, .slice (some ⟨b1, o1, none⟩) 1 c1] 24)).alloc (.cells #[.int .i64 5, .slice (some ⟨b2, o2, none⟩) 1 c2] 24) = w0 at *
  have x1 := X0.at1
  have x3 := X1.at1
  clear X0 X1
  refine wp_loop_rounds 2 ?_
  rw [rounds_succ]
  go_wp2_with fail
  go_region_with ((refine (unhide IH _ ?_).mono ?_; · exact below_via (unhide HB) (by repeat (first | assumption | exact Below.refl _ _ | apply Below.drew))); rintro e w2 ⟨rfl, hb⟩; replace hb : Below w0.heap.size w0 w2 := below_via (by repeat (first | assumption | exact Below.refl _ _ | apply Below.drew)) hb)
  all_goals
    have HB2 := hide (below_via (unhide HB) hb)
    clear hb q0 q1 s0 s1 IH HB
    cases r with
    | true =>
      go_wp2_with fail
      rw [rounds_succ]
      go_wp2
      go_ret
      exact ⟨rfl, unhide HB2⟩
    | false =>
      go_wp2
      go_ret
      exact ⟨rfl, unhide HB2⟩

theorem same_rtN : ∀ (n m : Nat) (k l : Int), k ≠ 5 → l ≠ 5 → ∀ (u v : Array Value) (w : World), MemT w.heap.size w (rtN n k) u → MemT w.heap.size w (rtN m l) v →
    Calls Tryz.prog 10 #[.agg u, .agg v] w fun e w' => e = .returned (.bool (decide (n = m ∧ k = l))) ∧ Below w.heap.size w w'
  | 0, 0, k, l, hk, hl, u, v, w, hu, hv => by
    by_cases h : k = l
    · subst h
      rw [decide_eq_true ⟨rfl, rfl⟩]
      exact same_leaf k u v w hu hv
    · rw [decide_eq_false (fun e => h e.2)]
      exact same_no _ _ u v w hu hv (Or.inl h)
  | 0, m + 1, k, l, hk, hl, u, v, w, hu, hv => by
    rw [decide_eq_false (fun e => by have := e.1; omega)]
    exact same_no _ _ u v w hu hv (Or.inl hk)
  | n + 1, 0, k, l, hk, hl, u, v, w, hu, hv => by
    rw [decide_eq_false (fun e => by have := e.1; omega)]
    exact same_no _ _ u v w hu hv (Or.inl hl.symm)
  | n + 1, m + 1, k, l, hk, hl, u, v, w, hu, hv => by
    have e : decide (n + 1 = m + 1 ∧ k = l) = decide (n = m ∧ k = l) := by simp
    rw [e]
    exact same_step _ _ _ u v w hu hv (same_rtN n m k l hk hl)
theorem same_any (a b : Sp) (u v : Array Value) (w : World) (ka : a.k ≠ 5) (kb : b.k ≠ 5) (hu : MemT w.heap.size w (rt a) u) (hv : MemT w.heap.size w (rt b) v) :
    Calls Tryz.prog 10 #[.agg u, .agg v] w fun e w' => e = .returned (.bool (decide (a = b))) ∧ Below w.heap.size w w' := by
  have e : decide (a = b) = decide (a.n = b.n ∧ a.k = b.k) := by
    by_cases h : a = b
    · subst h; simp
    · rw [decide_eq_false h, decide_eq_false (fun e => h (Sp.eq e.1 e.2))]
  rw [e]
  exact same_rtN _ _ _ _ ka kb u v w hu hv
end Go.Proofs.YtjgonkcfnfgakaaGreatDoor
