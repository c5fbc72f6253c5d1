/- Walks: copied, most, termOf (raft). -/
import Derived.Test.YtiplnegiphhdlaaNC
namespace Go.Proofs.Ytiplnegiphhdlaa.RW
open Go.RowKit

set_option maxHeartbeats 1000000 in
theorem copiedT_any (l : List Rf.Item) (v : Value) (w : World) (hv : Tv w v l) (hl : l.length * 16 ≤ 140737488355328) : Calls Try.prog 38 #[v] w fun e w' => ∃ v', e = .returned v' ∧ w'.ownsRow w.heap.size 58 2 v' l.length (its l) ∧ Below w.heap.size w w' := by
  obtain ⟨i0, I0, I1, I2, I3⟩ := info_parts info_T
  have I0' := hide I0
  have I1' := hide I1
  have I2' := hide I2
  have I3' := hide I3
  clear I0 I1 I2 I3
  have HV := hide hv
  obtain ⟨a, cap, rfl, _, _⟩ := SC.shape hv
  clear hv
  have hO := hide (World.ownsRow_nil w w.heap.size 58 2)
  have m1 : Hid (0 + l.length ≤ maxLen) := hide (by unfold maxLen; omega)
  have m2 : Hid ((0 + l.length) * 16 ≤ 140737488355328) := hide (by omega)
  go_enter Try.func38, Try.ntmps38
  go_wp2_with (at_builtin; refine wpList_append_sc rfl _ _ 22 rfl w.heap.size 58 i0 (.agg #[.int .i64 0, .int .i64 0]) 2 16 Try.underlying22 (unhide I0') (unhide I1') (unhide I2') (unhide I3') rfl (by decide) none_T _ _ _ _ _ _ rfl rfl (unhide hO) (unhide HV) (its_one _) (unhide m1) (unhide m2) (Nat.le_refl _) ?_)
  intro v' w' ho hg _
  have HB := hide (own_old (unhide hO) hg (Nat.le_refl _))
  have HO := hide ho
  clear ho hg m1 m2 hO HV
  go_wp2
  go_ret
  exact ⟨_, rfl, unhide HO, unhide HB⟩

set_option maxHeartbeats 1000000 in
theorem copiedI_any (l : List Int) (v : Value) (w : World) (hv : Iv w v l) (hl : l.length * 8 ≤ 140737488355328) : Calls Try.prog 39 #[v] w fun e w' => ∃ v', e = .returned v' ∧ w'.ownsRow w.heap.size 3 1 v' l.length (ints l) ∧ Below w.heap.size w w' := by
  obtain ⟨i0, I0, I1, I2, I3⟩ := info_parts info_I
  have I0' := hide I0
  have I1' := hide I1
  have I2' := hide I2
  have I3' := hide I3
  clear I0 I1 I2 I3
  have HV := hide hv
  obtain ⟨a, cap, rfl, _, _⟩ := SC.shape hv
  clear hv
  have hO := hide (World.ownsRow_nil w w.heap.size 3 1)
  have m1 : Hid (0 + l.length ≤ maxLen) := hide (by unfold maxLen; omega)
  have m2 : Hid ((0 + l.length) * 8 ≤ 140737488355328) := hide (by omega)
  go_enter Try.func39, Try.ntmps39
  go_wp2_with (at_builtin; refine wpList_append_sc rfl _ _ 23 rfl w.heap.size 3 i0 (.int .i64 0) 1 8 Try.underlying23 (unhide I0') (unhide I1') (unhide I2') (unhide I3') rfl (by decide) none_I _ _ _ _ _ _ rfl rfl (unhide hO) (unhide HV) (ints_one _) (unhide m1) (unhide m2) (Nat.le_refl _) ?_)
  intro v' w' ho hg _
  have HB := hide (own_old (unhide hO) hg (Nat.le_refl _))
  have HO := hide ho
  clear ho hg m1 m2 hO HV
  go_wp2
  go_ret
  exact ⟨_, rfl, unhide HO, unhide HB⟩

theorem most_any (p : Nat) (n : Int) (w : World) (hp : w.cell? ⟨p, 1, none⟩ = some (.int .i64 n)) (h1 : 1 ≤ n) (h5 : n ≤ 5) : Calls Try.prog 50 #[.pointer (some ⟨p, 0, none⟩)] w fun e w' => e = .returned (.int .i64 (n / 2 + 1)) ∧ w' = w := by
  rcases (by omega : n = 1 ∨ n = 2 ∨ n = 3 ∨ n = 4 ∨ n = 5) with rfl | rfl | rfl | rfl | rfl <;>
  · go_enter Try.func50, Try.ntmps50
    go_wp2
    go_ret
    exact ⟨rfl, rfl⟩

set_option maxHeartbeats 1000000 in
theorem termOf_any (p : Nat) (l : List Rf.Item) (v : Value) (i : Nat) (w : World) (hp : w.cell? ⟨p, 4, none⟩ = some v) (hl : Tv w v l) (hi : i ≤ 1000) : Calls Try.prog 42 #[.pointer (some ⟨p, 0, none⟩), .int .i64 (i : Int)] w fun e w' => e = .returned (.int .i64 (Rf.atN l i)) ∧ w' = w := by
  obtain ⟨a, N, cap, rfl, hN, hc1, hc2⟩ := SC.shp hl
  by_cases h1 : Rf.inB (i : Int) 1 (N : Int)
  · have d1 := decide_eq_true h1
    obtain ⟨h1, h2⟩ := h1
    obtain ⟨x, hx⟩ : ∃ x, l[i - 1]? = some x := ⟨_, List.getElem?_eq_getElem (by have := unhide hN; omega)⟩
    have hne : l ≠ [] := by intro e; rw [e] at hx; simp at hx
    obtain ⟨b, off, cap', e, hb, _, _⟩ := hl.ex hne
    obtain rfl : a = some ⟨b, off, none⟩ := by cases e; rfl
    obtain ⟨c0, c1⟩ := hl.at hx
    have em : (i : Int) - 1 = ((i - 1 : Nat) : Int) := by omega
    have em2 : IntKind.i64.wrap ((i - 1 : Nat) : Int) = ((i - 1 : Nat) : Int) := wrap_i64 (by omega) (by omega)
    have lm : ((i - 1 : Nat) : Int) < (N : Int) := by omega
    have lm2 : i - 1 < N := by omega
    have HE : Rf.atN l i = x.1 := by
      have e : i = (i - 1) + 1 := by omega
      rw [e]
      simp [Rf.atN, hx]
    rw [HE]
    clear HE hx hl hne e h1 h2
    go_enter Try.func42, Try.ntmps42
    go_wp2_with (go_at_call 37; refine (within_any _ _ _ _).mono ?_; rintro e w' ⟨rfl, rfl⟩)
    go_ret
    exact ⟨rfl, rfl⟩
  · have d1 := decide_eq_false h1
    have HE : Rf.atN l i = 0 := by
      cases i with
      | zero => rfl
      | succ k =>
        have := unhide hN
        unfold Rf.inB at h1
        simp [Rf.atN, List.getElem?_eq_none (by omega : l.length ≤ k)]
    rw [HE]
    clear hl HE h1
    go_enter Try.func42, Try.ntmps42
    go_wp2_with (go_at_call 37; refine (within_any _ _ _ _).mono ?_; rintro e w' ⟨rfl, rfl⟩)
    go_ret
    exact ⟨rfl, rfl⟩

end Go.Proofs.Ytiplnegiphhdlaa.RW
