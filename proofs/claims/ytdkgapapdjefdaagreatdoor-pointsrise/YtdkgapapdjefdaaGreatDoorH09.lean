/- Walks: the document's Less of any two values. -/
import Derived.Test.YtdkgapapdjefdaaGreatDoorG19
import Derived.Test.YtdkgapapdjefdaaGreatDoorH08
namespace Go.Proofs.YtdkgapapdjefdaaGreatDoor
open Go.RowKit

set_option maxHeartbeats 4000000 in
theorem dless_any (A B : Tree) (v u : Array Value) (b b' : Nat) (w : World) (hM : Mem b w A v) (hM' : Mem b' w B u) (hA : (wrongF A 0 1).1 = 0) (hB : (wrongF B 0 1).1 = 0) :
    Calls Tryz.prog 12 #[.agg v, .agg u] w fun e w' => e = .returned (.int .i64 ((lessH A B : Nat) : Int)) ∧ Below w.heap.size w w' := by
  obtain ⟨k, y, c, x, t, ks⟩ := A
  obtain ⟨k', y', c', x', t', ks'⟩ := B
  rw [Mem] at hM hM'
  obtain ⟨_, _, a, cap, rfl, _⟩ := hM
  obtain ⟨_, _, a', cap', rfl, _⟩ := hM'
  rw [lessH]
  have NB := hide (((Below.refl w.heap.size w).alloc (Nat.le_refl _) (.cells #[.int .i64 k, .bool y, .int .i64 c, .int .i64 x, .string t, .slice a ks.length cap] 27)).alloc (by simp) (.cells #[.int .i64 k', .bool y', .int .i64 c', .int .i64 x', .string t', .slice a' ks'.length cap'] 27))
  by_cases h3 : k = k' ∧ k = 3
  · rw [if_pos h3]
    obtain ⟨rfl, rfl⟩ := h3
    rw [wf_num (by omega)] at hA hB
    simp only at hA hB
    obtain ⟨a1, a2, a3, a4, _⟩ := Dm.wrong_ok hA
    obtain ⟨b1, b2, b3, b4, _⟩ := Dm.wrong_ok hB
    have CM := hide (fun wx => rcmpd_ok c x c' x' wx hA hB a1 a2 a3 a4 b1 b2 b3 b4)
    rw [cmp_same a3 b3] at CM
    clear hA hB a1 a2 a3 a4 b1 b2 b3 b4
    generalize Dm.sgn (Dm.V c x - Dm.V c' x') = g at *
    by_cases hg : g < 0
    · rw [if_pos hg]
      go_enter Tryz.func12, Tryz.ntmps12
      go_wp2_with fail
      refine (unhide CM _).mono ?_
      rintro e w2 ⟨rfl, hb⟩
      have HB := hide (below_via (unhide NB) hb)
      clear hb
      go_wp2
      go_ret
      exact ⟨rfl, unhide HB⟩
    · rw [if_neg hg]
      go_enter Tryz.func12, Tryz.ntmps12
      go_wp2_with fail
      refine (unhide CM _).mono ?_
      rintro e w2 ⟨rfl, hb⟩
      have HB := hide (below_via (unhide NB) hb)
      clear hb
      go_wp2
      go_ret
      exact ⟨rfl, unhide HB⟩
  · rw [if_neg h3]
    clear hA hB
    by_cases h4 : k = k' ∧ k = 4
    · rw [if_pos h4]
      obtain ⟨rfl, rfl⟩ := h4
      clear h3
      by_cases hg : Op.bytesLess t.toList t'.toList = true
      · rw [if_pos hg]
        go_enter Tryz.func12, Tryz.ntmps12
        go_wp2
        go_ret
        exact ⟨rfl, unhide NB⟩
      · rw [if_neg hg]
        have hg' : Op.bytesLess t.toList t'.toList = false := by simpa using hg
        clear hg
        go_enter Tryz.func12, Tryz.ntmps12
        go_wp2
        go_ret
        exact ⟨rfl, unhide NB⟩
    · rw [if_neg h4]
      by_cases e : k = k'
      · subst e
        have n3 : ¬ k = 3 := fun q => h3 ⟨rfl, q⟩
        have n4 : ¬ k = 4 := fun q => h4 ⟨rfl, q⟩
        have n3' : (k != 3) = true := by simp [n3]
        have n4' : (k != 4) = true := by simp [n4]
        clear h3 h4
        go_enter Tryz.func12, Tryz.ntmps12
        go_wp2
        go_ret
        exact ⟨rfl, unhide NB⟩
      · have e' : (k != k') = true := by simp [e]
        clear h3 h4
        go_enter Tryz.func12, Tryz.ntmps12
        go_wp2
        go_ret
        exact ⟨rfl, unhide NB⟩
end Go.Proofs.YtdkgapapdjefdaaGreatDoor
