/- Walks: look.wrong, Wrong. -/
import Derived.Test.YthhdgimphnbjbaaDoorX1
namespace Go.Proofs.YthhdgimphnbjbaaDoor
open Go.RowKit

theorem St.inc {w : World} {p s : Nat} {o : Obj} (h : St w p s) : St ((w.setCell ⟨p, 0, none⟩ (.int .i64 ((s : Int) + 1))).alloc o) p (s + 1) := by
  obtain ⟨h1, h2, h3⟩ := h
  have g : St (w.setCell ⟨p, 0, none⟩ (.int .i64 ((s : Int) + 1))) p (s + 1) := by
    refine ⟨?_, ?_, by simpa [World.setCell] using h3⟩
    · simp [go_sem, h1]
    · simp [go_sem, h2]
  exact g.below (below_new _ o) g.2.2

theorem wf_much {k : Int} {y : Bool} {c x : Int} {t : ByteArray} {ks : List Tree} {s d : Nat} (h : 2000 < s + 1 ∨ 20 < d) : wrongF (.mk k y c x t ks) s d = (4, s + 1) := by rw [wrongF, if_pos h]
theorem wf_plain {k : Int} {y : Bool} {c x : Int} {t : ByteArray} {ks : List Tree} {s d : Nat} (h : ¬ (2000 < s + 1 ∨ 20 < d)) (hk : k = 1 ∨ k = 2) : wrongF (.mk k y c x t ks) s d = (0, s + 1) := by rw [wrongF, if_neg h, if_pos hk]
theorem wf_num {y : Bool} {c x : Int} {t : ByteArray} {ks : List Tree} {s d : Nat} (h : ¬ (2000 < s + 1 ∨ 20 < d)) : wrongF (.mk 3 y c x t ks) s d = (Dm.wrongN c x, s + 1) := by rw [wrongF, if_neg h, if_neg (by omega), if_pos rfl]
theorem wf_text {y : Bool} {c x : Int} {t : ByteArray} {ks : List Tree} {s d : Nat} (h : ¬ (2000 < s + 1 ∨ 20 < d)) : wrongF (.mk 4 y c x t ks) s d = (wrongT t, s + 1) := by rw [wrongF, if_neg h, if_neg (by omega), if_neg (by omega), if_pos rfl]
theorem wf_list {y : Bool} {c x : Int} {t : ByteArray} {ks : List Tree} {s d : Nat} (h : ¬ (2000 < s + 1 ∨ 20 < d)) : wrongF (.mk 5 y c x t ks) s d = if 200 < ks.length then (5, s + 1) else wrongL ks (s + 1) (d + 1) := by rw [wrongF, if_neg h, if_neg (by omega), if_neg (by omega), if_neg (by omega), if_pos rfl]
theorem wf_else {k : Int} {y : Bool} {c x : Int} {t : ByteArray} {ks : List Tree} {s d : Nat} (h : ¬ (2000 < s + 1 ∨ 20 < d)) (h1 : ¬ k = 1) (h2 : ¬ k = 2) (h3 : ¬ k = 3) (h4 : ¬ k = 4) (h5 : ¬ k = 5) : wrongF (.mk k y c x t ks) s d = (1, s + 1) := by
  rw [wrongF, if_neg h, if_neg (by omega), if_neg h3, if_neg h4, if_neg h5]

set_option maxHeartbeats 2000000 in
theorem wrong_of (k : Int) (y : Bool) (c x : Int) (t : ByteArray) (ks : List Tree) (IH : ∀ u ∈ ks, WrongC u) : WrongC (.mk k y c x t ks) := by
  intro B w v p s d hM hp hS hs hd1 hd hT g3 g4
  rw [Mem] at hM
  obtain ⟨ht, hk, a, cap, rfl, hks⟩ := hM
  have hBw : B ≤ w.heap.size := Nat.le_of_lt (Nat.lt_of_le_of_lt hp hS.2.2)
  have SI := hide (hS.inc (o := .cells #[.int .i64 k, .bool y, .int .i64 c, .int .i64 x, .string t, .slice a ks.length cap] 26))
  have BI := hide (((Below.refl B w).setCell (p := ⟨p, 0, none⟩) hp (.int .i64 ((s : Int) + 1))).alloc (by simpa [World.setCell] using hBw) (.cells #[.int .i64 k, .bool y, .int .i64 c, .int .i64 x, .string t, .slice a ks.length cap] 26))
  obtain ⟨s1, s2, s3⟩ := hS
  have HM := hide hks
  have HT := hide hT
  have G' := hide (And.intro g3 g4)
  have IH' := hide IH
  clear hks hT g3 g4 IH
  by_cases h1 : 2000 < s + 1 ∨ 20 < d
  · rw [wf_much h1]
    by_cases h2 : 2000 < s + 1
    · have h2' : (2000 : Int) < (s : Int) + 1 := by omega
      clear h1
      go_enter Tryd.func11, Tryd.ntmps11
      go_wp2
      go_ret
      exact ⟨rfl, unhide SI, unhide BI⟩
    · have h2' : ¬ (2000 : Int) < (s : Int) + 1 := by omega
      have h3' : (20 : Int) < (d : Int) := by omega
      clear h1
      go_enter Tryd.func11, Tryd.ntmps11
      go_wp2
      go_ret
      exact ⟨rfl, unhide SI, unhide BI⟩
  · have h2' : ¬ (2000 : Int) < (s : Int) + 1 := by omega
    have h3' : ¬ (20 : Int) < (d : Int) := by omega
    have H1 := hide h1
    clear h1
    by_cases k1 : k = 1
    · subst k1
      rw [wf_plain (unhide H1) (.inl rfl)]
      go_enter Tryd.func11, Tryd.ntmps11
      go_wp2
      go_ret
      exact ⟨rfl, unhide SI, unhide BI⟩
    by_cases k2 : k = 2
    · subst k2
      rw [wf_plain (unhide H1) (.inr rfl)]
      go_enter Tryd.func11, Tryd.ntmps11
      go_wp2
      go_ret
      exact ⟨rfl, unhide SI, unhide BI⟩
    by_cases k3 : k = 3
    · subst k3
      rw [wf_num (unhide H1)]
      go_enter Tryd.func11, Tryd.ntmps11
      go_wp2_with fail
      refine (wrong_any c x _).mono ?_
      rintro e w2 ⟨rfl, hb⟩
      go_wp2
      go_ret
      exact ⟨rfl, (unhide SI).below hb (unhide SI).2.2, (unhide BI).trans (hb.mono (Nat.le_trans hBw (unhide BI).size))⟩
    by_cases k4 : k = 4
    · subst k4
      rw [wf_text (unhide H1)]
      go_enter Tryd.func11, Tryd.ntmps11
      go_wp2_with fail
      refine (wrongText_any t _ ht (Tabs.below (unhide HT) (unhide BI) (unhide G').1 (unhide G').2)).mono ?_
      rintro e w2 ⟨rfl, hb⟩
      go_wp2
      go_ret
      exact ⟨rfl, (unhide SI).below hb (unhide SI).2.2, (unhide BI).trans (hb.mono (Nat.le_trans hBw (unhide BI).size))⟩
    by_cases k5 : k = 5
    · subst k5
      rw [wf_list (unhide H1)]
      by_cases hlong : 200 < ks.length
      · rw [if_pos hlong]
        have hlong' : (200 : Int) < (ks.length : Int) := by omega
        go_enter Tryd.func11, Tryd.ntmps11
        go_wp2_with fail
        refine (wrongList_long ks a cap _ p _ hlong').mono ?_
        rintro e w2 ⟨rfl, rfl⟩
        go_wp2
        go_ret
        exact ⟨rfl, unhide SI, unhide BI⟩
      · rw [if_neg hlong]
        by_cases hnil : ks = []
        · subst hnil
          rw [wrongL_nil]
          simp only [List.length_nil] at SI BI ⊢
          go_enter Tryd.func11, Tryd.ntmps11
          go_wp2_with fail
          refine (wrongList_nil a cap _ p _).mono ?_
          rintro e w2 ⟨rfl, rfl⟩
          go_wp2
          go_ret
          exact ⟨rfl, unhide SI, unhide BI⟩
        · obtain ⟨b, off, rfl, hbB, hm⟩ := unhide HM hnil
          have HC := hide (fun wx (hb : Below B w wx) (hS : St wx p (s + 1)) => wrongList_of ks (unhide IH') B wx b off cap p (s + 1) (d + 1) (MemL.below hb hbB hm) hbB (by omega) hp hS (by omega) (by omega) (by omega) (Tabs.below (unhide HT) hb (unhide G').1 (unhide G').2) (unhide G').1 (unhide G').2)
          rw [show ((d + 1 : Nat) : Int) = (d : Int) + 1 by omega] at HC
          clear hm hnil hlong
          go_enter Tryd.func11, Tryd.ntmps11
          go_wp2_with fail
          refine (unhide HC _ (unhide BI) (unhide SI)).mono ?_
          rintro e w2 ⟨rfl, hS2, hb2⟩
          go_wp2
          go_ret
          exact ⟨rfl, hS2, (unhide BI).trans hb2⟩
    · rw [wf_else (unhide H1) k1 k2 k3 k4 k5]
      go_enter Tryd.func11, Tryd.ntmps11
      go_wp2
      go_ret
      exact ⟨rfl, unhide SI, unhide BI⟩
end Go.Proofs.YthhdgimphnbjbaaDoor
