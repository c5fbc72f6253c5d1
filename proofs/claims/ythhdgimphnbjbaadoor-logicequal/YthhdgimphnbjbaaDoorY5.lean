/- Walks: matching.equal of two trees. -/
import Derived.Test.YthhdgimphnbjbaaDoorY4
namespace Go.Proofs.YthhdgimphnbjbaaDoor
open Go.RowKit

theorem ef_much {k k' : Int} {y y' : Bool} {c x c' x' : Int} {t t' : ByteArray} {ks ks' : List Tree} {s d : Nat} (h : 2000 < s + 1 ∨ 20 < d) : eqF (.mk k y c x t ks) (.mk k' y' c' x' t' ks') s d = (1, s + 1) := by rw [eqF, if_pos h]
theorem ef_nil {k k' : Int} {y y' : Bool} {c x c' x' : Int} {t t' : ByteArray} {ks ks' : List Tree} {s d : Nat} (h : ¬ (2000 < s + 1 ∨ 20 < d)) (hk : k = 1 ∨ k' = 1) : eqF (.mk k y c x t ks) (.mk k' y' c' x' t' ks') s d = (if k = k' then 2 else 0, s + 1) := by rw [eqF, if_neg h, if_pos hk]
theorem ef_kind {k k' : Int} {y y' : Bool} {c x c' x' : Int} {t t' : ByteArray} {ks ks' : List Tree} {s d : Nat} (h : ¬ (2000 < s + 1 ∨ 20 < d)) (hk : ¬ (k = 1 ∨ k' = 1)) (hn : ¬ k = k') : eqF (.mk k y c x t ks) (.mk k' y' c' x' t' ks') s d = (1, s + 1) := by rw [eqF, if_neg h, if_neg hk, if_neg hn]
theorem ef_bool {y y' : Bool} {c x c' x' : Int} {t t' : ByteArray} {ks ks' : List Tree} {s d : Nat} (h : ¬ (2000 < s + 1 ∨ 20 < d)) : eqF (.mk 2 y c x t ks) (.mk 2 y' c' x' t' ks') s d = (if y = y' then 2 else 0, s + 1) := by rw [eqF, if_neg h, if_neg (by omega), if_pos rfl, if_pos rfl]
theorem ef_num {y y' : Bool} {c x c' x' : Int} {t t' : ByteArray} {ks ks' : List Tree} {s d : Nat} (h : ¬ (2000 < s + 1 ∨ 20 < d)) : eqF (.mk 3 y c x t ks) (.mk 3 y' c' x' t' ks') s d = (if c = c' ∧ x = x' then 2 else 0, s + 1) := by rw [eqF, if_neg h, if_neg (by omega), if_pos rfl, if_neg (by omega), if_pos rfl]
theorem ef_text {y y' : Bool} {c x c' x' : Int} {t t' : ByteArray} {ks ks' : List Tree} {s d : Nat} (h : ¬ (2000 < s + 1 ∨ 20 < d)) : eqF (.mk 4 y c x t ks) (.mk 4 y' c' x' t' ks') s d = (if t.toList = t'.toList then 2 else 0, s + 1) := by rw [eqF, if_neg h, if_neg (by omega), if_pos rfl, if_neg (by omega), if_neg (by omega), if_pos rfl]
theorem ef_list {y y' : Bool} {c x c' x' : Int} {t t' : ByteArray} {ks ks' : List Tree} {s d : Nat} (h : ¬ (2000 < s + 1 ∨ 20 < d)) : eqF (.mk 5 y c x t ks) (.mk 5 y' c' x' t' ks') s d = if ks.length = ks'.length then eqL ks ks' 2 (s + 1) (d + 1) else (0, s + 1) := by rw [eqF, if_neg h, if_neg (by omega), if_pos rfl, if_neg (by omega), if_neg (by omega), if_neg (by omega), if_pos rfl]
theorem ef_else {k : Int} {y y' : Bool} {c x c' x' : Int} {t t' : ByteArray} {ks ks' : List Tree} {s d : Nat} (h : ¬ (2000 < s + 1 ∨ 20 < d)) (h1 : ¬ k = 1) (h2 : ¬ k = 2) (h3 : ¬ k = 3) (h4 : ¬ k = 4) (h5 : ¬ k = 5) : eqF (.mk k y c x t ks) (.mk k y' c' x' t' ks') s d = (1, s + 1) := by
  rw [eqF, if_neg h, if_neg (by omega), if_pos rfl, if_neg h2, if_neg h3, if_neg h4, if_neg h5]
theorem eq_fin {p s : Nat} {w : World} (hS : St w p s) (w9 : World) (rb : Nat) (v0 v1 v2 v3 v4 v5 : Value) (hw : Below w.heap.size (w.setCell ⟨p, 0, none⟩ (.int .i64 ((s : Int) + 1))) w9) (lr : w.heap.size ≤ rb) :
    St (put6 w9 rb v0 v1 v2 v3 v4 v5) p (s + 1) ∧ But p w (put6 w9 rb v0 v1 v2 v3 v4 v5) := by
  have hp := hS.2.2
  have S1 : St (w.setCell ⟨p, 0, none⟩ (.int .i64 ((s : Int) + 1))) p (s + 1) := by
    obtain ⟨h1, h2, h3⟩ := hS
    refine ⟨?_, ?_, by simpa [World.setCell] using h3⟩
    · simp [go_sem, h1]
    · simp [go_sem, h2]
  exact ⟨(S1.below hw hp).but But.put (by omega), (But.set.on hw).on (below_put6 (Below.refl _ _) lr)⟩

set_option maxHeartbeats 4000000 in
theorem eq_plain (k : Int) (y : Bool) (c x : Int) (t : ByteArray) (k' : Int) (y' : Bool) (c' x' : Int) (t' : ByteArray) (ks ks' : List Tree) (a a' : Option Addr) (cap cap' : Nat) (w : World) (p s d : Nat) (hS : St w p s) (hs : s ≤ 2000) (hd : d ≤ 21) (h5 : 2000 < s + 1 ∨ 20 < d ∨ ¬ (k = 5 ∧ k' = 5)) :
    Calls Tryd.prog 12 #[.pointer (some ⟨p, 0, none⟩), .agg #[.int .i64 k, .bool y, .int .i64 c, .int .i64 x, .string t, .slice a ks.length cap], .agg #[.int .i64 k', .bool y', .int .i64 c', .int .i64 x', .string t', .slice a' ks'.length cap'], .int .i64 (d : Int)] w fun e w' => e = .returned (told (eqF (.mk k y c x t ks) (.mk k' y' c' x' t' ks') s d).1) ∧ St w' p (eqF (.mk k y c x t ks) (.mk k' y' c' x' t' ks') s d).2 ∧ But p w w' := by
  have FIN := hide (fun w9 rb v0 v1 v2 v3 v4 v5 hw lr => eq_fin hS w9 rb v0 v1 v2 v3 v4 v5 hw lr)
  have hz : (w.setCell ⟨p, 0, none⟩ (.int .i64 ((s : Int) + 1))).heap.size = w.heap.size := by simp [World.setCell]
  obtain ⟨s1, s2, s3⟩ := hS
  have q1 : p < w.heap.size + 1 := by omega
  have q2 : p < w.heap.size + 1 + 1 := by omega
  by_cases h1 : 2000 < s + 1 ∨ 20 < d
  · rw [ef_much h1]
    clear h5
    by_cases h2 : 2000 < s + 1
    · have h2' : (2000 : Int) < (s : Int) + 1 := by omega
      clear h1
      go_enter Tryd.func12, Tryd.ntmps12
      go_wp2_with fail
      refine (null_any _).mono ?_
      rintro e w9 ⟨rfl, hb⟩
      obtain ⟨_, _, R, hw⟩ := box3 hb
      rw [hz] at R hw
      clear hb
      obtain ⟨a0, a1, a2, a3, a4, a5⟩ := R.tell
      obtain ⟨f0, f1, f2, f3, f4, f5⟩ := R.thaw
      have lb := R.low
      go_wp2
      exact bodyPost_ret (v := told 1) (by simp [results, Tryd.results12, go_sem, a0, a1, a2, a3, a4, a5, kd, yd]) rfl ⟨rfl, unhide FIN _ _ _ _ _ _ _ _ hw (by omega)⟩
    · have h2' : ¬ (2000 : Int) < (s : Int) + 1 := by omega
      have h3' : (20 : Int) < (d : Int) := by omega
      clear h1
      go_enter Tryd.func12, Tryd.ntmps12
      go_wp2_with fail
      refine (null_any _).mono ?_
      rintro e w9 ⟨rfl, hb⟩
      obtain ⟨_, _, R, hw⟩ := box3 hb
      rw [hz] at R hw
      clear hb
      obtain ⟨a0, a1, a2, a3, a4, a5⟩ := R.tell
      obtain ⟨f0, f1, f2, f3, f4, f5⟩ := R.thaw
      have lb := R.low
      go_wp2
      exact bodyPost_ret (v := told 1) (by simp [results, Tryd.results12, go_sem, a0, a1, a2, a3, a4, a5, kd, yd]) rfl ⟨rfl, unhide FIN _ _ _ _ _ _ _ _ hw (by omega)⟩
  · have h2' : ¬ (2000 : Int) < (s : Int) + 1 := by omega
    have h3' : ¬ (20 : Int) < (d : Int) := by omega
    have H1 := hide h1
    have n5 : ¬ (k = 5 ∧ k' = 5) := by omega
    clear h1 h5
    by_cases k1 : k = 1 ∨ k' = 1
    · rw [ef_nil (unhide H1) k1]
      clear n5
      by_cases e : k = k'
      · subst e
        obtain rfl : k = 1 := by omega
        rw [if_pos rfl]
        clear k1
        go_enter Tryd.func12, Tryd.ntmps12
        go_wp2_with fail
        refine (truth_any _ _).mono ?_
        rintro e w9 ⟨rfl, hb⟩
        obtain ⟨_, _, R, hw⟩ := box3 hb
        rw [hz] at R hw
        clear hb
        obtain ⟨a0, a1, a2, a3, a4, a5⟩ := R.tell
        obtain ⟨f0, f1, f2, f3, f4, f5⟩ := R.thaw
        have lb := R.low
        go_wp2
        exact bodyPost_ret (v := told 2) (by simp [results, Tryd.results12, go_sem, a0, a1, a2, a3, a4, a5, kd, yd]) rfl ⟨rfl, unhide FIN _ _ _ _ _ _ _ _ hw (by omega)⟩
      · rw [if_neg e]
        have e' : (k == k') = false := by simp [e]
        by_cases k11 : k = 1
        · subst k11
          clear k1
          go_enter Tryd.func12, Tryd.ntmps12
          go_wp2_with fail
          refine (truth_any _ _).mono ?_
          rintro e w9 ⟨rfl, hb⟩
          obtain ⟨_, _, R, hw⟩ := box3 hb
          rw [hz] at R hw
          clear hb
          obtain ⟨a0, a1, a2, a3, a4, a5⟩ := R.tell
          obtain ⟨f0, f1, f2, f3, f4, f5⟩ := R.thaw
          have lb := R.low
          go_wp2
          exact bodyPost_ret (v := told 0) (by simp [results, Tryd.results12, go_sem, a0, a1, a2, a3, a4, a5, kd, yd]) rfl ⟨rfl, unhide FIN _ _ _ _ _ _ _ _ hw (by omega)⟩
        · obtain rfl : k' = 1 := by omega
          clear k1
          go_enter Tryd.func12, Tryd.ntmps12
          go_wp2_with fail
          refine (truth_any _ _).mono ?_
          rintro e w9 ⟨rfl, hb⟩
          obtain ⟨_, _, R, hw⟩ := box3 hb
          rw [hz] at R hw
          clear hb
          obtain ⟨a0, a1, a2, a3, a4, a5⟩ := R.tell
          obtain ⟨f0, f1, f2, f3, f4, f5⟩ := R.thaw
          have lb := R.low
          go_wp2
          exact bodyPost_ret (v := told 0) (by simp [results, Tryd.results12, go_sem, a0, a1, a2, a3, a4, a5, kd, yd]) rfl ⟨rfl, unhide FIN _ _ _ _ _ _ _ _ hw (by omega)⟩
    · have m1 : ¬ k = 1 := by omega
      have m2 : ¬ k' = 1 := by omega
      by_cases e : k = k'
      · subst e
        have m5 : ¬ k = 5 := by omega
        clear n5 k1 m2
        by_cases k2 : k = 2
        · subst k2
          rw [ef_bool (unhide H1)]
          by_cases ey : y = y'
          · subst ey
            rw [if_pos rfl]
            go_enter Tryd.func12, Tryd.ntmps12
            go_wp2_with fail
            refine (truth_any _ _).mono ?_
            rintro e w9 ⟨rfl, hb⟩
            obtain ⟨_, _, R, hw⟩ := box3 hb
            rw [hz] at R hw
            clear hb
            obtain ⟨a0, a1, a2, a3, a4, a5⟩ := R.tell
            obtain ⟨f0, f1, f2, f3, f4, f5⟩ := R.thaw
            have lb := R.low
            go_wp2
            exact bodyPost_ret (v := told 2) (by simp [results, Tryd.results12, go_sem, a0, a1, a2, a3, a4, a5, kd, yd]) rfl ⟨rfl, unhide FIN _ _ _ _ _ _ _ _ hw (by omega)⟩
          · rw [if_neg ey]
            have ey' : (y == y') = false := by simp [ey]
            go_enter Tryd.func12, Tryd.ntmps12
            go_wp2_with fail
            refine (truth_any _ _).mono ?_
            rintro e w9 ⟨rfl, hb⟩
            obtain ⟨_, _, R, hw⟩ := box3 hb
            rw [hz] at R hw
            clear hb
            obtain ⟨a0, a1, a2, a3, a4, a5⟩ := R.tell
            obtain ⟨f0, f1, f2, f3, f4, f5⟩ := R.thaw
            have lb := R.low
            go_wp2
            exact bodyPost_ret (v := told 0) (by simp [results, Tryd.results12, go_sem, a0, a1, a2, a3, a4, a5, kd, yd]) rfl ⟨rfl, unhide FIN _ _ _ _ _ _ _ _ hw (by omega)⟩
        by_cases k3 : k = 3
        · subst k3
          rw [ef_num (unhide H1)]
          by_cases ec : c = c'
          · subst ec
            by_cases ex : x = x'
            · subst ex
              rw [if_pos ⟨rfl, rfl⟩]
              go_enter Tryd.func12, Tryd.ntmps12
              go_wp2_with fail
              refine (truth_any _ _).mono ?_
              rintro e w9 ⟨rfl, hb⟩
              obtain ⟨_, _, R, hw⟩ := box3 hb
              rw [hz] at R hw
              clear hb
              obtain ⟨a0, a1, a2, a3, a4, a5⟩ := R.tell
              obtain ⟨f0, f1, f2, f3, f4, f5⟩ := R.thaw
              have lb := R.low
              go_wp2
              exact bodyPost_ret (v := told 2) (by simp [results, Tryd.results12, go_sem, a0, a1, a2, a3, a4, a5, kd, yd]) rfl ⟨rfl, unhide FIN _ _ _ _ _ _ _ _ hw (by omega)⟩
            · rw [if_neg (fun q => ex q.2)]
              go_enter Tryd.func12, Tryd.ntmps12
              go_wp2_with fail
              refine (truth_any _ _).mono ?_
              rintro e w9 ⟨rfl, hb⟩
              obtain ⟨_, _, R, hw⟩ := box3 hb
              rw [hz] at R hw
              clear hb
              obtain ⟨a0, a1, a2, a3, a4, a5⟩ := R.tell
              obtain ⟨f0, f1, f2, f3, f4, f5⟩ := R.thaw
              have lb := R.low
              go_wp2
              exact bodyPost_ret (v := told 0) (by simp [results, Tryd.results12, go_sem, a0, a1, a2, a3, a4, a5, kd, yd]) rfl ⟨rfl, unhide FIN _ _ _ _ _ _ _ _ hw (by omega)⟩
          · rw [if_neg (fun q => ec q.1)]
            go_enter Tryd.func12, Tryd.ntmps12
            go_wp2_with fail
            refine (truth_any _ _).mono ?_
            rintro e w9 ⟨rfl, hb⟩
            obtain ⟨_, _, R, hw⟩ := box3 hb
            rw [hz] at R hw
            clear hb
            obtain ⟨a0, a1, a2, a3, a4, a5⟩ := R.tell
            obtain ⟨f0, f1, f2, f3, f4, f5⟩ := R.thaw
            have lb := R.low
            go_wp2
            exact bodyPost_ret (v := told 0) (by simp [results, Tryd.results12, go_sem, a0, a1, a2, a3, a4, a5, kd, yd]) rfl ⟨rfl, unhide FIN _ _ _ _ _ _ _ _ hw (by omega)⟩
        by_cases k4 : k = 4
        · subst k4
          rw [ef_text (unhide H1)]
          by_cases et : t.toList = t'.toList
          · rw [if_pos et]
            have et' : (t.toList == t'.toList) = true := by simp [et]
            go_enter Tryd.func12, Tryd.ntmps12
            go_wp2_with fail
            refine (truth_any _ _).mono ?_
            rintro e w9 ⟨rfl, hb⟩
            obtain ⟨_, _, R, hw⟩ := box3 hb
            rw [hz] at R hw
            clear hb
            obtain ⟨a0, a1, a2, a3, a4, a5⟩ := R.tell
            obtain ⟨f0, f1, f2, f3, f4, f5⟩ := R.thaw
            have lb := R.low
            go_wp2
            exact bodyPost_ret (v := told 2) (by simp [results, Tryd.results12, go_sem, a0, a1, a2, a3, a4, a5, kd, yd]) rfl ⟨rfl, unhide FIN _ _ _ _ _ _ _ _ hw (by omega)⟩
          · rw [if_neg et]
            have et' : (t.toList == t'.toList) = false := by simp [et]
            go_enter Tryd.func12, Tryd.ntmps12
            go_wp2_with fail
            refine (truth_any _ _).mono ?_
            rintro e w9 ⟨rfl, hb⟩
            obtain ⟨_, _, R, hw⟩ := box3 hb
            rw [hz] at R hw
            clear hb
            obtain ⟨a0, a1, a2, a3, a4, a5⟩ := R.tell
            obtain ⟨f0, f1, f2, f3, f4, f5⟩ := R.thaw
            have lb := R.low
            go_wp2
            exact bodyPost_ret (v := told 0) (by simp [results, Tryd.results12, go_sem, a0, a1, a2, a3, a4, a5, kd, yd]) rfl ⟨rfl, unhide FIN _ _ _ _ _ _ _ _ hw (by omega)⟩
        rw [ef_else (unhide H1) m1 k2 k3 k4 m5]
        go_enter Tryd.func12, Tryd.ntmps12
        go_wp2_with fail
        refine (null_any _).mono ?_
        rintro e w9 ⟨rfl, hb⟩
        obtain ⟨_, _, R, hw⟩ := box3 hb
        rw [hz] at R hw
        clear hb
        obtain ⟨a0, a1, a2, a3, a4, a5⟩ := R.tell
        obtain ⟨f0, f1, f2, f3, f4, f5⟩ := R.thaw
        have lb := R.low
        go_wp2
        exact bodyPost_ret (v := told 1) (by simp [results, Tryd.results12, go_sem, a0, a1, a2, a3, a4, a5, kd, yd]) rfl ⟨rfl, unhide FIN _ _ _ _ _ _ _ _ hw (by omega)⟩
      · rw [ef_kind (unhide H1) k1 e]
        have e' : (k != k') = true := by simp [e]
        have m1' : (k == 1) = false := by simp [m1]
        have m2' : (k' == 1) = false := by simp [m2]
        clear n5 k1
        go_enter Tryd.func12, Tryd.ntmps12
        go_wp2_with fail
        refine (null_any _).mono ?_
        rintro e w9 ⟨rfl, hb⟩
        obtain ⟨_, _, R, hw⟩ := box3 hb
        rw [hz] at R hw
        clear hb
        obtain ⟨a0, a1, a2, a3, a4, a5⟩ := R.tell
        obtain ⟨f0, f1, f2, f3, f4, f5⟩ := R.thaw
        have lb := R.low
        go_wp2
        exact bodyPost_ret (v := told 1) (by simp [results, Tryd.results12, go_sem, a0, a1, a2, a3, a4, a5, kd, yd]) rfl ⟨rfl, unhide FIN _ _ _ _ _ _ _ _ hw (by omega)⟩
end Go.Proofs.YthhdgimphnbjbaaDoor
