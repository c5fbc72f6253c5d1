/- Walks: matching.equal of two trees. -/
import Derived.Test.YtcidbhegnnedoaaGreatDoorG15
namespace Go.Proofs.YtcidbhegnnedoaaGreatDoor
open Go.RowKit

theorem ef_much {k k' : Int} {y y' : Bool} {c x c' x' : Int} {t t' : ByteArray} {ks ks' : List Tree} {s d : Nat} (h : 2000 < s + 1 ∨ 20 < d) : eqF (.mk k y c x t ks) (.mk k' y' c' x' t' ks') s d = (1, s + 1) := by rw [eqF, if_pos h]
theorem ef_nil {k k' : Int} {y y' : Bool} {c x c' x' : Int} {t t' : ByteArray} {ks ks' : List Tree} {s d : Nat} (h : ¬ (2000 < s + 1 ∨ 20 < d)) (hk : k = 1 ∨ k' = 1) : eqF (.mk k y c x t ks) (.mk k' y' c' x' t' ks') s d = (if k = k' then 2 else 0, s + 1) := by rw [eqF, if_neg h, if_pos hk]
theorem ef_kind {k k' : Int} {y y' : Bool} {c x c' x' : Int} {t t' : ByteArray} {ks ks' : List Tree} {s d : Nat} (h : ¬ (2000 < s + 1 ∨ 20 < d)) (hk : ¬ (k = 1 ∨ k' = 1)) (hn : ¬ k = k') : eqF (.mk k y c x t ks) (.mk k' y' c' x' t' ks') s d = (1, s + 1) := by rw [eqF, if_neg h, if_neg hk, if_neg hn]
theorem ef_bool {y y' : Bool} {c x c' x' : Int} {t t' : ByteArray} {ks ks' : List Tree} {s d : Nat} (h : ¬ (2000 < s + 1 ∨ 20 < d)) : eqF (.mk 2 y c x t ks) (.mk 2 y' c' x' t' ks') s d = (if y = y' then 2 else 0, s + 1) := by rw [eqF, if_neg h, if_neg (by omega), if_pos rfl, if_pos rfl]
theorem ef_num {y y' : Bool} {c x c' x' : Int} {t t' : ByteArray} {ks ks' : List Tree} {s d : Nat} (h : ¬ (2000 < s + 1 ∨ 20 < d)) : eqF (.mk 3 y c x t ks) (.mk 3 y' c' x' t' ks') s d = (if c = c' ∧ x = x' then 2 else 0, s + 1) := by rw [eqF, if_neg h, if_neg (by omega), if_pos rfl, if_neg (by omega), if_pos rfl]
theorem ef_text {y y' : Bool} {c x c' x' : Int} {t t' : ByteArray} {ks ks' : List Tree} {s d : Nat} (h : ¬ (2000 < s + 1 ∨ 20 < d)) : eqF (.mk 4 y c x t ks) (.mk 4 y' c' x' t' ks') s d = (if t.toList = t'.toList then 2 else 0, s + 1) := by rw [eqF, if_neg h, if_neg (by omega), if_pos rfl, if_neg (by omega), if_neg (by omega), if_pos rfl]
theorem ef_list {y y' : Bool} {c x c' x' : Int} {t t' : ByteArray} {ks ks' : List Tree} {s d : Nat} (h : ¬ (2000 < s + 1 ∨ 20 < d)) : eqF (.mk 5 y c x t ks) (.mk 5 y' c' x' t' ks') s d = if ks.length = ks'.length then eqL ks ks' 2 (s + 1) (d + 1) else (0, s + 1) := by rw [eqF, if_neg h, if_neg (by omega), if_pos rfl, if_neg (by omega), if_neg (by omega), if_neg (by omega), if_pos rfl]
theorem ef_else {k : Int} {y y' : Bool} {c x c' x' : Int} {t t' : ByteArray} {ks ks' : List Tree} {s d : Nat} (h : ¬ (2000 < s + 1 ∨ 20 < d)) (h1 : ¬ k = 1) (h2 : ¬ k = 2) (h3 : ¬ k = 3) (h4 : ¬ k = 4) (h5 : ¬ k = 5) : eqF (.mk k y c x t ks) (.mk k y' c' x' t' ks') s d = (1, s + 1) := by
  rw [eqF, if_neg h, if_neg (by omega), if_pos rfl, if_neg h2, if_neg h3, if_neg h4, if_neg h5]
theorem eq_fin {p s : Nat} {w : World} (hS : St w p s) (w9 : World) (rb : Nat) (v0 v1 v2 v3 v4 v5 : Value) (hw : Below w.heap.size (w.setCell ⟨p, 0, none⟩ (.int .i64 ((s : Int) + 1))) w9) (lr : w.heap.size ≤ rb) :
    St (put6 w9 rb v0 v1 v2 v3 v4 v5) p (s + 1) ∧ But p w (put6 w9 rb v0 v1 v2 v3 v4 v5) := by
  have hp := hS.2.2
  have S1 : St (w.setCell ⟨p, 0, none⟩ (.int .i64 ((s : Int) + 1))) p (s + 1) := by
    obtain ⟨h1, h2, h3⟩ := hS
    refine ⟨?_, ?_, by simpa [World.setCell] using h3⟩
    · simp [go_sem, h1]
    · simp [go_sem, h2]
  exact ⟨(S1.below hw hp).but But.put (by omega), (But.set.on hw).on (below_put6 (Below.refl _ _) lr)⟩

set_option maxHeartbeats 4000000 in
theorem eq_plain (k : Int) (y : Bool) (c x : Int) (t : ByteArray) (k' : Int) (y' : Bool) (c' x' : Int) (t' : ByteArray) (ks ks' : List Tree) (a a' : Option Addr) (cap cap' : Nat) (w : World) (p s d : Nat) (hS : St w p s) (hs : s ≤ 2000) (hd : d ≤ 21) (h5 : 2000 < s + 1 ∨ 20 < d ∨ ¬ (k = 5 ∧ k' = 5)) :
    Calls Tryz.prog 57 #[.pointer (some ⟨p, 0, none⟩), .agg #[.int .i64 k, .bool y, .int .i64 c, .int .i64 x, .string t, .slice a ks.length cap], .agg #[.int .i64 k', .bool y', .int .i64 c', .int .i64 x', .string t', .slice a' ks'.length cap'], .int .i64 (d : Int)] w fun e w' => e = .returned (told (eqF (.mk k y c x t ks) (.mk k' y' c' x' t' ks') s d).1) ∧ St w' p (eqF (.mk k y c x t ks) (.mk k' y' c' x' t' ks') s d).2 ∧ But p w w' := by
  have FIN := hide (fun w9 rb v0 v1 v2 v3 v4 v5 hw lr => eq_fin hS w9 rb v0 v1 v2 v3 v4 v5 hw lr)
  have hz : (w.setCell ⟨p, 0, none⟩ (.int .i64 ((s : Int) + 1))).heap.size = w.heap.size := by simp [World.setCell]
  obtain ⟨s1, s2, s3⟩ := hS
  have q1 : p < w.heap.size + 1 := by omega
  have q2 : p < w.heap.size + 1 + 1 := by omega
  by_cases h1 : 2000 < s + 1 ∨ 20 < d
  · rw [ef_much h1]
    clear h5
    by_cases h2 : 2000 < s + 1
    · have h2' : (2000 : Int) < (s : Int) + 1 := by omega
      clear h1
      go_enter Tryz.func57, Tryz.ntmps57
      go_wp2_with fail
      refine (null_any _).mono ?_
      rintro e w9 ⟨rfl, hb⟩
      obtain ⟨_, _, R, hw⟩ := box3 hb
      rw [hz] at R hw
      clear hb
      obtain ⟨a0, a1, a2, a3, a4, a5⟩ := R.tell
      obtain ⟨f0, f1, f2, f3, f4, f5⟩ := R.thaw
      have lb := R.low
      go_wp2
      exact bodyPost_ret (v := told 1) (by simp [results, Tryz.results57, go_sem, a0, a1, a2, a3, a4, a5, kd, yd]) rfl ⟨rfl, unhide FIN _ _ _ _ _ _ _ _ hw (by omega)⟩
    · have h2' : ¬ (2000 : Int) < (s : Int) + 1 := by omega
      have h3' : (20 : Int) < (d : Int) := by omega
      clear h1
      go_enter Tryz.func57, Tryz.ntmps57
      go_wp2_with fail
      refine (null_any _).mono ?_
      rintro e w9 ⟨rfl, hb⟩
      obtain ⟨_, _, R, hw⟩ := box3 hb
      rw [hz] at R hw
      clear hb
      obtain ⟨a0, a1, a2, a3, a4, a5⟩ := R.tell
      obtain ⟨f0, f1, f2, f3, f4, f5⟩ := R.thaw
      have lb := R.low
      go_wp2
      exact bodyPost_ret (v := told 1) (by simp [results, Tryz.results57, go_sem, a0, a1, a2, a3, a4, a5, kd, yd]) rfl ⟨rfl, unhide FIN _ _ _ _ _ _ _ _ hw (by omega)⟩
  · have h2' : ¬ (2000 : Int) < (s : Int) + 1 := by omega
    have h3' : ¬ (20 : Int) < (d : Int) := by omega
    have H1 := hide h1
    have n5 : ¬ (k = 5 ∧ k' = 5) := by omega
    clear h1 h5
    by_cases k1 : k = 1 ∨ k' = 1
    · rw [ef_nil (unhide H1) k1]
      clear n5
      by_cases e : k = k'
      · subst e
        obtain rfl : k = 1 := by omega
        rw [if_pos rfl]
        clear k1
        go_enter Tryz.func57, Tryz.ntmps57
        go_wp2_with fail
        refine (truth_any _ _).mono ?_
        rintro e w9 ⟨rfl, hb⟩
        obtain ⟨_, _, R, hw⟩ := box3 hb
        rw [hz] at R hw
        clear hb
        obtain ⟨a0, a1, a2, a3, a4, a5⟩ := R.tell
        obtain ⟨f0, f1, f2, f3, f4, f5⟩ := R.thaw
        have lb := R.low
        go_wp2
        exact bodyPost_ret (v := told 2) (by simp [results, Tryz.results57, go_sem, a0, a1, a2, a3, a4, a5, kd, yd]) rfl ⟨rfl, unhide FIN _ _ _ _ _ _ _ _ hw (by omega)⟩
      · rw [if_neg e]
        have e' : (k == k') = false := by simp [e]
        by_cases k11 : k = 1
        · subst k11
          clear k1
          go_enter Tryz.func57, Tryz.ntmps57
          go_wp2_with fail
          refine (truth_any _ _).mono ?_
          rintro e w9 ⟨rfl, hb⟩
          obtain ⟨_, _, R, hw⟩ := box3 hb
          rw [hz] at R hw
          clear hb
          obtain ⟨a0, a1, a2, a3, a4, a5⟩ := R.tell
          obtain ⟨f0, f1, f2, f3, f4, f5⟩ := R.thaw
          have lb := R.low
          go_wp2
          exact bodyPost_ret (v := told 0) (by simp [results, Tryz.results57, go_sem, a0, a1, a2, a3, a4, a5, kd, yd]) rfl ⟨rfl, unhide FIN _ _ _ _ _ _ _ _ hw (by omega)⟩
        · obtain rfl : k' = 1 := by omega
          clear k1
          go_enter Tryz.func57, Tryz.ntmps57
          go_wp2_with fail
          refine (truth_any _ _).mono ?_
          rintro e w9 ⟨rfl, hb⟩
          obtain ⟨_, _, R, hw⟩ := box3 hb
          rw [hz] at R hw
          clear hb
          obtain ⟨a0, a1, a2, a3, a4, a5⟩ := R.tell
          obtain ⟨f0, f1, f2, f3, f4, f5⟩ := R.thaw
          have lb := R.low
          go_wp2
          exact bodyPost_ret (v := told 0) (by simp [results, Tryz.results57, go_sem, a0, a1, a2, a3, a4, a5, kd, yd]) rfl ⟨rfl, unhide FIN _ _ _ _ _ _ _ _ hw (by omega)⟩
    · have m1 : ¬ k = 1 := by omega
      have m2 : ¬ k' = 1 := by omega
      by_cases e : k = k'
      · subst e
        have m5 : ¬ k = 5 := by omega
        clear n5 k1 m2
        by_cases k2 : k = 2
        · subst k2
          rw [ef_bool (unhide H1)]
          by_cases ey : y = y'
          · subst ey
            rw [if_pos rfl]
            go_enter Tryz.func57, Tryz.ntmps57
            go_wp2_with fail
            refine (truth_any _ _).mono ?_
            rintro e w9 ⟨rfl, hb⟩
            obtain ⟨_, _, R, hw⟩ := box3 hb
            rw [hz] at R hw
            clear hb
            obtain ⟨a0, a1, a2, a3, a4, a5⟩ := R.tell
            obtain ⟨f0, f1, f2, f3, f4, f5⟩ := R.thaw
            have lb := R.low
            go_wp2
            exact bodyPost_ret (v := told 2) (by simp [results, Tryz.results57, go_sem, a0, a1, a2, a3, a4, a5, kd, yd]) rfl ⟨rfl, unhide FIN _ _ _ _ _ _ _ _ hw (by omega)⟩
          · rw [if_neg ey]
            have ey' : (y == y') = false := by simp [ey]
            go_enter Tryz.func57, Tryz.ntmps57
            go_wp2_with fail
            refine (truth_any _ _).mono ?_
            rintro e w9 ⟨rfl, hb⟩
            obtain ⟨_, _, R, hw⟩ := box3 hb
            rw [hz] at R hw
            clear hb
            obtain ⟨a0, a1, a2, a3, a4, a5⟩ := R.tell
            obtain ⟨f0, f1, f2, f3, f4, f5⟩ := R.thaw
            have lb := R.low
            go_wp2
            exact bodyPost_ret (v := told 0) (by simp [results, Tryz.results57, go_sem, a0, a1, a2, a3, a4, a5, kd, yd]) rfl ⟨rfl, unhide FIN _ _ _ _ _ _ _ _ hw (by omega)⟩
        by_cases k3 : k = 3
        · subst k3
          rw [ef_num (unhide H1)]
          by_cases ec : c = c'
          · subst ec
            by_cases ex : x = x'
            · subst ex
              rw [if_pos ⟨rfl, rfl⟩]
              go_enter Tryz.func57, Tryz.ntmps57
              go_wp2_with fail
              refine (truth_any _ _).mono ?_
              rintro e w9 ⟨rfl, hb⟩
              obtain ⟨_, _, R, hw⟩ := box3 hb
              rw [hz] at R hw
              clear hb
              obtain ⟨a0, a1, a2, a3, a4, a5⟩ := R.tell
              obtain ⟨f0, f1, f2, f3, f4, f5⟩ := R.thaw
              have lb := R.low
              go_wp2
              exact bodyPost_ret (v := told 2) (by simp [results, Tryz.results57, go_sem, a0, a1, a2, a3, a4, a5, kd, yd]) rfl ⟨rfl, unhide FIN _ _ _ _ _ _ _ _ hw (by omega)⟩
            · rw [if_neg (fun q => ex q.2)]
              go_enter Tryz.func57, Tryz.ntmps57
              go_wp2_with fail
              refine (truth_any _ _).mono ?_
              rintro e w9 ⟨rfl, hb⟩
              obtain ⟨_, _, R, hw⟩ := box3 hb
              rw [hz] at R hw
              clear hb
              obtain ⟨a0, a1, a2, a3, a4, a5⟩ := R.tell
              obtain ⟨f0, f1, f2, f3, f4, f5⟩ := R.thaw
              have lb := R.low
              go_wp2
              exact bodyPost_ret (v := told 0) (by simp [results, Tryz.results57, go_sem, a0, a1, a2, a3, a4, a5, kd, yd]) rfl ⟨rfl, unhide FIN _ _ _ _ _ _ _ _ hw (by omega)⟩
          · rw [if_neg (fun q => ec q.1)]
            go_enter Tryz.func57, Tryz.ntmps57
            go_wp2_with fail
            refine (truth_any _ _).mono ?_
            rintro e w9 ⟨rfl, hb⟩
            obtain ⟨_, _, R, hw⟩ := box3 hb
            rw [hz] at R hw
            clear hb
            obtain ⟨a0, a1, a2, a3, a4, a5⟩ := R.tell
            obtain ⟨f0, f1, f2, f3, f4, f5⟩ := R.thaw
            have lb := R.low
            go_wp2
            exact bodyPost_ret (v := told 0) (by simp [results, Tryz.results57, go_sem, a0, a1, a2, a3, a4, a5, kd, yd]) rfl ⟨rfl, unhide FIN _ _ _ _ _ _ _ _ hw (by omega)⟩
        by_cases k4 : k = 4
        · subst k4
          rw [ef_text (unhide H1)]
          by_cases et : t.toList = t'.toList
          · rw [if_pos et]
            have et' : (t.toList == t'.toList) = true := by simp [et]
            go_enter Tryz.func57, Tryz.ntmps57
            go_wp2_with fail
            refine (truth_any _ _).mono ?_
            rintro e w9 ⟨rfl, hb⟩
            obtain ⟨_, _, R, hw⟩ := box3 hb
            rw [hz] at R hw
            clear hb
            obtain ⟨a0, a1, a2, a3, a4, a5⟩ := R.tell
            obtain ⟨f0, f1, f2, f3, f4, f5⟩ := R.thaw
            have lb := R.low
            go_wp2
            exact bodyPost_ret (v := told 2) (by simp [results, Tryz.results57, go_sem, a0, a1, a2, a3, a4, a5, kd, yd]) rfl ⟨rfl, unhide FIN _ _ _ _ _ _ _ _ hw (by omega)⟩
          · rw [if_neg et]
            have et' : (t.toList == t'.toList) = false := by simp [et]
            go_enter Tryz.func57, Tryz.ntmps57
            go_wp2_with fail
            refine (truth_any _ _).mono ?_
            rintro e w9 ⟨rfl, hb⟩
            obtain ⟨_, _, R, hw⟩ := box3 hb
            rw [hz] at R hw
            clear hb
            obtain ⟨a0, a1, a2, a3, a4, a5⟩ := R.tell
            obtain ⟨f0, f1, f2, f3, f4, f5⟩ := R.thaw
            have lb := R.low
            go_wp2
            exact bodyPost_ret (v := told 0) (by simp [results, Tryz.results57, go_sem, a0, a1, a2, a3, a4, a5, kd, yd]) rfl ⟨rfl, unhide FIN _ _ _ _ _ _ _ _ hw (by omega)⟩
        rw [ef_else (unhide H1) m1 k2 k3 k4 m5]
        go_enter Tryz.func57, Tryz.ntmps57
        go_wp2_with fail
        refine (null_any _).mono ?_
        rintro e w9 ⟨rfl, hb⟩
        obtain ⟨_, _, R, hw⟩ := box3 hb
        rw [hz] at R hw
        clear hb
        obtain ⟨a0, a1, a2, a3, a4, a5⟩ := R.tell
        obtain ⟨f0, f1, f2, f3, f4, f5⟩ := R.thaw
        have lb := R.low
        go_wp2
        exact bodyPost_ret (v := told 1) (by simp [results, Tryz.results57, go_sem, a0, a1, a2, a3, a4, a5, kd, yd]) rfl ⟨rfl, unhide FIN _ _ _ _ _ _ _ _ hw (by omega)⟩
      · rw [ef_kind (unhide H1) k1 e]
        have e' : (k != k') = true := by simp [e]
        have m1' : (k == 1) = false := by simp [m1]
        have m2' : (k' == 1) = false := by simp [m2]
        clear n5 k1
        go_enter Tryz.func57, Tryz.ntmps57
        go_wp2_with fail
        refine (null_any _).mono ?_
        rintro e w9 ⟨rfl, hb⟩
        obtain ⟨_, _, R, hw⟩ := box3 hb
        rw [hz] at R hw
        clear hb
        obtain ⟨a0, a1, a2, a3, a4, a5⟩ := R.tell
        obtain ⟨f0, f1, f2, f3, f4, f5⟩ := R.thaw
        have lb := R.low
        go_wp2
        exact bodyPost_ret (v := told 1) (by simp [results, Tryz.results57, go_sem, a0, a1, a2, a3, a4, a5, kd, yd]) rfl ⟨rfl, unhide FIN _ _ _ _ _ _ _ _ hw (by omega)⟩
end Go.Proofs.YtcidbhegnnedoaaGreatDoor

/- Walks: matching.equalLists of two lists of nothing. -/
namespace Go.Proofs.YtcidbhegnnedoaaGreatDoor
open Go.RowKit

set_option maxHeartbeats 4000000 in
theorem eqLists_nil (a a' : Option Addr) (cap cap' : Nat) (w : World) (p : Nat) (d : Int) :
    Calls Tryz.prog 73 #[.pointer (some ⟨p, 0, none⟩), .slice a 0 cap, .slice a' 0 cap', .int .i64 d] w fun e w' => e = .returned (told 2) ∧ Below w.heap.size w w' := by
  go_enter Tryz.func73, Tryz.ntmps73
  go_wp2_with fail
  refine (truth_any _ _).mono ?_
  rintro e w9 ⟨rfl, hb⟩
  have R := Box.new.keep hb (by simp)
  have hw := (vbelow_new w _).trans (hb.mono (by simp))
  clear hb
  obtain ⟨a0, a1, a2, a3, a4, a5⟩ := R.tell
  obtain ⟨f0, f1, f2, f3, f4, f5⟩ := R.thaw
  have lb := R.low
  have XA := hide (Box.new (w := w9) (t := 26) (a0 := .int .i64 (kd 2)) (a1 := .bool (yd 2)) (a2 := .int .i64 0) (a3 := .int .i64 0) (a4 := .string ⟨#[]⟩) (a5 := .slice none 0 0))
  have hw9 := hw.size
  have HW := hide (hw.alloc hw9 (.cells #[.int .i64 (kd 2), .bool (yd 2), .int .i64 0, .int .i64 0, .string ⟨#[]⟩, .slice none 0 0] 26))
  have R1 := hide (R.over (o := .cells #[.int .i64 (kd 2), .bool (yd 2), .int .i64 0, .int .i64 0, .string ⟨#[]⟩, .slice none 0 0] 26))
  clear hw a0 a1 a2 a3 a4 a5 f0 f1 f2 f3 f4 f5 R
  go_wp2
  go_loopw [20] (fun i wr => i = .int .i64 (0 : Int) ∧ Hid (Box wr w.heap.size #[.int .i64 0, .bool false, .int .i64 0, .int .i64 0, .string ⟨#[]⟩, .slice none 0 0]) ∧ Hid (Box wr w9.heap.size #[.int .i64 (kd 2), .bool (yd 2), .int .i64 0, .int .i64 0, .string ⟨#[]⟩, .slice none 0 0]) ∧ Hid (Below w.heap.size w wr)) (fun _ _ => 0)
  case atStart => exact ⟨rfl, R1, XA, HW⟩
  case round =>
    obtain ⟨rfl, HR, HX, HB⟩ := hrel
    clear R1 XA HW
    have R5 := unhide HR
    obtain ⟨y0, y1, y2, y3, y4, y5⟩ := (unhide HX).tell
    obtain ⟨r0, r1, r2, r3, r4, r5⟩ := R5.tell
    obtain ⟨o0, o1, o2, o3, o4, o5⟩ := R5.thaw
    have lb5 := R5.low
    clear R5
    go_wp2
    exact bodyPost_ret (v := told 2) (by simp [results, Tryz.results73, go_sem, r0, r1, r2, r3, r4, r5]) rfl ⟨rfl, below_put6 (unhide HB) (Nat.le_refl _)⟩
end Go.Proofs.YtcidbhegnnedoaaGreatDoor

/- Walks: matching.equal of two lists, of any two trees; Equal. -/
namespace Go.Proofs.YtcidbhegnnedoaaGreatDoor
open Go.RowKit

theorem box3b {p : Nat} {w w1 : World} {s t u : TypeId} {a0 a1 a2 a3 a4 a5 b0 b1 b2 b3 b4 b5 c0 c1 c2 c3 c4 c5 : Value} (hp : p < w.heap.size) (hb : But p (((w.alloc (.cells #[a0, a1, a2, a3, a4, a5] s)).alloc (.cells #[b0, b1, b2, b3, b4, b5] t)).alloc (.cells #[c0, c1, c2, c3, c4, c5] u)) w1) :
    Box w1 (w.heap.size + 1 + 1) #[c0, c1, c2, c3, c4, c5] ∧ But p w w1 := by
  have C := (Box.new (w := (w.alloc (.cells #[a0, a1, a2, a3, a4, a5] s)).alloc (.cells #[b0, b1, b2, b3, b4, b5] t)) (t := u) (a0 := c0) (a1 := c1) (a2 := c2) (a3 := c3) (a4 := c4) (a5 := c5)).but hb (by simp; omega)
  exact ⟨by simpa using C, (But.of ((((Below.refl _ _).alloc (Nat.le_refl _) _).alloc (by simp) _).alloc (by simp; omega) _)).trans hb⟩

theorem St.add {w : World} {p s : Nat} (h : St w p s) : St (w.setCell ⟨p, 0, none⟩ (.int .i64 ((s : Int) + 1))) p (s + 1) := by
  obtain ⟨h1, h2, h3⟩ := h
  refine ⟨?_, ?_, by simpa [World.setCell] using h3⟩
  · simp [go_sem, h1]
  · simp [go_sem, h2]

set_option maxHeartbeats 2000000 in
theorem eq_list_call (y : Bool) (c x : Int) (t : ByteArray) (y' : Bool) (c' x' : Int) (t' : ByteArray) (l l' : Nat) (a a' : Option Addr) (cap cap' : Nat) (w : World) (p s d g n : Nat) (hS : St w p s) (hs : s + 1 ≤ 2000) (hd : d ≤ 20)
    (hC : ∀ wx, Below w.heap.size (w.setCell ⟨p, 0, none⟩ (.int .i64 ((s : Int) + 1))) wx → Calls Tryz.prog 73 #[.pointer (some ⟨p, 0, none⟩), .slice a l cap, .slice a' l' cap', .int .i64 ((d : Int) + 1)] wx fun e w' => e = .returned (told g) ∧ St w' p n ∧ But p wx w') :
    Calls Tryz.prog 57 #[.pointer (some ⟨p, 0, none⟩), .agg #[.int .i64 5, .bool y, .int .i64 c, .int .i64 x, .string t, .slice a l cap], .agg #[.int .i64 5, .bool y', .int .i64 c', .int .i64 x', .string t', .slice a' l' cap'], .int .i64 (d : Int)] w fun e w' => e = .returned (told g) ∧ St w' p n ∧ But p w w' := by
  have hz : (w.setCell ⟨p, 0, none⟩ (.int .i64 ((s : Int) + 1))).heap.size = w.heap.size := by simp [World.setCell]
  have HC := hide (fun o1 o2 o3 => hC ((((w.setCell ⟨p, 0, none⟩ (.int .i64 ((s : Int) + 1))).alloc o1).alloc o2).alloc o3) ((((Below.refl _ _).alloc (by simp [World.setCell]) o1).alloc (by simp [World.setCell]) o2).alloc (by simp [World.setCell]; omega) o3))
  obtain ⟨s1, s2, s3⟩ := hS
  have q1 : p < w.heap.size + 1 := by omega
  have q2 : p < w.heap.size + 1 + 1 := by omega
  have h2' : ¬ (2000 : Int) < (s : Int) + 1 := by omega
  have h3' : ¬ (20 : Int) < (d : Int) := by omega
  clear hC
  go_enter Tryz.func57, Tryz.ntmps57
  go_wp2_with fail
  refine (unhide HC _ _ _).mono ?_
  rintro e w9 ⟨rfl, hS9, hb⟩
  obtain ⟨R, hw⟩ := box3b (by rw [hz]; exact s3) hb
  rw [hz] at R
  clear hb HC
  obtain ⟨a0, a1, a2, a3, a4, a5⟩ := R.tell
  obtain ⟨f0, f1, f2, f3, f4, f5⟩ := R.thaw
  have lb := R.low
  go_wp2
  exact bodyPost_ret (v := told g) (by simp [results, Tryz.results57, go_sem, a0, a1, a2, a3, a4, a5]) rfl ⟨rfl, hS9.but But.put (by omega), (But.set.trans hw).on (below_put6 (Below.refl _ _) (by omega))⟩

theorem eq_of (k : Int) (y : Bool) (c x : Int) (t : ByteArray) (ks : List Tree) (IH : ∀ u ∈ ks, EqC u) : EqC (.mk k y c x t ks) := by
  intro U B w v u p s d hM hM' hp hS hs hd1 hd
  cases U with
  | mk k' y' c' x' t' ks' =>
  rw [Mem] at hM hM'
  obtain ⟨ht, hk, a, cap, rfl, hks⟩ := hM
  obtain ⟨ht', hk', a', cap', rfl, hks'⟩ := hM'
  by_cases h5 : 2000 < s + 1 ∨ 20 < d ∨ ¬ (k = 5 ∧ k' = 5)
  · exact eq_plain k y c x t k' y' c' x' t' ks ks' a a' cap cap' w p s d hS hs hd h5
  · obtain ⟨rfl, rfl⟩ : k = 5 ∧ k' = 5 := by omega
    rw [ef_list (by omega)]
    have hBw : B ≤ w.heap.size := Nat.le_of_lt (Nat.lt_of_le_of_lt hp hS.2.2)
    have hz : (w.setCell ⟨p, 0, none⟩ (.int .i64 ((s : Int) + 1))).heap.size = w.heap.size := by simp [World.setCell]
    have S1 := hS.add
    have hp3 : p < w.heap.size := hS.2.2
    by_cases hl : ks.length = ks'.length
    · rw [if_pos hl]
      by_cases hn : ks = []
      · subst hn
        have hn' : ks' = [] := List.eq_nil_of_length_eq_zero (by rw [← hl]; rfl)
        subst hn'
        rw [eqL_nil]
        refine eq_list_call y c x t y' c' x' t' _ _ a a' cap cap' w p s d 2 (s + 1) hS (by omega) (by omega) (fun wx hx => ?_)
        refine (eqLists_nil a a' cap cap' wx p _).mono ?_
        rintro e w2 ⟨he, hb⟩
        exact ⟨he, (S1.below hx hp3).below hb (Nat.lt_of_lt_of_le hp3 (by rw [← hz]; exact hx.size)), But.of hb⟩
      · have hn' : ks' ≠ [] := by
          intro q
          rw [q] at hl
          exact hn (List.eq_nil_of_length_eq_zero hl)
        obtain ⟨b, off, rfl, hb, hm⟩ := hks hn
        obtain ⟨b', off', rfl, hb', hm'⟩ := hks' hn'
        refine eq_list_call y c x t y' c' x' t' _ _ _ _ cap cap' w p s d _ _ hS (by omega) (by omega) (fun wx hx => ?_)
        have hBx : Below B w wx := ((Below.refl B w).setCell (p := ⟨p, 0, none⟩) hp (.int .i64 ((s : Int) + 1))).trans (hx.mono hBw)
        exact eqLists_yes ks ks' IH B wx b b' off off' cap cap' p (s + 1) (d + 1) hl hk (MemL.below hBx hb hm) (MemL.below hBx hb' hm') hb hb' hp (S1.below hx hp3) (by omega) (by omega) (by omega)
    · rw [if_neg hl]
      refine eq_list_call y c x t y' c' x' t' _ _ a a' cap cap' w p s d 0 (s + 1) hS (by omega) (by omega) (fun wx hx => ?_)
      refine (eqLists_no _ _ a a' cap cap' wx p _ hl).mono ?_
      rintro e w2 ⟨he, hb⟩
      exact ⟨he, (S1.below hx hp3).below hb (Nat.lt_of_lt_of_le hp3 (by rw [← hz]; exact hx.size)), But.of hb⟩

mutual
theorem eq_all : ∀ T : Tree, EqC T
  | .mk k y c x t ks => eq_of k y c x t ks (fun u h => eq_alls ks u h)
theorem eq_alls : ∀ (ks : List Tree) (u : Tree), u ∈ ks → EqC u
  | [], u, h => by cases h
  | v :: vs, u, h => by
    by_cases e : u = v
    · rw [e]; exact eq_all v
    · exact eq_alls vs u ((List.mem_cons.1 h).resolve_left e)
end

/-- what Equal tells of two trees -/
def eqT (T U : Tree) : Nat := (eqF T U 0 1).1

theorem box4b {p : Nat} {w w1 : World} {s t u r : TypeId} {a b m : Array Value} {c0 c1 c2 c3 c4 c5 : Value} (hp : p = w.heap.size + 1 + 1 + 1) (hb : But p ((((w.alloc (.cells a s)).alloc (.cells b t)).alloc (.cells #[c0, c1, c2, c3, c4, c5] u)).alloc (.cells m r)) w1) :
    Box w1 (w.heap.size + 1 + 1) #[c0, c1, c2, c3, c4, c5] ∧ Below w.heap.size w w1 := by
  subst hp
  have C := (Box.new (w := (w.alloc (.cells a s)).alloc (.cells b t)) (t := u) (a0 := c0) (a1 := c1) (a2 := c2) (a3 := c3) (a4 := c4) (a5 := c5)).over (o := .cells m r)
  have C' := C.but hb (by simp)
  refine ⟨by simpa using C', (((((Below.refl w.heap.size w).alloc (Nat.le_refl _) _).alloc (by simp) _).alloc (by simp; omega) _).alloc (by simp; omega) _).trans (hb.below (by omega) (by simp; omega))⟩

set_option maxHeartbeats 2000000 in
theorem equal_any (T U : Tree) (w : World) (v u : Array Value) (hM : Mem w.heap.size w T v) (hM' : Mem w.heap.size w U u) :
    Calls Tryz.prog 38 #[.agg v, .agg u] w fun e w' => e = .returned (told (eqT T U)) ∧ Below w.heap.size w w' := by
  have C := hide (fun wx (hx : Below w.heap.size w wx) p (hp : w.heap.size ≤ p) (hS : St wx p 0) => eq_all T U w.heap.size wx v u p 0 1 (Mem.below hx hM) (Mem.below hx hM') hp hS (by omega) (by omega) (by omega))
  unfold eqT
  cases T with
  | mk k y c x t ks =>
  cases U with
  | mk k' y' c' x' t' ks' =>
  rw [Mem] at hM hM'
  obtain ⟨_, _, a, cap, rfl, _⟩ := hM
  obtain ⟨_, _, a', cap', rfl, _⟩ := hM'
  generalize eqF (.mk k y c x t ks) (.mk k' y' c' x' t' ks') 0 1 = E at *
  go_enter Tryz.func38, Tryz.ntmps38
  go_wp2_with fail
  have ba : ∀ o1 o2 o3 o4 : Obj, Below w.heap.size w ((((w.alloc o1).alloc o2).alloc o3).alloc o4) := fun o1 o2 o3 o4 => (((((Below.refl w.heap.size w).alloc (Nat.le_refl _) o1).alloc (by simp) o2).alloc (by simp; omega) o3).alloc (by simp; omega) o4)
  refine (unhide C _ (ba _ _ _ _) (w.heap.size + 1 + 1 + 1) (by omega) ⟨by simp [go_sem], by simp [go_sem], by simp⟩).mono ?_
  rintro e w9 ⟨rfl, _, hb⟩
  obtain ⟨R, hw⟩ := box4b rfl hb
  clear hb C ba
  obtain ⟨a0, a1, a2, a3, a4, a5⟩ := R.tell
  obtain ⟨f0, f1, f2, f3, f4, f5⟩ := R.thaw
  have lb := R.low
  go_wp2
  exact bodyPost_ret (v := told E.1) (by simp [results, Tryz.results38, go_sem, a0, a1, a2, a3, a4, a5]) rfl ⟨rfl, below_put6 hw (by omega)⟩
end Go.Proofs.YtcidbhegnnedoaaGreatDoor
