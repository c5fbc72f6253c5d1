/- Walks: the document's Less of any two values. -/
import Derived.Test.YtbdgngfpofohpaaDoorG26
import Derived.Test.YtbdgngfpofohpaaDoorG19
import Derived.Test.YtbdgngfpofohpaaDoorG20
import Derived.Test.YtbdgngfpofohpaaDoorG25
import Derived.Test.YtbdgngfpofohpaaDoorG24
import Derived.Test.YtbdgngfpofohpaaDoorG03
import Derived.Test.YtbdgngfpofohpaaDoorG05
import Derived.Test.YtbdgngfpofohpaaDoorG28
namespace Go.Proofs.YtbdgngfpofohpaaDoor
open Go.RowKit

set_option maxHeartbeats 4000000 in
theorem dless_any (A B : Tree) (v u : Array Value) (b b' : Nat) (w : World) (hM : Mem b w A v) (hM' : Mem b' w B u) (hA : (wrongF A 0 1).1 = 0) (hB : (wrongF B 0 1).1 = 0) :
    Calls Tryd.prog 18 #[.agg v, .agg u] w fun e w' => e = .returned (.int .i64 ((lessH A B : Nat) : Int)) ∧ Below w.heap.size w w' := by
  obtain ⟨k, y, c, x, t, ks⟩ := A
  obtain ⟨k', y', c', x', t', ks'⟩ := B
  rw [Mem] at hM hM'
  obtain ⟨_, _, a, cap, rfl, _⟩ := hM
  obtain ⟨_, _, a', cap', rfl, _⟩ := hM'
  rw [lessH]
  have NB := hide (((Below.refl w.heap.size w).alloc (Nat.le_refl _) (.cells #[.int .i64 k, .bool y, .int .i64 c, .int .i64 x, .string t, .slice a ks.length cap] 26)).alloc (by simp) (.cells #[.int .i64 k', .bool y', .int .i64 c', .int .i64 x', .string t', .slice a' ks'.length cap'] 26))
  by_cases h3 : k = k' ∧ k = 3
  · rw [if_pos h3]
    obtain ⟨rfl, rfl⟩ := h3
    rw [wf_num (by omega)] at hA hB
    simp only at hA hB
    obtain ⟨a1, a2, a3, a4, _⟩ := Dm.wrong_ok hA
    obtain ⟨b1, b2, b3, b4, _⟩ := Dm.wrong_ok hB
    have CM := hide (fun wx => rcmpd_ok c x c' x' wx hA hB a1 a2 a3 a4 b1 b2 b3 b4)
    rw [cmp_same a3 b3] at CM
    clear hA hB a1 a2 a3 a4 b1 b2 b3 b4
    generalize Dm.sgn (Dm.V c x - Dm.V c' x') = g at *
    by_cases hg : g < 0
    · rw [if_pos hg]
      go_enter Tryd.func18, Tryd.ntmps18
      go_wp2_with fail
      refine (unhide CM _).mono ?_
      rintro e w2 ⟨rfl, hb⟩
      have HB := hide (below_via (unhide NB) hb)
      clear hb
      go_wp2
      go_ret
      exact ⟨rfl, unhide HB⟩
    · rw [if_neg hg]
      go_enter Tryd.func18, Tryd.ntmps18
      go_wp2_with fail
      refine (unhide CM _).mono ?_
      rintro e w2 ⟨rfl, hb⟩
      have HB := hide (below_via (unhide NB) hb)
      clear hb
      go_wp2
      go_ret
      exact ⟨rfl, unhide HB⟩
  · rw [if_neg h3]
    clear hA hB
    by_cases h4 : k = k' ∧ k = 4
    · rw [if_pos h4]
      obtain ⟨rfl, rfl⟩ := h4
      clear h3
      by_cases hg : Op.bytesLess t.toList t'.toList = true
      · rw [if_pos hg]
        go_enter Tryd.func18, Tryd.ntmps18
        go_wp2
        go_ret
        exact ⟨rfl, unhide NB⟩
      · rw [if_neg hg]
        have hg' : Op.bytesLess t.toList t'.toList = false := by simpa using hg
        clear hg
        go_enter Tryd.func18, Tryd.ntmps18
        go_wp2
        go_ret
        exact ⟨rfl, unhide NB⟩
    · rw [if_neg h4]
      by_cases e : k = k'
      · subst e
        have n3 : ¬ k = 3 := fun q => h3 ⟨rfl, q⟩
        have n4 : ¬ k = 4 := fun q => h4 ⟨rfl, q⟩
        have n3' : (k != 3) = true := by simp [n3]
        have n4' : (k != 4) = true := by simp [n4]
        clear h3 h4
        go_enter Tryd.func18, Tryd.ntmps18
        go_wp2
        go_ret
        exact ⟨rfl, unhide NB⟩
      · have e' : (k != k') = true := by simp [e]
        clear h3 h4
        go_enter Tryd.func18, Tryd.ntmps18
        go_wp2
        go_ret
        exact ⟨rfl, unhide NB⟩
end Go.Proofs.YtbdgngfpofohpaaDoor

/- Walks: the document's Less of any two values, wrong ones too; the lesser of two. -/
namespace Go.Proofs.YtbdgngfpofohpaaDoor
open Go.RowKit

/-- what the document's Less tells of any two values -/
def lessD : Tree → Tree → Nat
  | .mk k y c x t ks, .mk k' y' c' x' t' ks' => if k = 3 ∧ k' = 3 ∧ ¬ Dm.wrong2 c x c' x' = 0 then 1 else lessH (.mk k y c x t ks) (.mk k' y' c' x' t' ks')
theorem lessD_le (A B : Tree) : lessD A B ≤ 2 := by
  obtain ⟨k, y, c, x, t, ks⟩ := A
  obtain ⟨k', y', c', x', t', ks'⟩ := B
  rw [lessD]
  split
  · omega
  · exact lessH_le _ _
theorem lessD_is {A B : Tree} (hA : (wrongF A 0 1).1 = 0) (hB : (wrongF B 0 1).1 = 0) : lessD A B = lessH A B := by
  obtain ⟨k, y, c, x, t, ks⟩ := A
  obtain ⟨k', y', c', x', t', ks'⟩ := B
  rw [lessD, if_neg]
  rintro ⟨rfl, rfl, h⟩
  rw [wf_num (by omega)] at hA hB
  rw [Dm.wrong2_ok hA] at h
  exact h hB

set_option maxHeartbeats 4000000 in
theorem dless_tot (A B : Tree) (v u : Array Value) (b b' : Nat) (w : World) (hM : Mem b w A v) (hM' : Mem b' w B u) :
    Calls Tryd.prog 18 #[.agg v, .agg u] w fun e w' => e = .returned (.int .i64 ((lessD A B : Nat) : Int)) ∧ Below w.heap.size w w' := by
  obtain ⟨k, y, c, x, t, ks⟩ := A
  obtain ⟨k', y', c', x', t', ks'⟩ := B
  rw [Mem] at hM hM'
  obtain ⟨_, _, a, cap, rfl, _⟩ := hM
  obtain ⟨_, _, a', cap', rfl, _⟩ := hM'
  have NB := hide (bv (vbelow_new w (.cells #[.int .i64 k, .bool y, .int .i64 c, .int .i64 x, .string t, .slice a ks.length cap] 26)) (vbelow_new _ (.cells #[.int .i64 k', .bool y', .int .i64 c', .int .i64 x', .string t', .slice a' ks'.length cap'] 26)))
  by_cases hw : k = 3 ∧ k' = 3 ∧ ¬ Dm.wrong2 c x c' x' = 0
  · have e : lessD (.mk k y c x t ks) (.mk k' y' c' x' t' ks') = 1 := by rw [lessD, if_pos hw]
    rw [e]
    obtain ⟨rfl, rfl, hne⟩ := hw
    have hne' : (Dm.wrong2 c x c' x' != 0) = true := by simp [hne]
    have CM := hide (fun wx => rcmpd_no c x c' x' wx hne')
    clear e hne
    generalize Dm.wrong2 c x c' x' = W at *
    go_enter Tryd.func18, Tryd.ntmps18
    go_wp2_with fail
    refine (unhide CM _).mono ?_
    rintro e w2 ⟨rfl, hb⟩
    have HB := hide (bv (unhide NB) hb)
    clear hb
    go_wp2
    go_ret
    exact ⟨rfl, unhide HB⟩
  have e : lessD (.mk k y c x t ks) (.mk k' y' c' x' t' ks') = lessH (.mk k y c x t ks) (.mk k' y' c' x' t' ks') := by rw [lessD, if_neg hw]
  rw [e, lessH]
  clear e
  by_cases h3 : k = k' ∧ k = 3
  · rw [if_pos h3]
    obtain ⟨rfl, rfl⟩ := h3
    have h2 : Dm.wrong2 c x c' x' = 0 := by
      by_cases q : Dm.wrong2 c x c' x' = 0
      · exact q
      · exact absurd ⟨rfl, rfl, q⟩ hw
    have hA : Dm.wrongN c x = 0 := by
      unfold Dm.wrong2 at h2
      split at h2
      · assumption
      · exact h2
    have hB : Dm.wrongN c' x' = 0 := by
      rw [Dm.wrong2_ok hA] at h2
      exact h2
    obtain ⟨a1, a2, a3, a4, _⟩ := Dm.wrong_ok hA
    obtain ⟨b1, b2, b3, b4, _⟩ := Dm.wrong_ok hB
    have CM := hide (fun wx => rcmpd_ok c x c' x' wx hA hB a1 a2 a3 a4 b1 b2 b3 b4)
    rw [cmp_same a3 b3] at CM
    clear hA hB a1 a2 a3 a4 b1 b2 b3 b4 hw h2
    generalize Dm.sgn (Dm.V c x - Dm.V c' x') = g at *
    by_cases hg : g < 0
    · rw [if_pos hg]
      go_enter Tryd.func18, Tryd.ntmps18
      go_wp2_with fail
      refine (unhide CM _).mono ?_
      rintro e w2 ⟨rfl, hb⟩
      have HB := hide (bv (unhide NB) hb)
      clear hb
      go_wp2
      go_ret
      exact ⟨rfl, unhide HB⟩
    · rw [if_neg hg]
      go_enter Tryd.func18, Tryd.ntmps18
      go_wp2_with fail
      refine (unhide CM _).mono ?_
      rintro e w2 ⟨rfl, hb⟩
      have HB := hide (bv (unhide NB) hb)
      clear hb
      go_wp2
      go_ret
      exact ⟨rfl, unhide HB⟩
  · rw [if_neg h3]
    clear hw
    by_cases h4 : k = k' ∧ k = 4
    · rw [if_pos h4]
      obtain ⟨rfl, rfl⟩ := h4
      clear h3
      by_cases hg : Op.bytesLess t.toList t'.toList = true
      · rw [if_pos hg]
        go_enter Tryd.func18, Tryd.ntmps18
        go_wp2
        go_ret
        exact ⟨rfl, unhide NB⟩
      · rw [if_neg hg]
        have hg' : Op.bytesLess t.toList t'.toList = false := by simpa using hg
        clear hg
        go_enter Tryd.func18, Tryd.ntmps18
        go_wp2
        go_ret
        exact ⟨rfl, unhide NB⟩
    · rw [if_neg h4]
      by_cases e : k = k'
      · subst e
        have n3 : ¬ k = 3 := fun q => h3 ⟨rfl, q⟩
        have n4 : ¬ k = 4 := fun q => h4 ⟨rfl, q⟩
        have n3' : (k != 3) = true := by simp [n3]
        have n4' : (k != 4) = true := by simp [n4]
        clear h3 h4
        go_enter Tryd.func18, Tryd.ntmps18
        go_wp2
        go_ret
        exact ⟨rfl, unhide NB⟩
      · have e' : (k != k') = true := by simp [e]
        clear h3 h4
        go_enter Tryd.func18, Tryd.ntmps18
        go_wp2
        go_ret
        exact ⟨rfl, unhide NB⟩

set_option maxHeartbeats 400000 in
theorem least_any (m n : Nat) (w : World) :
    Calls Tryd.prog 19 #[.int .i64 (m : Int), .int .i64 (n : Int)] w fun e w' => e = .returned (.int .i64 ((min m n : Nat) : Int)) ∧ w' = w := by
  by_cases h : (m : Int) < (n : Int)
  · have e : min m n = m := by omega
    rw [e]
    go_enter Tryd.func19, Tryd.ntmps19
    go_wp2
    go_ret
    exact ⟨rfl, rfl⟩
  · have e : min m n = n := by omega
    rw [e]
    go_enter Tryd.func19, Tryd.ntmps19
    go_wp2
    go_ret
    exact ⟨rfl, rfl⟩
end Go.Proofs.YtbdgngfpofohpaaDoor

/- Walks: the document's Equal of two values that are not both lists. -/
namespace Go.Proofs.YtbdgngfpofohpaaDoor
open Go.RowKit

theorem ep_nil {k k' : Int} {y y' : Bool} {c x c' x' : Int} {t t' : ByteArray} {ks ks' : List Tree} (h : k = 1 ∨ k' = 1) : eqP (.mk k y c x t ks) (.mk k' y' c' x' t' ks') = if k = k' then 2 else 0 := by rw [eqP, if_pos h]
theorem ep_kind {k k' : Int} {y y' : Bool} {c x c' x' : Int} {t t' : ByteArray} {ks ks' : List Tree} (h : ¬ (k = 1 ∨ k' = 1)) (e : ¬ k = k') : eqP (.mk k y c x t ks) (.mk k' y' c' x' t' ks') = 1 := by rw [eqP, if_neg h, if_neg e]
theorem ep_bool {y y' : Bool} {c x c' x' : Int} {t t' : ByteArray} {ks ks' : List Tree} : eqP (.mk 2 y c x t ks) (.mk 2 y' c' x' t' ks') = if y = y' then 2 else 0 := by rw [eqP, if_neg (by omega), if_pos rfl, if_pos rfl]
theorem ep_num {y y' : Bool} {c x c' x' : Int} {t t' : ByteArray} {ks ks' : List Tree} : eqP (.mk 3 y c x t ks) (.mk 3 y' c' x' t' ks') = if c = c' ∧ x = x' then 2 else 0 := by rw [eqP, if_neg (by omega), if_pos rfl, if_neg (by omega), if_pos rfl]
theorem ep_text {y y' : Bool} {c x c' x' : Int} {t t' : ByteArray} {ks ks' : List Tree} : eqP (.mk 4 y c x t ks) (.mk 4 y' c' x' t' ks') = if t.toList = t'.toList then 2 else 0 := by rw [eqP, if_neg (by omega), if_pos rfl, if_neg (by omega), if_neg (by omega), if_pos rfl]
theorem ep_list {y y' : Bool} {c x c' x' : Int} {t t' : ByteArray} {ks ks' : List Tree} : eqP (.mk 5 y c x t ks) (.mk 5 y' c' x' t' ks') = if ks.length = ks'.length then eqPL ks ks' 2 else 0 := by rw [eqP, if_neg (by omega), if_pos rfl, if_neg (by omega), if_neg (by omega), if_neg (by omega), if_pos rfl]
theorem ep_else {k : Int} {y y' : Bool} {c x c' x' : Int} {t t' : ByteArray} {ks ks' : List Tree} (h1 : ¬ k = 1) (h2 : ¬ k = 2) (h3 : ¬ k = 3) (h4 : ¬ k = 4) (h5 : ¬ k = 5) : eqP (.mk k y c x t ks) (.mk k y' c' x' t' ks') = 0 := by
  rw [eqP, if_neg (by omega), if_pos rfl, if_neg h2, if_neg h3, if_neg h4, if_neg h5]

set_option maxHeartbeats 4000000 in
theorem dequal_plain (k : Int) (y : Bool) (c x : Int) (t : ByteArray) (k' : Int) (y' : Bool) (c' x' : Int) (t' : ByteArray) (ks ks' : List Tree) (a a' : Option Addr) (cap cap' : Nat) (w : World) (h5 : ¬ k = 5 ∨ ¬ k' = 5) :
    Calls Tryd.prog 20 #[.agg #[.int .i64 k, .bool y, .int .i64 c, .int .i64 x, .string t, .slice a ks.length cap], .agg #[.int .i64 k', .bool y', .int .i64 c', .int .i64 x', .string t', .slice a' ks'.length cap']] w fun e w' => e = .returned (.int .i64 ((eqP (.mk k y c x t ks) (.mk k' y' c' x' t' ks') : Nat) : Int)) ∧ Below w.heap.size w w' := by
  have n5 : ¬ (k = 5 ∧ k' = 5) := by omega
  clear h5
  by_cases k1 : k = 1 ∨ k' = 1
  · rw [ep_nil k1]
    clear n5
    by_cases e : k = k'
    · subst e
      obtain rfl : k = 1 := by omega
      rw [if_pos rfl]
      clear k1
      go_enter Tryd.func20, Tryd.ntmps20
      go_wp2
      go_ret
      exact ⟨rfl, ((Below.refl _ _).alloc (Nat.le_refl _) _).alloc (by simp) _⟩
    · rw [if_neg e]
      have e' : (k == k') = false := by simp [e]
      by_cases k11 : k = 1
      · subst k11
        clear k1
        go_enter Tryd.func20, Tryd.ntmps20
        go_wp2
        go_ret
        exact ⟨rfl, ((Below.refl _ _).alloc (Nat.le_refl _) _).alloc (by simp) _⟩
      · obtain rfl : k' = 1 := by omega
        clear k1
        go_enter Tryd.func20, Tryd.ntmps20
        go_wp2
        go_ret
        exact ⟨rfl, ((Below.refl _ _).alloc (Nat.le_refl _) _).alloc (by simp) _⟩
  · have m1 : ¬ k = 1 := by omega
    have m2 : ¬ k' = 1 := by omega
    by_cases e : k = k'
    · subst e
      have m5 : ¬ k = 5 := by omega
      clear n5 k1 m2
      by_cases k2 : k = 2
      · subst k2
        rw [ep_bool]
        by_cases ey : y = y'
        · subst ey
          rw [if_pos rfl]
          go_enter Tryd.func20, Tryd.ntmps20
          go_wp2
          go_ret
          exact ⟨rfl, ((Below.refl _ _).alloc (Nat.le_refl _) _).alloc (by simp) _⟩
        · rw [if_neg ey]
          have ey' : (y == y') = false := by simp [ey]
          go_enter Tryd.func20, Tryd.ntmps20
          go_wp2
          go_ret
          exact ⟨rfl, ((Below.refl _ _).alloc (Nat.le_refl _) _).alloc (by simp) _⟩
      by_cases k3 : k = 3
      · subst k3
        rw [ep_num]
        by_cases ec : c = c'
        · subst ec
          by_cases ex : x = x'
          · subst ex
            rw [if_pos ⟨rfl, rfl⟩]
            go_enter Tryd.func20, Tryd.ntmps20
            go_wp2
            go_ret
            exact ⟨rfl, ((Below.refl _ _).alloc (Nat.le_refl _) _).alloc (by simp) _⟩
          · rw [if_neg (fun q => ex q.2)]
            go_enter Tryd.func20, Tryd.ntmps20
            go_wp2
            go_ret
            exact ⟨rfl, ((Below.refl _ _).alloc (Nat.le_refl _) _).alloc (by simp) _⟩
        · rw [if_neg (fun q => ec q.1)]
          go_enter Tryd.func20, Tryd.ntmps20
          go_wp2
          go_ret
          exact ⟨rfl, ((Below.refl _ _).alloc (Nat.le_refl _) _).alloc (by simp) _⟩
      by_cases k4 : k = 4
      · subst k4
        rw [ep_text]
        by_cases et : t.toList = t'.toList
        · rw [if_pos et]
          have et' : (t.toList == t'.toList) = true := by simp [et]
          go_enter Tryd.func20, Tryd.ntmps20
          go_wp2
          go_ret
          exact ⟨rfl, ((Below.refl _ _).alloc (Nat.le_refl _) _).alloc (by simp) _⟩
        · rw [if_neg et]
          have et' : (t.toList == t'.toList) = false := by simp [et]
          go_enter Tryd.func20, Tryd.ntmps20
          go_wp2
          go_ret
          exact ⟨rfl, ((Below.refl _ _).alloc (Nat.le_refl _) _).alloc (by simp) _⟩
      rw [ep_else m1 k2 k3 k4 m5]
      go_enter Tryd.func20, Tryd.ntmps20
      go_wp2
      go_ret
      exact ⟨rfl, ((Below.refl _ _).alloc (Nat.le_refl _) _).alloc (by simp) _⟩
    · rw [ep_kind k1 e]
      have e' : (k != k') = true := by simp [e]
      have m1' : (k == 1) = false := by simp [m1]
      have m2' : (k' == 1) = false := by simp [m2]
      clear n5 k1
      go_enter Tryd.func20, Tryd.ntmps20
      go_wp2
      go_ret
      exact ⟨rfl, ((Below.refl _ _).alloc (Nat.le_refl _) _).alloc (by simp) _⟩
end Go.Proofs.YtbdgngfpofohpaaDoor

/- Walks: the document's Equal of any two values. -/
namespace Go.Proofs.YtbdgngfpofohpaaDoor
open Go.RowKit

theorem callDEq (zs : Array Value) (w : World) : Sem.run Tryd.prog (callFunc 20 zs) w = .ok (.enter 20 zs) w := by simp [go_sem]
theorem eqPL_nil (vs : List Tree) (a : Nat) : eqPL [] vs a = a := by rw [eqPL]
theorem eqPL_cons (u v : Tree) (us vs : List Tree) (a : Nat) : eqPL (u :: us) (v :: vs) a = eqPL us vs (min a (eqP u v)) := by rw [eqPL]

/-- what Equal tells of a tree and another one -/
def DEqC (A : Tree) : Prop := ∀ (B : Tree) (w : World) (v u : Array Value), Mem w.heap.size w A v → Mem w.heap.size w B u →
  Calls Tryd.prog 20 #[.agg v, .agg u] w fun e w' => e = .returned (.int .i64 ((eqP A B : Nat) : Int)) ∧ Below w.heap.size w w'

set_option maxHeartbeats 2000000 in
theorem dequal_len (y : Bool) (c x : Int) (t : ByteArray) (y' : Bool) (c' x' : Int) (t' : ByteArray) (ks ks' : List Tree) (a a' : Option Addr) (cap cap' : Nat) (w : World) (hne : ¬ ks.length = ks'.length) :
    Calls Tryd.prog 20 #[.agg #[.int .i64 5, .bool y, .int .i64 c, .int .i64 x, .string t, .slice a ks.length cap], .agg #[.int .i64 5, .bool y', .int .i64 c', .int .i64 x', .string t', .slice a' ks'.length cap']] w fun e w' => e = .returned (.int .i64 ((eqP (.mk 5 y c x t ks) (.mk 5 y' c' x' t' ks') : Nat) : Int)) ∧ Below w.heap.size w w' := by
  rw [ep_list, if_neg hne]
  have hn : ((ks.length : Int) != (ks'.length : Int)) = true := by rw [bne_iff_ne]; omega
  clear hne
  go_enter Tryd.func20, Tryd.ntmps20
  go_wp2
  go_ret
  exact ⟨rfl, ((Below.refl _ _).alloc (Nat.le_refl _) _).alloc (by simp) _⟩

set_option maxHeartbeats 2000000 in
theorem dequal_nil (y : Bool) (c x : Int) (t : ByteArray) (y' : Bool) (c' x' : Int) (t' : ByteArray) (a a' : Option Addr) (cap cap' : Nat) (w : World) :
    Calls Tryd.prog 20 #[.agg #[.int .i64 5, .bool y, .int .i64 c, .int .i64 x, .string t, .slice a 0 cap], .agg #[.int .i64 5, .bool y', .int .i64 c', .int .i64 x', .string t', .slice a' 0 cap']] w fun e w' => e = .returned (.int .i64 2) ∧ Below w.heap.size w w' := by
  have BB := hide (((Below.refl w.heap.size w).alloc (Nat.le_refl _) (.cells #[.int .i64 5, .bool y, .int .i64 c, .int .i64 x, .string t, .slice a 0 cap] 26)).alloc (by simp) (.cells #[.int .i64 5, .bool y', .int .i64 c', .int .i64 x', .string t', .slice a' 0 cap'] 26))
  go_enter Tryd.func20, Tryd.ntmps20
  go_wp2
  go_loopw [6, 62] (fun l i wr => l = .int .i64 2 ∧ i = .int .i64 0 ∧ Hid (Below w.heap.size w wr)) (fun _ _ _ => 0)
  case atStart => exact ⟨rfl, rfl, BB⟩
  case round =>
    obtain ⟨rfl, rfl, HB⟩ := hrel
    go_wp2
    go_ret
    exact ⟨rfl, unhide HB⟩

set_option maxRecDepth 100000 in
set_option maxHeartbeats 8000000 in
theorem dequal_lists (y : Bool) (c x : Int) (t : ByteArray) (y' : Bool) (c' x' : Int) (t' : ByteArray) (ks ks' : List Tree) (IH : ∀ u ∈ ks, DEqC u) (b off b' off' cap cap' : Nat) (w : World) (hl : ks.length = ks'.length) (hmax : ks.length ≤ 9223372036854775807)
    (hb1 : b < w.heap.size) (hb2 : b' < w.heap.size) (hm : MemL w.heap.size w ks b off) (hm' : MemL w.heap.size w ks' b' off') :
    Calls Tryd.prog 20 #[.agg #[.int .i64 5, .bool y, .int .i64 c, .int .i64 x, .string t, .slice (some ⟨b, off, none⟩) ks.length cap], .agg #[.int .i64 5, .bool y', .int .i64 c', .int .i64 x', .string t', .slice (some ⟨b', off', none⟩) ks.length cap']] w fun e w' => e = .returned (.int .i64 ((eqPL ks ks' 2 : Nat) : Int)) ∧ Below w.heap.size w w' := by
  have W0 := hide (((Below.refl w.heap.size w).alloc (Nat.le_refl _) (.cells #[.int .i64 5, .bool y, .int .i64 c, .int .i64 x, .string t, .slice (some ⟨b, off, none⟩) ks.length cap] 26)).alloc (by simp) (.cells #[.int .i64 5, .bool y', .int .i64 c', .int .i64 x', .string t', .slice (some ⟨b', off', none⟩) ks.length cap'] 26))
  have X0 : Hid (Box ((w.alloc (.cells #[.int .i64 5, .bool y, .int .i64 c, .int .i64 x, .string t, .slice (some ⟨b, off, none⟩) ks.length cap] 26)).alloc (.cells #[.int .i64 5, .bool y', .int .i64 c', .int .i64 x', .string t', .slice (some ⟨b', off', none⟩) ks.length cap'] 26)) w.heap.size #[.int .i64 5, .bool y, .int .i64 c, .int .i64 x, .string t, .slice (some ⟨b, off, none⟩) ks.length cap]) := hide Box.new.over
  have Y0 : Hid (Box ((w.alloc (.cells #[.int .i64 5, .bool y, .int .i64 c, .int .i64 x, .string t, .slice (some ⟨b, off, none⟩) ks.length cap] 26)).alloc (.cells #[.int .i64 5, .bool y', .int .i64 c', .int .i64 x', .string t', .slice (some ⟨b', off', none⟩) ks.length cap'] 26)) (w.heap.size + 1) #[.int .i64 5, .bool y', .int .i64 c', .int .i64 x', .string t', .slice (some ⟨b', off', none⟩) ks.length cap']) := hide (by
    have := Box.new (w := w.alloc (.cells #[.int .i64 5, .bool y, .int .i64 c, .int .i64 x, .string t, .slice (some ⟨b, off, none⟩) ks.length cap] 26)) (t := 26) (a0 := .int .i64 5) (a1 := .bool y') (a2 := .int .i64 c') (a3 := .int .i64 x') (a4 := .string t') (a5 := .slice (some ⟨b', off', none⟩) ks.length cap')
    simpa using this)
  obtain ⟨w0, hw0⟩ : ∃ w0, (w.alloc (.cells #[.int .i64 5, .bool y, .int .i64 c, .int .i64 x, .string t, .slice (some ⟨b, off, none⟩) ks.length cap] 26)).alloc (.cells #[.int .i64 5, .bool y', .int .i64 c', .int .i64 x', .string t', .slice (some ⟨b', off', none⟩) ks.length cap'] 26) = w0 := ⟨_, rfl⟩
  rw [hw0] at W0 X0 Y0
  have HL := hide hl
  have IH' := hide IH
  have M1 := hide hm
  have M2 := hide hm'
  clear hl IH hm hm'
  obtain ⟨xa0, xa1, xa2, xa3, xa4, xa5⟩ := (unhide X0).tell
  obtain ⟨xb0, xb1, xb2, xb3, xb4, xb5⟩ := (unhide Y0).tell
  go_enter Tryd.func20, Tryd.ntmps20
  go_wp2
  clear hw0 xa0 xa1 xa2 xa3 xa4 xa5 xb0 xb1 xb2 xb3 xb4 xb5
  go_loopw [6, 62] (fun l i wr => ∃ m n : Nat, m ≤ ks.length ∧ n ≤ 2 ∧ l = .int .i64 (n : Int) ∧ i = .int .i64 (m : Int) ∧ Hid (eqPL ks ks' 2 = eqPL (ks.drop m) (ks'.drop m) n) ∧ Hid (Below w0.heap.size w0 wr)) (fun _ i _ => ks.length - (intOf i).toNat)
  case atStart => exact ⟨0, 2, Nat.zero_le _, Nat.le_refl _, rfl, rfl, hide rfl, hide (Below.refl _ _)⟩
  case round =>
    obtain ⟨m, least, hml, hn2, rfl, rfl, H, HB⟩ := hrel
    by_cases hlt2 : m < ks.length
    · have hi1 : (m : Int) < (ks.length : Int) := by omega
      obtain ⟨u, hu⟩ : ∃ u, ks[m]? = some u := ⟨_, List.getElem?_eq_getElem hlt2⟩
      obtain ⟨u', hu'⟩ : ∃ u, ks'[m]? = some u := ⟨_, List.getElem?_eq_getElem (by have := unhide HL; omega)⟩
      have HU := hide (unhide IH' u (List.mem_of_getElem? hu))
      have HW := hide (below_via (unhide W0) (unhide HB))
      obtain ⟨cs, h6, hmu⟩ := MemL.at (MemL.below (unhide HW) hb1 (unhide M1)) m u hu
      obtain ⟨cs', h6', hmu'⟩ := MemL.at (MemL.below (unhide HW) hb2 (unhide M2)) m u' hu'
      have HM := hide (Mem.mono (unhide HW).size hmu)
      have HM' := hide (Mem.mono (unhide HW).size hmu')
      rw [drop_at hlt2 hu, drop_at (by have := unhide HL; omega) hu', eqPL_cons] at H
      cases u with
      | mk k1 y1 c1 x1 t1 kk1 =>
      cases u' with
      | mk k2 y2 c2 x2 t2 kk2 =>
        rw [Mem] at hmu hmu'
        obtain ⟨_, _, a1, cap1, rfl, _⟩ := hmu
        obtain ⟨_, _, a2, cap2, rfl, _⟩ := hmu'
        obtain ⟨u0, u1, u2, u3, u4, u5, hu6, p0, p1, p2, p3, p4, p5⟩ := h6
        simp only [Array.mk.injEq, List.cons.injEq, and_true] at hu6
        obtain ⟨rfl, rfl, rfl, rfl, rfl, rfl⟩ := hu6
        obtain ⟨u0, u1, u2, u3, u4, u5, hu6, q0, q1, q2, q3, q4, q5⟩ := h6'
        simp only [Array.mk.injEq, List.cons.injEq, and_true] at hu6
        obtain ⟨rfl, rfl, rfl, rfl, rfl, rfl⟩ := hu6
        have hle := eqP_le (.mk k1 y1 c1 x1 t1 kk1) (.mk k2 y2 c2 x2 t2 kk2)
        have C : Hid (∀ wx, Below wr.heap.size wr wx → Calls Tryd.prog 20 #[.agg #[.int .i64 k1, .bool y1, .int .i64 c1, .int .i64 x1, .string t1, .slice a1 kk1.length cap1], .agg #[.int .i64 k2, .bool y2, .int .i64 c2, .int .i64 x2, .string t2, .slice a2 kk2.length cap2]] wx fun e w' => ∃ v, e = .returned v ∧ v = .int .i64 ((eqP (.mk k1 y1 c1 x1 t1 kk1) (.mk k2 y2 c2 x2 t2 kk2) : Nat) : Int) ∧ Below wx.heap.size wx w') := hide (fun wx hx =>
          (unhide HU (.mk k2 y2 c2 x2 t2 kk2) wx _ _ (Mem.mono hx.size (Mem.below hx (unhide HM))) (Mem.mono hx.size (Mem.below hx (unhide HM')))).mono (fun e w' q => ⟨_, q.1, rfl, q.2⟩))
        generalize eqP (.mk k1 y1 c1 x1 t1 kk1) (.mk k2 y2 c2 x2 t2 kk2) = n at *
        have XB := (unhide X0).keep (unhide HB) (unhide X0).low
        have YB := (unhide Y0).keep (unhide HB) (unhide Y0).low
        have lv := XB.low
        have lz := YB.low
        have v5 := XB.tell.2.2.2.2.2
        have z5 := YB.tell.2.2.2.2.2
        have lb1 : b < wr.heap.size := Nat.lt_of_lt_of_le hb1 (unhide HW).size
        have lb2 : b' < wr.heap.size := Nat.lt_of_lt_of_le hb2 (unhide HW).size
        clear hu hu' HU HM HM' XB YB
        go_upto_region 22 with fail
        refine frame_name ?_
        intro f0 hf0
        have s2 : G f0 2 = .pointer (some ⟨w.heap.size, 0, none⟩) := by rw [hf0]; rfl
        have s3 : G f0 3 = .pointer (some ⟨w.heap.size + 1, 0, none⟩) := by rw [hf0]; rfl
        have s7 : G f0 7 = .int .i64 (m : Int) := by rw [hf0]; rfl
        have hsz : f0.tmps.size = 83 := by rw [hf0]; rfl
        have hdf : f0.defers = [] := by rw [hf0]
        refine region_any (I := RL wr f0 83 [65, 66, 67, 68, 69, 70, 71, 72, 73, 74, 75, 8] [.lit (.pointer (some ⟨w.heap.size, 5, none⟩)), .lit (.slice (some ⟨b, off, none⟩) ks.length cap), .lit (.int .i64 (m : Int)), .lit (.pointer (some ⟨b, off + m * 6, none⟩)), .lit (.agg #[.int .i64 k1, .bool y1, .int .i64 c1, .int .i64 x1, .string t1, .slice a1 kk1.length cap1]), .lit (.pointer (some ⟨w.heap.size + 1, 5, none⟩)), .lit (.slice (some ⟨b', off', none⟩) ks.length cap'), .lit (.int .i64 (m : Int)), .lit (.pointer (some ⟨b', off' + m * 6, none⟩)), .lit (.agg #[.int .i64 k2, .bool y2, .int .i64 c2, .int .i64 x2, .string t2, .slice a2 kk2.length cap2]), .lit (.int .i64 (n : Int)), .lit (.int .i64 (n : Int))]) (by kernel_rfl) ?wait ?step ?done ?start
        case wait => exact ⟨by simp, by simp, by simp, by simp, by simp, by simp, by simp, by simp, by simp, by simp, by simp, by simp, trivial⟩
        case start => exact RI.start hsz hdf ((Below.refl _ _).drew)
        case step =>
          refine ⟨?_, ?_, ?_, ?_, ?_, ?_, ?_, ?_, ?_, ?_, ?_, ?_, trivial⟩
          · rintro L fa wx h hcl hL hw2
            exact rl_val h (by decide) rfl rfl rfl (by decide) rfl (run_fldL (eval_G ((h.keep (s := 2) (by decide)).trans s2))) rfl
          · rintro L fa wx h hcl hL hw2
            exact rl_val h (by decide) rfl rfl rfl (by decide) rfl (run_ldL (eval_G (show G fa 65 = (.pointer (some ⟨w.heap.size, 5, none⟩)) from (h.got 0 65 (hw2 ⟨0, .data⟩ (by simp) rfl) rfl))) ((h.old.cell (p := ⟨w.heap.size, 5, none⟩) lv).trans v5)) rfl
          · rintro L fa wx h hcl hL hw2
            exact rl_val h (by decide) rfl rfl rfl (by decide) rfl (run_mv (eval_G ((h.keep (s := 7) (by decide)).trans s7))) rfl
          · rintro L fa wx h hcl hL hw2
            exact rl_val h (by decide) rfl rfl rfl (by decide) rfl (run_ixV (eval_G (show G fa 66 = (.slice (some ⟨b, off, none⟩) ks.length cap) from (h.got 1 66 (hw2 ⟨1, .data⟩ (by simp) rfl) rfl))) (eval_G (show G fa 67 = (.int .i64 (m : Int)) from (h.got 2 67 (hw2 ⟨2, .data⟩ (by simp) rfl) rfl))) hlt2) rfl
          · rintro L fa wx h hcl hL hw2
            exact rl_val h (by decide) rfl rfl rfl (by decide) rfl (run_ld6 (eval_G (show G fa 68 = (.pointer (some ⟨b, off + m * 6, none⟩)) from (h.got 3 68 (hw2 ⟨3, .data⟩ (by simp) rfl) rfl))) ((h.old.cell (p := ⟨b, off + m * 6, none⟩) lb1).trans p0) ((h.old.cell (p := ⟨b, off + m * 6 + 1, none⟩) lb1).trans p1) ((h.old.cell (p := ⟨b, off + m * 6 + 2, none⟩) lb1).trans p2) ((h.old.cell (p := ⟨b, off + m * 6 + 3, none⟩) lb1).trans p3) ((h.old.cell (p := ⟨b, off + m * 6 + 4, none⟩) lb1).trans p4) ((h.old.cell (p := ⟨b, off + m * 6 + 5, none⟩) lb1).trans p5)) rfl
          · rintro L fa wx h hcl hL hw2
            exact rl_val h (by decide) rfl rfl rfl (by decide) rfl (run_fldL (eval_G ((h.keep (s := 3) (by decide)).trans s3))) rfl
          · rintro L fa wx h hcl hL hw2
            exact rl_val h (by decide) rfl rfl rfl (by decide) rfl (run_ldL (eval_G (show G fa 70 = (.pointer (some ⟨w.heap.size + 1, 5, none⟩)) from (h.got 5 70 (hw2 ⟨5, .data⟩ (by simp) rfl) rfl))) ((h.old.cell (p := ⟨w.heap.size + 1, 5, none⟩) lz).trans z5)) rfl
          · rintro L fa wx h hcl hL hw2
            exact rl_val h (by decide) rfl rfl rfl (by decide) rfl (run_mv (eval_G ((h.keep (s := 7) (by decide)).trans s7))) rfl
          · rintro L fa wx h hcl hL hw2
            exact rl_val h (by decide) rfl rfl rfl (by decide) rfl (run_ixV (eval_G (show G fa 71 = (.slice (some ⟨b', off', none⟩) ks.length cap') from (h.got 6 71 (hw2 ⟨6, .data⟩ (by simp) rfl) rfl))) (eval_G (show G fa 72 = (.int .i64 (m : Int)) from (h.got 7 72 (hw2 ⟨7, .data⟩ (by simp) rfl) rfl))) hlt2) rfl
          · rintro L fa wx h hcl hL hw2
            exact rl_val h (by decide) rfl rfl rfl (by decide) rfl (run_ld6 (eval_G (show G fa 73 = (.pointer (some ⟨b', off' + m * 6, none⟩)) from (h.got 8 73 (hw2 ⟨8, .data⟩ (by simp) rfl) rfl))) ((h.old.cell (p := ⟨b', off' + m * 6, none⟩) lb2).trans q0) ((h.old.cell (p := ⟨b', off' + m * 6 + 1, none⟩) lb2).trans q1) ((h.old.cell (p := ⟨b', off' + m * 6 + 2, none⟩) lb2).trans q2) ((h.old.cell (p := ⟨b', off' + m * 6 + 3, none⟩) lb2).trans q3) ((h.old.cell (p := ⟨b', off' + m * 6 + 4, none⟩) lb2).trans q4) ((h.old.cell (p := ⟨b', off' + m * 6 + 5, none⟩) lb2).trans q5)) rfl
          · rintro L fa wx h hcl hL hw2
            exact rl_call (R := fun v _ => v = .int .i64 (n : Int)) h (by decide) rfl rfl rfl (by decide) rfl (run_call2 (eval_G (show G fa 69 = (.agg #[.int .i64 k1, .bool y1, .int .i64 c1, .int .i64 x1, .string t1, .slice a1 kk1.length cap1]) from (h.got 4 69 (hw2 ⟨4, .data⟩ (by simp) rfl) rfl))) (eval_G (show G fa 74 = (.agg #[.int .i64 k2, .bool y2, .int .i64 c2, .int .i64 x2, .string t2, .slice a2 kk2.length cap2]) from (h.got 9 74 (hw2 ⟨9, .data⟩ (by simp) rfl) rfl))) callDEq) (unhide C _ h.old) (fun _ _ q => q)
          · rintro L fa wx h hcl hL hw2
            exact rl_val h (by decide) rfl rfl rfl (by decide) rfl (run_asg (eval_G (show G fa 75 = (.int .i64 (n : Int)) from (h.got 10 75 (hw2 ⟨10, .data⟩ (by simp) rfl) rfl)))) rfl
        case done =>
          rintro L f1 w3 h hall
          have q8 : G f1 8 = .int .i64 (n : Int) := h.got 11 8 (hall 11 (by simp)) rfl
          have e := frame_puts h hsz hdf (by decide)
          have HB3 := hide (below_via (unhide HB) h.old)
          rw [hf0] at e
          simp only [List.foldl_cons, List.foldl_nil] at e
          rw [q8] at e
          generalize G f1 65 = z65 at e
          generalize G f1 66 = z66 at e
          generalize G f1 67 = z67 at e
          generalize G f1 68 = z68 at e
          generalize G f1 69 = z69 at e
          generalize G f1 70 = z70 at e
          generalize G f1 71 = z71 at e
          generalize G f1 72 = z72 at e
          generalize G f1 73 = z73 at e
          generalize G f1 74 = z74 at e
          generalize G f1 75 = z75 at e
          clear h hall hsz hdf s2 s3 s7 q8 hf0 f0 v5 z5 p0 p1 p2 p3 p4 p5 q0 q1 q2 q3 q4 q5 lb1 lb2 lv lz C
          subst e
          by_cases hlt : n < least
          · have hmin : min least n = n := by omega
            rw [hmin] at H
            clear hmin
            go_wp2
            go_round
            case rel => exact ⟨m + 1, n, by omega, hle, rfl, by go_num, H, HB3⟩
            case measure => simp [intOf]; omega
          · have hmin : min least n = least := by omega
            rw [hmin] at H
            clear hmin
            go_wp2
            go_round
            case rel => exact ⟨m + 1, least, by omega, hn2, rfl, by go_num, H, HB3⟩
            case measure => simp [intOf]; omega
    · obtain rfl : m = ks.length := by omega
      have H2 : Hid (eqPL ks ks' 2 = least) := by
        have h := unhide H
        rw [List.drop_length, eqPL_nil] at h
        exact hide h
      have HW := hide (below_via (unhide W0) (unhide HB))
      go_wp2
      go_ret
      rw [unhide H2]
      exact ⟨rfl, unhide HW⟩
end Go.Proofs.YtbdgngfpofohpaaDoor
