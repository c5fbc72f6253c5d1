/- Walks: Same of two trees, the lists. -/
import Derived.Test.YthhdgimphnbjbaaDoorY2
namespace Go.Proofs.YthhdgimphnbjbaaDoor
open Go.RowKit

theorem drop_at {ks : List Tree} {m : Nat} {u : Tree} (hlt : m < ks.length) (hu : ks[m]? = some u) : ks.drop m = u :: ks.drop (m + 1) := by
  rw [List.drop_eq_getElem_cons hlt]
  congr 1
  rw [List.getElem?_eq_getElem hlt] at hu
  exact Option.some.inj hu

set_option maxHeartbeats 4000000 in
theorem same_nil (k : Int) (y : Bool) (c x : Int) (t : ByteArray) (a a' : Option Addr) (cap cap' B : Nat) (w : World) (hB : B ≤ w.heap.size) :
    Calls Tryd.prog 8 #[.agg #[.int .i64 k, .bool y, .int .i64 c, .int .i64 x, .string t, .slice a 0 cap], .agg #[.int .i64 k, .bool y, .int .i64 c, .int .i64 x, .string t, .slice a' 0 cap']] w fun e w' => e = .returned (.bool true) ∧ Below B w w' := by
  have hb : ∀ o o', Below B w ((w.alloc o).alloc o') := fun o o' => ((Below.refl B w).alloc hB o).alloc (by simp; omega) o'
  have HB := hide hb
  clear hb
  go_enter Tryd.func8, Tryd.ntmps8
  go_wp2
  go_loop [44] (fun i => i = .int .i64 0) (fun _ => 0)
  case atStart => rfl
  case round =>
    subst hrel
    go_wp2
    go_ret
    exact ⟨rfl, unhide HB _ _⟩

set_option maxHeartbeats 4000000 in
theorem same_yes (k : Int) (y : Bool) (c x : Int) (t : ByteArray) (ks ks' : List Tree) (hl : ks.length = ks'.length) (hn : ks.length ≤ 9223372036854775807) (IH : ∀ u ∈ ks, SameC u) (b b' off off' cap cap' B : Nat) (w : World) (hB : B ≤ w.heap.size) (hb1 : b < B) (hb2 : b' < B) (hm : MemL B w ks b off) (hm2 : MemL B w ks' b' off') :
    Calls Tryd.prog 8 #[.agg #[.int .i64 k, .bool y, .int .i64 c, .int .i64 x, .string t, .slice (some ⟨b, off, none⟩) ks.length cap], .agg #[.int .i64 k, .bool y, .int .i64 c, .int .i64 x, .string t, .slice (some ⟨b', off', none⟩) ks'.length cap']] w fun e w' => e = .returned (.bool (sameL ks ks')) ∧ Below w.heap.size w w' := by
  have HL := hide hl
  rw [← hl]
  clear hl
  have hBB : ∀ o o', Below w.heap.size w ((w.alloc o).alloc o') := fun o o' => ((Below.refl _ w).alloc (Nat.le_refl _) o).alloc (by simp) o'
  have HB := hide hBB
  have M1 := hide hm
  have M2 := hide hm2
  have IH' := hide IH
  clear hBB hm hm2 IH
  go_enter Tryd.func8, Tryd.ntmps8
  go_wp2
  go_loopw [44] (fun i wr => ∃ m : Nat, m ≤ ks.length ∧ i = .int .i64 (m : Int) ∧ Hid (sameL ks ks' = sameL (ks.drop m) (ks'.drop m)) ∧ Hid (Below w.heap.size w wr) ∧ wr.cell? ⟨w.heap.size, 5, none⟩ = some (.slice (some ⟨b, off, none⟩) ks.length cap) ∧ wr.cell? ⟨w.heap.size + 1, 5, none⟩ = some (.slice (some ⟨b', off', none⟩) ks.length cap') ∧ w.heap.size + 1 < wr.heap.size) (fun i _ => ks.length - (intOf i).toNat)
  case atStart => exact ⟨0, Nat.zero_le _, rfl, hide rfl, hide (unhide HB _ _), by simp [go_sem], by simp [go_sem], by simp⟩
  case round =>
    obtain ⟨m, hml, rfl, H, HW, x1, x2, x3⟩ := hrel
    by_cases hlt2 : m < ks.length
    · have hi1 : (m : Int) < (ks.length : Int) := by omega
      obtain ⟨u, hu⟩ : ∃ u, ks[m]? = some u := ⟨_, List.getElem?_eq_getElem hlt2⟩
      obtain ⟨u', hu'⟩ : ∃ u, ks'[m]? = some u := ⟨_, List.getElem?_eq_getElem (by have := unhide HL; omega)⟩
      have HU := hide (unhide IH' u (List.mem_of_getElem? hu))
      have hwB := (unhide HW).mono hB
      obtain ⟨cs, h6, hmu⟩ := MemL.at (MemL.below hwB hb1 (unhide M1)) m u hu
      obtain ⟨cs', h6', hmu'⟩ := MemL.at (MemL.below hwB hb2 (unhide M2)) m u' hu'
      clear hwB
      have HM := hide hmu
      have HM' := hide hmu'
      rw [drop_at hlt2 hu, drop_at (by have := unhide HL; omega) hu', sameL_cons] at H
      cases u with
      | mk k y c x t kk =>
      cases u' with
      | mk k' y' c' x' t' kk' =>
        rw [Mem] at hmu hmu'
        obtain ⟨_, _, a1, cap1, rfl, _⟩ := hmu
        obtain ⟨_, _, a2, cap2, rfl, _⟩ := hmu'
        obtain ⟨u0, u1, u2, u3, u4, u5, hu6, c0, c1, c2, c3, c4, c5⟩ := h6
        simp only [Array.mk.injEq, List.cons.injEq, and_true] at hu6
        obtain ⟨rfl, rfl, rfl, rfl, rfl, rfl⟩ := hu6
        obtain ⟨u0, u1, u2, u3, u4, u5, hu6, e0, e1, e2, e3, e4, e5⟩ := h6'
        simp only [Array.mk.injEq, List.cons.injEq, and_true] at hu6
        obtain ⟨rfl, rfl, rfl, rfl, rfl, rfl⟩ := hu6
        have hBr := Nat.le_trans hB (unhide HW).size
        have C := hide (fun wx (hx : Below wr.heap.size wr wx) => unhide HU (.mk k' y' c' x' t' kk') B wx _ _ (Mem.below (hx.mono hBr) (unhide HM)) (Mem.below (hx.mono hBr) (unhide HM')) (Nat.le_trans hBr hx.size))
        generalize sameB (.mk k y c x t kk) (.mk k' y' c' x' t' kk') = R at *
        clear hu hu' HU HM HM'
        go_wp2_with fail
        go_region_with (refine (unhide C _ ((Below.refl _ _).drew)).mono ?_; rintro e w2 ⟨rfl, hb⟩)
        all_goals
          have hb' : Below wr.heap.size wr w2 := (Below.refl _ _).drew.trans hb
          have y1 := (hb'.cell (p := ⟨w.heap.size, 5, none⟩) (by simp; omega)).trans x1
          have y2 := (hb'.cell (p := ⟨w.heap.size + 1, 5, none⟩) (by simp; omega)).trans x2
          have HW2 := hide ((unhide HW).trans (hb'.mono (unhide HW).size))
          have x3' : w.heap.size + 1 < w2.heap.size := Nat.lt_of_lt_of_le x3 hb'.size
          clear hb hb' c0 c1 c2 c3 c4 c5 e0 e1 e2 e3 e4 e5 C
          cases R with
          | true =>
            rw [Bool.true_and] at H
            go_wp2
            go_round
            case rel => exact ⟨m + 1, by omega, by go_num, H, HW2, y1, y2, x3'⟩
            case measure => simp [intOf]; omega
          | false =>
            rw [Bool.false_and] at H
            go_wp2
            go_ret
            rw [unhide H]
            exact ⟨rfl, unhide HW2⟩
    · obtain rfl : m = ks.length := by omega
      have H2 : sameL ks ks' = true := by
        have h := unhide H
        rw [List.drop_length, sameL_nil] at h
        exact h
      replace H2 := hide H2
      go_wp2
      go_ret
      rw [unhide H2]
      exact ⟨rfl, unhide HW⟩

theorem same_of (k : Int) (y : Bool) (c x : Int) (t : ByteArray) (ks : List Tree) (IH : ∀ u ∈ ks, SameC u) : SameC (.mk k y c x t ks) := by
  intro U B w v u hM hM' hB
  cases U with
  | mk k' y' c' x' t' ks' =>
  rw [Mem] at hM hM'
  obtain ⟨ht, hk, a, cap, rfl, hks⟩ := hM
  obtain ⟨ht', hk', a', cap', rfl, hks'⟩ := hM'
  rw [sameB]
  by_cases h : k = k' ∧ y = y' ∧ c = c' ∧ x = x' ∧ t.toList = t'.toList ∧ ks.length = ks'.length
  · obtain ⟨rfl, rfl, rfl, rfl, ht2, hl⟩ := h
    obtain rfl := tl_eq.1 ht2
    rw [show (decide (k = k) && decide (y = y) && decide (c = c) && decide (x = x) && decide (t.toList = t.toList) && decide (ks.length = ks'.length) && sameL ks ks') = sameL ks ks' by simp [hl]]
    by_cases hn : ks = []
    · subst hn
      have hn' : ks' = [] := List.eq_nil_of_length_eq_zero (by rw [← hl]; rfl)
      subst hn'
      rw [sameL_nil]
      exact same_nil k y c x t a a' cap cap' w.heap.size w (Nat.le_refl _)
    · have hn' : ks' ≠ [] := by
        intro q
        rw [q] at hl
        exact hn (List.eq_nil_of_length_eq_zero hl)
      obtain ⟨b, off, rfl, hb, hm⟩ := hks hn
      obtain ⟨b', off', rfl, hb', hm'⟩ := hks' hn'
      exact same_yes k y c x t ks ks' hl hk IH b b' off off' cap cap' B w hB hb hb' hm hm'
  · rw [show (decide (k = k') && decide (y = y') && decide (c = c') && decide (x = x') && decide (t.toList = t'.toList) && decide (ks.length = ks'.length) && sameL ks ks') = false by
      cases hq : (decide (k = k') && decide (y = y') && decide (c = c') && decide (x = x') && decide (t.toList = t'.toList) && decide (ks.length = ks'.length)) with
      | false => rfl
      | true =>
        simp only [Bool.and_eq_true, decide_eq_true_eq] at hq
        exact absurd ⟨hq.1.1.1.1.1, hq.1.1.1.1.2, hq.1.1.1.2, hq.1.1.2, hq.1.2, hq.2⟩ h]
    exact same_no k y c x t k' y' c' x' t' a a' _ _ cap cap' w.heap.size w (Nat.le_refl _) h

mutual
theorem same_all : ∀ T : Tree, SameC T
  | .mk k y c x t ks => same_of k y c x t ks (fun u h => same_alls ks u h)
theorem same_alls : ∀ (ks : List Tree) (u : Tree), u ∈ ks → SameC u
  | [], u, h => by cases h
  | v :: vs, u, h => by
    by_cases e : u = v
    · rw [e]; exact same_all v
    · exact same_alls vs u ((List.mem_cons.1 h).resolve_left e)
end
end Go.Proofs.YthhdgimphnbjbaaDoor
