/- Walks: look.wrongList, out of what look.wrong tells of each. -/
import Derived.Test.YthhdgimphnbjbaaDoorT0
namespace Go.Proofs.YthhdgimphnbjbaaDoor
open Go.RowKit

/-- what look.wrong tells of a tree -/
def WrongC (T : Tree) : Prop := ∀ (B : Nat) (w : World) (v : Array Value) (p s d : Nat), Mem B w T v → B ≤ p → St w p s → s ≤ 2000 → 1 ≤ d → d ≤ 21 → Tabs w → Tryd.laysValid_ren.g 3 < B → Tryd.laysValid_ren.g 4 < B →
  Calls Tryd.prog 11 #[.pointer (some ⟨p, 0, none⟩), .agg v, .int .i64 (d : Int)] w fun e w' => e = .returned (.int .i64 (wrongF T s d).1) ∧ St w' p (wrongF T s d).2 ∧ Below B w w'

theorem wrongL_nil (s d : Nat) : wrongL [] s d = (0, s) := by rw [wrongL]
theorem wrongL_ok {u : Tree} {us : List Tree} {s d : Nat} (h : (wrongF u s d).1 = 0) : wrongL (u :: us) s d = wrongL us (wrongF u s d).2 d := by rw [wrongL, if_pos h]
theorem wrongL_no {u : Tree} {us : List Tree} {s d : Nat} (h : ¬ (wrongF u s d).1 = 0) : wrongL (u :: us) s d = wrongF u s d := by rw [wrongL, if_neg h]

set_option maxHeartbeats 1000000 in
theorem wrongList_long (ks : List Tree) (a : Option Addr) (cap : Nat) (w : World) (p : Nat) (d : Int) (hl : (200 : Int) < (ks.length : Int)) :
    Calls Tryd.prog 19 #[.pointer (some ⟨p, 0, none⟩), .slice a ks.length cap, .int .i64 d] w fun e w' => e = .returned (.int .i64 5) ∧ w' = w := by
  go_enter Tryd.func19, Tryd.ntmps19
  go_wp2
  go_ret
  exact ⟨rfl, rfl⟩

set_option maxHeartbeats 1000000 in
theorem wrongList_nil (a : Option Addr) (cap : Nat) (w : World) (p : Nat) (d : Int) :
    Calls Tryd.prog 19 #[.pointer (some ⟨p, 0, none⟩), .slice a 0 cap, .int .i64 d] w fun e w' => e = .returned (.int .i64 0) ∧ w' = w := by
  go_enter Tryd.func19, Tryd.ntmps19
  go_wp2
  go_loop [15] (fun i => i = .int .i64 0) (fun _ => 0)
  case atStart => rfl
  case round =>
    subst hrel
    go_wp2
    go_ret
    exact ⟨rfl, rfl⟩

set_option maxHeartbeats 2000000 in
theorem wrongList_of (ks : List Tree) (IH : ∀ u ∈ ks, WrongC u) (B : Nat) (w : World) (b off cap p s d : Nat) (hm : MemL B w ks b off) (hlt : b < B) (hl : ks.length ≤ 200) (hp : B ≤ p) (hS : St w p s) (hs : s ≤ 2000) (hd1 : 1 ≤ d) (hd : d ≤ 21) (hT : Tabs w) (g3 : Tryd.laysValid_ren.g 3 < B) (g4 : Tryd.laysValid_ren.g 4 < B) :
    Calls Tryd.prog 19 #[.pointer (some ⟨p, 0, none⟩), .slice (some ⟨b, off, none⟩) ks.length cap, .int .i64 (d : Int)] w fun e w' => e = .returned (.int .i64 (wrongL ks s d).1) ∧ St w' p (wrongL ks s d).2 ∧ Below B w w' := by
  have hl' : ¬ (200 : Int) < (ks.length : Int) := by omega
  have IH' := hide IH
  have hm' := hide hm
  have hT' := hide hT
  have G' := hide (And.intro g3 g4)
  have S0 := hide hS
  have hBw : B ≤ w.heap.size := Nat.le_of_lt (Nat.lt_of_le_of_lt hp hS.2.2)
  clear IH hm hT g3 g4 hS
  go_enter Tryd.func19, Tryd.ntmps19
  go_wp2
  go_loopw [15] (fun i wr => ∃ m si : Nat, m ≤ ks.length ∧ i = .int .i64 (m : Int) ∧ Hid (wrongL ks s d = wrongL (ks.drop m) si d) ∧ si ≤ 2000 ∧ Hid (St wr p si) ∧ Hid (Below B w wr)) (fun i _ => ks.length - (intOf i).toNat)
  case atStart => exact ⟨0, s, Nat.zero_le _, rfl, hide rfl, hs, S0, hide (Below.refl _ _)⟩
  case round =>
    obtain ⟨m, si, hml, rfl, H, hsi, HS, HB⟩ := hrel
    clear S0
    by_cases hlt2 : m < ks.length
    · have hi1 : (m : Int) < (ks.length : Int) := by omega
      obtain ⟨u, hu⟩ : ∃ u, ks[m]? = some u := ⟨_, List.getElem?_eq_getElem hlt2⟩
      have hdrop : ks.drop m = u :: ks.drop (m + 1) := by
        rw [List.drop_eq_getElem_cons hlt2]
        congr 1
        rw [List.getElem?_eq_getElem hlt2] at hu
        exact Option.some.inj hu
      have HU := hide (unhide IH' u (List.mem_of_getElem? hu))
      obtain ⟨cs, h6, hmu⟩ := MemL.at (MemL.below (unhide HB) hlt (unhide hm')) m u hu
      have HM := hide hmu
      rw [hdrop] at H
      have hbd := hide (wrongF_bd u si d hsi)
      cases u with
      | mk k y c x t kk =>
        rw [Mem] at hmu
        obtain ⟨ht, hk, a', cap', rfl, _⟩ := hmu
        obtain ⟨u0, u1, u2, u3, u4, u5, hu6, c0, c1, c2, c3, c4, c5⟩ := h6
        simp only [Array.mk.injEq, List.cons.injEq, and_true] at hu6
        obtain ⟨rfl, rfl, rfl, rfl, rfl, rfl⟩ := hu6
        clear hu hdrop ht hk
        have hcap : ks.length ≤ 200 := hl
        go_wp2_with fail
        have hbB : B ≤ wr.heap.size := Nat.le_trans hBw (unhide HB).size
        have hba := (Below.refl B wr).alloc hbB (.cells #[.int .i64 k, .bool y, .int .i64 c, .int .i64 x, .string t, .slice a' kk.length cap'] 26)
        have hbw := (unhide HB).trans hba
        refine (unhide HU B _ _ p si d (Mem.below hba (unhide HM)) hp ((unhide HS).below ((Below.refl _ _).alloc (Nat.le_refl _) _) (unhide HS).2.2) hsi hd1 hd (Tabs.below (unhide hT') hbw (unhide G').1 (unhide G').2) (unhide G').1 (unhide G').2).mono ?_
        rintro e w2 ⟨rfl, hS2, hb2⟩
        have HB2 := hide (hbw.trans hb2)
        have HS2 := hide hS2
        clear hS2 hb2 hba hbw HB HS HM
        by_cases hr : (wrongF (.mk k y c x t kk) si d).1 = 0
        · have hz : ((wrongF (.mk k y c x t kk) si d).1 != 0) = false := by simp [hr]
          have H2 := hide (wrongL_ok (us := ks.drop (m + 1)) hr)
          have hle := (unhide hbd).2 hr
          generalize wrongF (.mk k y c x t kk) si d = R at *
          clear hr
          go_wp2
          go_round
          case rel => exact ⟨m + 1, R.2, by omega, by go_num, hide ((unhide H).trans (unhide H2)), hle, HS2, HB2⟩
          case measure => simp [intOf]; omega
        · have hz : ((wrongF (.mk k y c x t kk) si d).1 != 0) = true := by simp [hr]
          have H2 := hide ((unhide H).trans (wrongL_no (us := ks.drop (m + 1)) hr))
          generalize wrongF (.mk k y c x t kk) si d = R at *
          clear hr
          go_wp2
          go_ret
          rw [unhide H2]
          exact ⟨rfl, unhide HS2, unhide HB2⟩
    · obtain rfl : m = ks.length := by omega
      have H2 : Hid (wrongL ks s d = (0, si)) := by
        have h := unhide H
        rw [List.drop_length, wrongL_nil] at h
        exact hide h
      go_wp2
      go_ret
      rw [unhide H2]
      exact ⟨rfl, unhide HS, unhide HB⟩
end Go.Proofs.YthhdgimphnbjbaaDoor
