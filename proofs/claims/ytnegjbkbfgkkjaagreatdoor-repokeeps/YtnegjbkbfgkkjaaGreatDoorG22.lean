/- Values as trees: what is wrong with one, how it lies in memory. -/
import Derived.Test.YtnegjbkbfgkkjaaGreatDoorG08
import Derived.Test.YtnegjbkbfgkkjaaGreatDoorG11
import Derived.Shelf.Unicode.ValidAny
namespace Go.Proofs.YtnegjbkbfgkkjaaGreatDoor
open Go.RowKit Go.Shelf Go.Lib

def wrongT (t : ByteArray) : Int := if (1000 : Int) < (t.size : Int) then 4 else if Lib.validD t.data.toList then 0 else 2

mutual
def wrongF : Tree → Nat → Nat → Int × Nat
  | .mk k _ c x t ks, s, d =>
    if 2000 < s + 1 ∨ 20 < d then (4, s + 1) else if k = 1 ∨ k = 2 then (0, s + 1) else if k = 3 then (Dm.wrongN c x, s + 1) else if k = 4 then (wrongT t, s + 1)
    else if k = 5 then (if 200 < ks.length then (5, s + 1) else wrongL ks (s + 1) (d + 1)) else (1, s + 1)
def wrongL : List Tree → Nat → Nat → Int × Nat
  | [], s, _ => (0, s)
  | v :: vs, s, d => if (wrongF v s d).1 = 0 then wrongL vs (wrongF v s d).2 d else wrongF v s d
end

mutual
theorem wrongF_bd : ∀ (T : Tree) (s d : Nat), s ≤ 2000 → (wrongF T s d).2 ≤ 2001 ∧ ((wrongF T s d).1 = 0 → (wrongF T s d).2 ≤ 2000)
  | .mk k y c x t ks, s, d, hs => by
    rw [wrongF]
    by_cases h1 : 2000 < s + 1 ∨ 20 < d
    · rw [if_pos h1]; exact ⟨by simp; omega, fun h => by simp at h⟩
    rw [if_neg h1]
    by_cases h2 : k = 1 ∨ k = 2
    · rw [if_pos h2]; exact ⟨by simp; omega, fun _ => by simp; omega⟩
    rw [if_neg h2]
    by_cases h3 : k = 3
    · rw [if_pos h3]; exact ⟨by simp; omega, fun _ => by simp; omega⟩
    rw [if_neg h3]
    by_cases h4 : k = 4
    · rw [if_pos h4]; exact ⟨by simp; omega, fun _ => by simp; omega⟩
    rw [if_neg h4]
    by_cases h5 : k = 5
    · rw [if_pos h5]
      by_cases h6 : 200 < ks.length
      · rw [if_pos h6]; exact ⟨by simp; omega, fun _ => by simp; omega⟩
      · rw [if_neg h6]; exact wrongL_bd ks (s + 1) (d + 1) (by omega)
    · rw [if_neg h5]; exact ⟨by simp; omega, fun _ => by simp; omega⟩
theorem wrongL_bd : ∀ (ks : List Tree) (s d : Nat), s ≤ 2000 → (wrongL ks s d).2 ≤ 2001 ∧ ((wrongL ks s d).1 = 0 → (wrongL ks s d).2 ≤ 2000)
  | [], s, d, hs => by rw [wrongL]; exact ⟨by simp; omega, fun _ => by simp; omega⟩
  | v :: vs, s, d, hs => by
    rw [wrongL]
    have h := wrongF_bd v s d hs
    by_cases h1 : (wrongF v s d).1 = 0
    · rw [if_pos h1]; exact wrongL_bd vs _ d (h.2 h1)
    · rw [if_neg h1]; exact h
end

/-- the library's two tables -/
def Tabs (w : World) : Prop := Lib.Utf8Tabs (Tryz.laysValid_ren.g 3) (Tryz.laysValid_ren.g 4) w
theorem Tabs.below {B : Nat} {w w' : World} (h : Tabs w) (hb : Below B w w') (l3 : Tryz.laysValid_ren.g 3 < B) (l4 : Tryz.laysValid_ren.g 4 < B) : Tabs w' := by
  obtain ⟨h1, h2⟩ := h
  refine ⟨fun c hc => (hb.cell (p := ⟨_, c, none⟩) l3).trans (h1 c hc), fun i hi => ⟨(hb.cell (p := ⟨_, 2 * i, none⟩) l4).trans (h2 i hi).1, (hb.cell (p := ⟨_, 2 * i + 1, none⟩) l4).trans (h2 i hi).2⟩⟩

set_option maxHeartbeats 1000000 in
theorem wrongText_any (t : ByteArray) (w : World) (hs : t.size ≤ 9223372036854775807) (hT : Tabs w) :
    Calls Tryz.prog 132 #[.string t] w fun e w' => e = .returned (.int .i64 (wrongT t)) ∧ Below w.heap.size w w' := by
  have cV : Calls Tryz.prog 162 #[.string t] w _ := Any.utf8_ValidString Tryz.laysValid t w hs hT
  unfold wrongT
  generalize Lib.validD t.data.toList = V at cV ⊢
  by_cases hl : (1000 : Int) < (t.size : Int)
  · rw [if_pos hl]
    clear cV
    go_enter Tryz.func132, Tryz.ntmps132
    go_wp2
    go_ret
    exact ⟨rfl, Below.refl _ _⟩
  · rw [if_neg hl]
    cases V
    all_goals
      go_enter Tryz.func132, Tryz.ntmps132
      go_wp2_with (go_at_call 162; refine cV.mono ?_; rintro e w' ⟨rfl, hb⟩)
      go_ret
      exact ⟨rfl, hb⟩
end Go.Proofs.YtnegjbkbfgkkjaaGreatDoor

/- Walks: look.wrongList, out of what look.wrong tells of each. -/
namespace Go.Proofs.YtnegjbkbfgkkjaaGreatDoor
open Go.RowKit

/-- what look.wrong tells of a tree -/
def WrongC (T : Tree) : Prop := ∀ (B : Nat) (w : World) (v : Array Value) (p s d : Nat), Mem B w T v → B ≤ p → St w p s → s ≤ 2000 → 1 ≤ d → d ≤ 21 → Tabs w → Tryz.laysValid_ren.g 3 < B → Tryz.laysValid_ren.g 4 < B →
  Calls Tryz.prog 100 #[.pointer (some ⟨p, 0, none⟩), .agg v, .int .i64 (d : Int)] w fun e w' => e = .returned (.int .i64 (wrongF T s d).1) ∧ St w' p (wrongF T s d).2 ∧ Below B w w'

theorem wrongL_nil (s d : Nat) : wrongL [] s d = (0, s) := by rw [wrongL]
theorem wrongL_ok {u : Tree} {us : List Tree} {s d : Nat} (h : (wrongF u s d).1 = 0) : wrongL (u :: us) s d = wrongL us (wrongF u s d).2 d := by rw [wrongL, if_pos h]
theorem wrongL_no {u : Tree} {us : List Tree} {s d : Nat} (h : ¬ (wrongF u s d).1 = 0) : wrongL (u :: us) s d = wrongF u s d := by rw [wrongL, if_neg h]

set_option maxHeartbeats 1000000 in
theorem wrongList_long (ks : List Tree) (a : Option Addr) (cap : Nat) (w : World) (p : Nat) (d : Int) (hl : (200 : Int) < (ks.length : Int)) :
    Calls Tryz.prog 133 #[.pointer (some ⟨p, 0, none⟩), .slice a ks.length cap, .int .i64 d] w fun e w' => e = .returned (.int .i64 5) ∧ w' = w := by
  go_enter Tryz.func133, Tryz.ntmps133
  go_wp2
  go_ret
  exact ⟨rfl, rfl⟩

set_option maxHeartbeats 1000000 in
theorem wrongList_nil (a : Option Addr) (cap : Nat) (w : World) (p : Nat) (d : Int) :
    Calls Tryz.prog 133 #[.pointer (some ⟨p, 0, none⟩), .slice a 0 cap, .int .i64 d] w fun e w' => e = .returned (.int .i64 0) ∧ w' = w := by
  go_enter Tryz.func133, Tryz.ntmps133
  go_wp2
  go_loop [15] (fun i => i = .int .i64 0) (fun _ => 0)
  case atStart => rfl
  case round =>
    subst hrel
    go_wp2
    go_ret
    exact ⟨rfl, rfl⟩

set_option maxHeartbeats 2000000 in
theorem wrongList_of (ks : List Tree) (IH : ∀ u ∈ ks, WrongC u) (B : Nat) (w : World) (b off cap p s d : Nat) (hm : MemL B w ks b off) (hlt : b < B) (hl : ks.length ≤ 200) (hp : B ≤ p) (hS : St w p s) (hs : s ≤ 2000) (hd1 : 1 ≤ d) (hd : d ≤ 21) (hT : Tabs w) (g3 : Tryz.laysValid_ren.g 3 < B) (g4 : Tryz.laysValid_ren.g 4 < B) :
    Calls Tryz.prog 133 #[.pointer (some ⟨p, 0, none⟩), .slice (some ⟨b, off, none⟩) ks.length cap, .int .i64 (d : Int)] w fun e w' => e = .returned (.int .i64 (wrongL ks s d).1) ∧ St w' p (wrongL ks s d).2 ∧ Below B w w' := by
  have hl' : ¬ (200 : Int) < (ks.length : Int) := by omega
  have IH' := hide IH
  have hm' := hide hm
  have hT' := hide hT
  have G' := hide (And.intro g3 g4)
  have S0 := hide hS
  have hBw : B ≤ w.heap.size := Nat.le_of_lt (Nat.lt_of_le_of_lt hp hS.2.2)
  clear IH hm hT g3 g4 hS
  go_enter Tryz.func133, Tryz.ntmps133
  go_wp2
  go_loopw [15] (fun i wr => ∃ m si : Nat, m ≤ ks.length ∧ i = .int .i64 (m : Int) ∧ Hid (wrongL ks s d = wrongL (ks.drop m) si d) ∧ si ≤ 2000 ∧ Hid (St wr p si) ∧ Hid (Below B w wr)) (fun i _ => ks.length - (intOf i).toNat)
  case atStart => exact ⟨0, s, Nat.zero_le _, rfl, hide rfl, hs, S0, hide (Below.refl _ _)⟩
  case round =>
    obtain ⟨m, si, hml, rfl, H, hsi, HS, HB⟩ := hrel
    clear S0
    by_cases hlt2 : m < ks.length
    · have hi1 : (m : Int) < (ks.length : Int) := by omega
      obtain ⟨u, hu⟩ : ∃ u, ks[m]? = some u := ⟨_, List.getElem?_eq_getElem hlt2⟩
      have hdrop : ks.drop m = u :: ks.drop (m + 1) := by
        rw [List.drop_eq_getElem_cons hlt2]
        congr 1
        rw [List.getElem?_eq_getElem hlt2] at hu
        exact Option.some.inj hu
      have HU := hide (unhide IH' u (List.mem_of_getElem? hu))
      obtain ⟨cs, h6, hmu⟩ := MemL.at (MemL.below (unhide HB) hlt (unhide hm')) m u hu
      have HM := hide hmu
      rw [hdrop] at H
      have hbd := hide (wrongF_bd u si d hsi)
      cases u with
      | mk k y c x t kk =>
        rw [Mem] at hmu
        obtain ⟨ht, hk, a', cap', rfl, _⟩ := hmu
        obtain ⟨u0, u1, u2, u3, u4, u5, hu6, c0, c1, c2, c3, c4, c5⟩ := h6
        simp only [Array.mk.injEq, List.cons.injEq, and_true] at hu6
        obtain ⟨rfl, rfl, rfl, rfl, rfl, rfl⟩ := hu6
        clear hu hdrop ht hk
        have hcap : ks.length ≤ 200 := hl
        go_wp2_with fail
        have hbB : B ≤ wr.heap.size := Nat.le_trans hBw (unhide HB).size
        have hba := (Below.refl B wr).alloc hbB (.cells #[.int .i64 k, .bool y, .int .i64 c, .int .i64 x, .string t, .slice a' kk.length cap'] 81)
        have hbw := (unhide HB).trans hba
        refine (unhide HU B _ _ p si d (Mem.below hba (unhide HM)) hp ((unhide HS).below ((Below.refl _ _).alloc (Nat.le_refl _) _) (unhide HS).2.2) hsi hd1 hd (Tabs.below (unhide hT') hbw (unhide G').1 (unhide G').2) (unhide G').1 (unhide G').2).mono ?_
        rintro e w2 ⟨rfl, hS2, hb2⟩
        have HB2 := hide (hbw.trans hb2)
        have HS2 := hide hS2
        clear hS2 hb2 hba hbw HB HS HM
        by_cases hr : (wrongF (.mk k y c x t kk) si d).1 = 0
        · have hz : ((wrongF (.mk k y c x t kk) si d).1 != 0) = false := by simp [hr]
          have H2 := hide (wrongL_ok (us := ks.drop (m + 1)) hr)
          have hle := (unhide hbd).2 hr
          generalize wrongF (.mk k y c x t kk) si d = R at *
          clear hr
          go_wp2
          go_round
          case rel => exact ⟨m + 1, R.2, by omega, by go_num, hide ((unhide H).trans (unhide H2)), hle, HS2, HB2⟩
          case measure => simp [intOf]; omega
        · have hz : ((wrongF (.mk k y c x t kk) si d).1 != 0) = true := by simp [hr]
          have H2 := hide ((unhide H).trans (wrongL_no (us := ks.drop (m + 1)) hr))
          generalize wrongF (.mk k y c x t kk) si d = R at *
          clear hr
          go_wp2
          go_ret
          rw [unhide H2]
          exact ⟨rfl, unhide HS2, unhide HB2⟩
    · obtain rfl : m = ks.length := by omega
      have H2 : Hid (wrongL ks s d = (0, si)) := by
        have h := unhide H
        rw [List.drop_length, wrongL_nil] at h
        exact hide h
      go_wp2
      go_ret
      rw [unhide H2]
      exact ⟨rfl, unhide HS, unhide HB⟩
end Go.Proofs.YtnegjbkbfgkkjaaGreatDoor

/- Walks: look.wrong, Wrong. -/
namespace Go.Proofs.YtnegjbkbfgkkjaaGreatDoor
open Go.RowKit

theorem St.inc {w : World} {p s : Nat} {o : Obj} (h : St w p s) : St ((w.setCell ⟨p, 0, none⟩ (.int .i64 ((s : Int) + 1))).alloc o) p (s + 1) := by
  obtain ⟨h1, h2, h3⟩ := h
  have g : St (w.setCell ⟨p, 0, none⟩ (.int .i64 ((s : Int) + 1))) p (s + 1) := by
    refine ⟨?_, ?_, by simpa [World.setCell] using h3⟩
    · simp [go_sem, h1]
    · simp [go_sem, h2]
  exact g.below (vbelow_new _ o) g.2.2

theorem wf_much {k : Int} {y : Bool} {c x : Int} {t : ByteArray} {ks : List Tree} {s d : Nat} (h : 2000 < s + 1 ∨ 20 < d) : wrongF (.mk k y c x t ks) s d = (4, s + 1) := by rw [wrongF, if_pos h]
theorem wf_plain {k : Int} {y : Bool} {c x : Int} {t : ByteArray} {ks : List Tree} {s d : Nat} (h : ¬ (2000 < s + 1 ∨ 20 < d)) (hk : k = 1 ∨ k = 2) : wrongF (.mk k y c x t ks) s d = (0, s + 1) := by rw [wrongF, if_neg h, if_pos hk]
theorem wf_num {y : Bool} {c x : Int} {t : ByteArray} {ks : List Tree} {s d : Nat} (h : ¬ (2000 < s + 1 ∨ 20 < d)) : wrongF (.mk 3 y c x t ks) s d = (Dm.wrongN c x, s + 1) := by rw [wrongF, if_neg h, if_neg (by omega), if_pos rfl]
theorem wf_text {y : Bool} {c x : Int} {t : ByteArray} {ks : List Tree} {s d : Nat} (h : ¬ (2000 < s + 1 ∨ 20 < d)) : wrongF (.mk 4 y c x t ks) s d = (wrongT t, s + 1) := by rw [wrongF, if_neg h, if_neg (by omega), if_neg (by omega), if_pos rfl]
theorem wf_list {y : Bool} {c x : Int} {t : ByteArray} {ks : List Tree} {s d : Nat} (h : ¬ (2000 < s + 1 ∨ 20 < d)) : wrongF (.mk 5 y c x t ks) s d = if 200 < ks.length then (5, s + 1) else wrongL ks (s + 1) (d + 1) := by rw [wrongF, if_neg h, if_neg (by omega), if_neg (by omega), if_neg (by omega), if_pos rfl]
theorem wf_else {k : Int} {y : Bool} {c x : Int} {t : ByteArray} {ks : List Tree} {s d : Nat} (h : ¬ (2000 < s + 1 ∨ 20 < d)) (h1 : ¬ k = 1) (h2 : ¬ k = 2) (h3 : ¬ k = 3) (h4 : ¬ k = 4) (h5 : ¬ k = 5) : wrongF (.mk k y c x t ks) s d = (1, s + 1) := by
  rw [wrongF, if_neg h, if_neg (by omega), if_neg h3, if_neg h4, if_neg h5]

set_option maxHeartbeats 2000000 in
theorem wrong_of (k : Int) (y : Bool) (c x : Int) (t : ByteArray) (ks : List Tree) (IH : ∀ u ∈ ks, WrongC u) : WrongC (.mk k y c x t ks) := by
  intro B w v p s d hM hp hS hs hd1 hd hT g3 g4
  rw [Mem] at hM
  obtain ⟨ht, hk, a, cap, rfl, hks⟩ := hM
  have hBw : B ≤ w.heap.size := Nat.le_of_lt (Nat.lt_of_le_of_lt hp hS.2.2)
  have SI := hide (hS.inc (o := .cells #[.int .i64 k, .bool y, .int .i64 c, .int .i64 x, .string t, .slice a ks.length cap] 81))
  have BI := hide (((Below.refl B w).setCell (p := ⟨p, 0, none⟩) hp (.int .i64 ((s : Int) + 1))).alloc (by simpa [World.setCell] using hBw) (.cells #[.int .i64 k, .bool y, .int .i64 c, .int .i64 x, .string t, .slice a ks.length cap] 81))
  obtain ⟨s1, s2, s3⟩ := hS
  have HM := hide hks
  have HT := hide hT
  have G' := hide (And.intro g3 g4)
  have IH' := hide IH
  clear hks hT g3 g4 IH
  by_cases h1 : 2000 < s + 1 ∨ 20 < d
  · rw [wf_much h1]
    by_cases h2 : 2000 < s + 1
    · have h2' : (2000 : Int) < (s : Int) + 1 := by omega
      clear h1
      go_enter Tryz.func100, Tryz.ntmps100
      go_wp2
      go_ret
      exact ⟨rfl, unhide SI, unhide BI⟩
    · have h2' : ¬ (2000 : Int) < (s : Int) + 1 := by omega
      have h3' : (20 : Int) < (d : Int) := by omega
      clear h1
      go_enter Tryz.func100, Tryz.ntmps100
      go_wp2
      go_ret
      exact ⟨rfl, unhide SI, unhide BI⟩
  · have h2' : ¬ (2000 : Int) < (s : Int) + 1 := by omega
    have h3' : ¬ (20 : Int) < (d : Int) := by omega
    have H1 := hide h1
    clear h1
    by_cases k1 : k = 1
    · subst k1
      rw [wf_plain (unhide H1) (.inl rfl)]
      go_enter Tryz.func100, Tryz.ntmps100
      go_wp2
      go_ret
      exact ⟨rfl, unhide SI, unhide BI⟩
    by_cases k2 : k = 2
    · subst k2
      rw [wf_plain (unhide H1) (.inr rfl)]
      go_enter Tryz.func100, Tryz.ntmps100
      go_wp2
      go_ret
      exact ⟨rfl, unhide SI, unhide BI⟩
    by_cases k3 : k = 3
    · subst k3
      rw [wf_num (unhide H1)]
      go_enter Tryz.func100, Tryz.ntmps100
      go_wp2_with fail
      refine (wrong_any c x _).mono ?_
      rintro e w2 ⟨rfl, hb⟩
      go_wp2
      go_ret
      exact ⟨rfl, (unhide SI).below hb (unhide SI).2.2, (unhide BI).trans (hb.mono (Nat.le_trans hBw (unhide BI).size))⟩
    by_cases k4 : k = 4
    · subst k4
      rw [wf_text (unhide H1)]
      go_enter Tryz.func100, Tryz.ntmps100
      go_wp2_with fail
      refine (wrongText_any t _ ht (Tabs.below (unhide HT) (unhide BI) (unhide G').1 (unhide G').2)).mono ?_
      rintro e w2 ⟨rfl, hb⟩
      go_wp2
      go_ret
      exact ⟨rfl, (unhide SI).below hb (unhide SI).2.2, (unhide BI).trans (hb.mono (Nat.le_trans hBw (unhide BI).size))⟩
    by_cases k5 : k = 5
    · subst k5
      rw [wf_list (unhide H1)]
      by_cases hlong : 200 < ks.length
      · rw [if_pos hlong]
        have hlong' : (200 : Int) < (ks.length : Int) := by omega
        go_enter Tryz.func100, Tryz.ntmps100
        go_wp2_with fail
        refine (wrongList_long ks a cap _ p _ hlong').mono ?_
        rintro e w2 ⟨rfl, rfl⟩
        go_wp2
        go_ret
        exact ⟨rfl, unhide SI, unhide BI⟩
      · rw [if_neg hlong]
        by_cases hnil : ks = []
        · subst hnil
          rw [wrongL_nil]
          simp only [List.length_nil] at SI BI ⊢
          go_enter Tryz.func100, Tryz.ntmps100
          go_wp2_with fail
          refine (wrongList_nil a cap _ p _).mono ?_
          rintro e w2 ⟨rfl, rfl⟩
          go_wp2
          go_ret
          exact ⟨rfl, unhide SI, unhide BI⟩
        · obtain ⟨b, off, rfl, hbB, hm⟩ := unhide HM hnil
          have HC := hide (fun wx (hb : Below B w wx) (hS : St wx p (s + 1)) => wrongList_of ks (unhide IH') B wx b off cap p (s + 1) (d + 1) (MemL.below hb hbB hm) hbB (by omega) hp hS (by omega) (by omega) (by omega) (Tabs.below (unhide HT) hb (unhide G').1 (unhide G').2) (unhide G').1 (unhide G').2)
          rw [show ((d + 1 : Nat) : Int) = (d : Int) + 1 by omega] at HC
          clear hm hnil hlong
          go_enter Tryz.func100, Tryz.ntmps100
          go_wp2_with fail
          refine (unhide HC _ (unhide BI) (unhide SI)).mono ?_
          rintro e w2 ⟨rfl, hS2, hb2⟩
          go_wp2
          go_ret
          exact ⟨rfl, hS2, (unhide BI).trans hb2⟩
    · rw [wf_else (unhide H1) k1 k2 k3 k4 k5]
      go_enter Tryz.func100, Tryz.ntmps100
      go_wp2
      go_ret
      exact ⟨rfl, unhide SI, unhide BI⟩
end Go.Proofs.YtnegjbkbfgkkjaaGreatDoor

/- Walks: Wrong of every value; Less, Equal of two numbers and of two texts. -/
namespace Go.Proofs.YtnegjbkbfgkkjaaGreatDoor
open Go.RowKit

mutual
theorem wrong_all : ∀ T : Tree, WrongC T
  | .mk k y c x t ks => wrong_of k y c x t ks (fun u h => wrong_alls ks u h)
theorem wrong_alls : ∀ (ks : List Tree) (u : Tree), u ∈ ks → WrongC u
  | [], u, h => by cases h
  | v :: vs, u, h => by
    by_cases e : u = v
    · rw [e]; exact wrong_all v
    · exact wrong_alls vs u ((List.mem_cons.1 h).resolve_left e)
end
/-- the tables lie, and where -/
def TabsIn (B : Nat) (w : World) : Prop := Tabs w ∧ Tryz.laysValid_ren.g 3 < B ∧ Tryz.laysValid_ren.g 4 < B
theorem TabsIn.below {B : Nat} {w w' : World} (h : TabsIn B w) (hb : Below B w w') : TabsIn B w' := ⟨h.1.below hb h.2.1 h.2.2, h.2⟩

set_option maxHeartbeats 1000000 in
theorem logicWrong_any (T : Tree) (v : Array Value) (B : Nat) (w : World) (hB : B ≤ w.heap.size) (hM : Mem B w T v) (hT : TabsIn B w) :
    Calls Tryz.prog 78 #[.agg v] w fun e w' => e = .returned (.int .i64 (wrongF T 0 1).1) ∧ Below w.heap.size w w' := by
  have hM' := hide hM
  have HT := hide hT
  cases T with
  | mk k y c x t ks =>
    rw [Mem] at hM
    obtain ⟨_, _, a, cap, rfl, _⟩ := hM
    clear hT
    go_enter Tryz.func78, Tryz.ntmps78
    go_wp2_with fail
    have ba : ∀ o o' : Obj, Below w.heap.size w ((w.alloc o).alloc o') := fun o o' => ((Below.refl _ _).alloc (Nat.le_refl _) _).alloc (by simp) _
    have hb := ba (.cells #[.int .i64 k, .bool y, .int .i64 c, .int .i64 x, .string t, .slice a ks.length cap] 81) (.cells #[.int .i64 0] 172)
    refine (wrong_all (.mk k y c x t ks) w.heap.size _ _ (w.heap.size + 1) 0 1 (Mem.below hb (Mem.mono hB (unhide hM'))) (by omega) ⟨by simp [go_sem], by simp [go_sem], by simp⟩ (by omega) (by omega) (by omega) ?_ ?_ ?_).mono ?_
    · exact ((unhide HT).below (hb.mono hB)).1
    · exact Nat.lt_of_lt_of_le (unhide HT).2.1 hB
    · exact Nat.lt_of_lt_of_le (unhide HT).2.2 hB
    rintro e w2 ⟨rfl, _, hb2⟩
    go_wp2
    go_ret
    exact ⟨rfl, hb.trans hb2⟩

end Go.Proofs.YtnegjbkbfgkkjaaGreatDoor

/- Plain facts: when two trees are told the same. -/
namespace Go.Proofs.YtnegjbkbfgkkjaaGreatDoor

mutual
/-- what matching.equal tells (yes 2, not known 1, no 0), and how many pairs it has counted -/
def eqF : Tree → Tree → Nat → Nat → Nat × Nat
  | .mk k y c x t ks, .mk k' y' c' x' t' ks', s, d =>
    if 2000 < s + 1 ∨ 20 < d then (1, s + 1)
    else if k = 1 ∨ k' = 1 then (if k = k' then 2 else 0, s + 1)
    else if k = k' then
      (if k = 2 then (if y = y' then 2 else 0, s + 1)
      else if k = 3 then (if c = c' ∧ x = x' then 2 else 0, s + 1)
      else if k = 4 then (if t.toList = t'.toList then 2 else 0, s + 1)
      else if k = 5 then (if ks.length = ks'.length then eqL ks ks' 2 (s + 1) (d + 1) else (0, s + 1))
      else (1, s + 1))
    else (1, s + 1)
def eqL : List Tree → List Tree → Nat → Nat → Nat → Nat × Nat
  | [], _, a, s, _ => (a, s)
  | _ :: _, [], a, s, _ => (a, s)
  | u :: us, v :: vs, a, s, d => if min a (eqF u v s d).1 = 0 ∨ 2000 < (eqF u v s d).2 then (min a (eqF u v s d).1, (eqF u v s d).2) else eqL us vs (min a (eqF u v s d).1) (eqF u v s d).2 d
end

mutual
/-- what a value says, bare of what its kind has not -/
def bareT : Tree → Tree
  | .mk k y c x t ks => .mk k (if k = 2 then y else false) (if k = 3 then c else 0) (if k = 3 then x else 0) (if k = 4 then t else ⟨#[]⟩) (if k = 5 then bareL ks else [])
def bareL : List Tree → List Tree
  | [] => []
  | u :: us => bareT u :: bareL us
end
theorem bareL_len : ∀ ks : List Tree, (bareL ks).length = ks.length
  | [] => by rw [bareL]
  | u :: us => by rw [bareL, List.length_cons, List.length_cons, bareL_len us]

mutual
theorem eq_sym : ∀ (A B : Tree) (s d : Nat), eqF A B s d = eqF B A s d
  | .mk k y c x t ks, .mk k' y' c' x' t' ks', s, d => by
    rw [eqF, eqF]
    by_cases h1 : 2000 < s + 1 ∨ 20 < d
    · rw [if_pos h1, if_pos h1]
    rw [if_neg h1, if_neg h1]
    by_cases h2 : k = 1 ∨ k' = 1
    · rw [if_pos h2, if_pos (Or.comm.1 h2)]
      by_cases e : k = k'
      · rw [if_pos e, if_pos e.symm]
      · rw [if_neg e, if_neg (Ne.symm e)]
    rw [if_neg h2, if_neg (fun q => h2 (Or.comm.1 q))]
    by_cases e : k = k'
    · subst e
      rw [if_pos rfl, if_pos rfl, eqL_sym ks ks' 2 (s + 1) (d + 1)]
      simp only [eq_comm (a := y), eq_comm (a := c), eq_comm (a := x), eq_comm (a := t.toList), eq_comm (a := ks.length)]
    · rw [if_neg e, if_neg (Ne.symm e)]
theorem eqL_sym : ∀ (ks ks' : List Tree) (a s d : Nat), eqL ks ks' a s d = eqL ks' ks a s d
  | [], [], a, s, d => rfl
  | [], v :: vs, a, s, d => by rw [eqL, eqL]
  | u :: us, [], a, s, d => by rw [eqL, eqL]
  | u :: us, v :: vs, a, s, d => by
    rw [eqL, eqL, eq_sym u v s d, eqL_sym us vs]
end

mutual
theorem eq_le : ∀ (A B : Tree) (s d : Nat), (eqF A B s d).1 ≤ 2
  | .mk k y c x t ks, .mk k' y' c' x' t' ks', s, d => by
    rw [eqF]
    have h := eqL_le ks ks' 2 (s + 1) (d + 1) (Nat.le_refl _)
    (repeat' split) <;> first | exact h | (simp only; omega) | (simp only; split <;> omega)
theorem eqL_le : ∀ (ks ks' : List Tree) (a s d : Nat), a ≤ 2 → (eqL ks ks' a s d).1 ≤ 2
  | [], _, a, s, d, h => by rw [eqL]; exact h
  | u :: us, [], a, s, d, h => by rw [eqL]; exact h
  | u :: us, v :: vs, a, s, d, h => by
    rw [eqL]
    have h2 := eq_le u v s d
    split
    · simp only; omega
    · exact eqL_le us vs _ _ d (by omega)
end

mutual
theorem wrongF_ge : ∀ (T : Tree) (s d : Nat), s ≤ (wrongF T s d).2
  | .mk k y c x t ks, s, d => by
    rw [wrongF]
    have h := wrongL_ge ks (s + 1) (d + 1)
    (repeat' split) <;> (try simp only) <;> omega
theorem wrongL_ge : ∀ (ks : List Tree) (s d : Nat), s ≤ (wrongL ks s d).2
  | [], s, d => by rw [wrongL]; exact Nat.le_refl _
  | v :: vs, s, d => by
    rw [wrongL]
    have h := wrongF_ge v s d
    have h2 := wrongL_ge vs (wrongF v s d).2 d
    split <;> omega
end

theorem tl_eq {t t' : ByteArray} : t.toList = t'.toList ↔ t = t' := by
  constructor
  · intro h
    have e1 : t.data.toList = t'.data.toList := by rw [← Lib.toList_data, ← Lib.toList_data]; exact h
    cases t; cases t'
    simp only at e1
    rw [Array.toList_inj.1 e1]
  · intro h; rw [h]

mutual
/-- of right values: no bound is met, and yes is told of the same alone -/
theorem eq_ok : ∀ (A B : Tree) (s s0 d : Nat), s ≤ s0 → s0 ≤ 2000 → (wrongF A s0 d).1 = 0 → (eqF A B s d).2 ≤ (wrongF A s0 d).2 ∧ ((eqF A B s d).1 = 2 ↔ bareT A = bareT B)
  | .mk k y c x t ks, .mk k' y' c' x' t' ks', s, s0, d, hs, h0, hw => by
    rw [wrongF] at hw ⊢
    by_cases h1 : 2000 < s0 + 1 ∨ 20 < d
    · rw [if_pos h1] at hw; exact absurd hw (by simp)
    rw [if_neg h1] at hw ⊢
    rw [eqF, if_neg (by omega), bareT, bareT]
    by_cases hk : k = k'
    · subst hk
      by_cases k1 : k = 1
      · subst k1
        simp
        omega
      rw [if_neg (by omega), if_pos rfl]
      by_cases k2 : k = 2
      · subst k2
        by_cases e : y = y'
        · simp [e]; omega
        · simp [e]; omega
      rw [if_neg (by omega)] at hw ⊢
      rw [if_neg k2]
      by_cases k3 : k = 3
      · subst k3
        by_cases e : c = c' ∧ x = x'
        · simp [e]; omega
        · simp [e]; omega
      rw [if_neg k3] at hw ⊢
      rw [if_neg k3]
      by_cases k4 : k = 4
      · subst k4
        by_cases e : t = t'
        · simp [e]; omega
        · simp [e, tl_eq]; omega
      rw [if_neg k4] at hw ⊢
      rw [if_neg k4]
      by_cases k5 : k = 5
      · subst k5
        rw [if_pos rfl] at hw ⊢
        rw [if_pos rfl]
        by_cases l2 : 200 < ks.length
        · rw [if_pos l2] at hw; exact absurd hw (by simp)
        rw [if_neg l2] at hw ⊢
        by_cases e : ks.length = ks'.length
        · rw [if_pos e]
          obtain ⟨i1, i2⟩ := eqL_ok ks ks' 2 (s + 1) (s0 + 1) (d + 1) e (Nat.le_refl _) (by omega) (by omega) hw
          refine ⟨i1, ?_⟩
          rw [i2]
          simp
        · rw [if_neg e]
          have hm := wrongL_ge ks (s0 + 1) (d + 1)
          refine ⟨Nat.le_trans (by omega : s + 1 ≤ s0 + 1) hm, ?_⟩
          constructor
          · intro q; simp at q
          · intro q
            exfalso
            simp at q
            exact e (by rw [← bareL_len ks, q, bareL_len])
      · rw [if_neg k5] at hw; exact absurd hw (by simp)
    · have hn : ∀ a b c d e a' b' c' d' e', ¬ Tree.mk k a b c d e = Tree.mk k' a' b' c' d' e' := by
        intro a b c d e a' b' c' d' e' q
        injection q with q1
        exact hk q1
      have hge : s + 1 ≤ (if k = 1 ∨ k = 2 then (0, s0 + 1) else if k = 3 then (Dm.wrongN c x, s0 + 1) else if k = 4 then (wrongT t, s0 + 1) else if k = 5 then if 200 < ks.length then (5, s0 + 1) else wrongL ks (s0 + 1) (d + 1) else (1, s0 + 1) : Int × Nat).2 := by
        have := wrongL_ge ks (s0 + 1) (d + 1)
        (repeat' split) <;> (try simp only) <;> omega
      by_cases h2 : k = 1 ∨ k' = 1
      · rw [if_pos h2, if_neg hk]
        exact ⟨hge, ⟨fun q => by simp at q, fun q => absurd q (hn _ _ _ _ _ _ _ _ _ _)⟩⟩
      · rw [if_neg h2, if_neg hk]
        exact ⟨hge, ⟨fun q => by simp at q, fun q => absurd q (hn _ _ _ _ _ _ _ _ _ _)⟩⟩
theorem eqL_ok : ∀ (ks ks' : List Tree) (a s s0 d : Nat), ks.length = ks'.length → a ≤ 2 → s ≤ s0 → s0 ≤ 2000 → (wrongL ks s0 d).1 = 0 → (eqL ks ks' a s d).2 ≤ (wrongL ks s0 d).2 ∧ ((eqL ks ks' a s d).1 = 2 ↔ (a = 2 ∧ bareL ks = bareL ks'))
  | [], [], a, s, s0, d, _, _, hs, _, _ => by rw [eqL, wrongL]; simp; exact hs
  | [], v :: vs, a, s, s0, d, hl, _, _, _, _ => by simp at hl
  | u :: us, [], a, s, s0, d, hl, _, _, _, _ => by simp at hl
  | u :: us, v :: vs, a, s, s0, d, hl, ha, hs, h0, hw => by
    rw [wrongL] at hw ⊢
    by_cases hu : (wrongF u s0 d).1 = 0
    · rw [if_pos hu] at hw ⊢
      obtain ⟨i1, i2⟩ := eq_ok u v s s0 d hs h0 hu
      have hb := (wrongF_bd u s0 d h0).2 hu
      have hle := eq_le u v s d
      have hge := wrongL_ge us (wrongF u s0 d).2 d
      rw [eqL]
      have n2 : ¬ 2000 < (eqF u v s d).2 := by omega
      by_cases hz : min a (eqF u v s d).1 = 0
      · rw [if_pos (.inl hz)]
        refine ⟨by simp only; omega, ⟨fun q => by simp only at q; omega, ?_⟩⟩
        rintro ⟨rfl, q⟩
        rw [bareL, bareL] at q
        injection q with q1 q2
        have := i2.2 q1
        omega
      · rw [if_neg (by omega)]
        obtain ⟨j1, j2⟩ := eqL_ok us vs (min a (eqF u v s d).1) (eqF u v s d).2 (wrongF u s0 d).2 d (by simpa using hl) (by omega) i1 hb hw
        refine ⟨j1, ?_⟩
        rw [j2, bareL, bareL]
        constructor
        · rintro ⟨q1, q2⟩
          refine ⟨by omega, ?_⟩
          rw [i2.1 (by omega), q2]
        · rintro ⟨rfl, q⟩
          injection q with q1 q2
          have := i2.2 q1
          exact ⟨by omega, q2⟩
    · rw [if_neg hu] at hw; exact absurd hw hu
end
mutual
theorem bare_bare : ∀ A : Tree, bareT (bareT A) = bareT A
  | .mk k y c x t ks => by
    rw [bareT, bareT]
    by_cases k5 : k = 5
    · subst k5
      simp [bareL_bare ks]
    · simp only [if_neg k5]
      congr 1 <;> split <;> rfl
theorem bareL_bare : ∀ ks : List Tree, bareL (bareL ks) = bareL ks
  | [] => by rw [bareL, bareL]
  | u :: us => by rw [bareL, bareL, bare_bare u, bareL_bare us]
end

mutual
/-- what Same tells -/
def sameB : Tree → Tree → Bool
  | .mk k y c x t ks, .mk k' y' c' x' t' ks' => decide (k = k') && decide (y = y') && decide (c = c') && decide (x = x') && decide (t.toList = t'.toList) && decide (ks.length = ks'.length) && sameL ks ks'
def sameL : List Tree → List Tree → Bool
  | [], _ => true
  | _ :: _, [] => true
  | u :: us, v :: vs => sameB u v && sameL us vs
end
mutual
theorem same_iff : ∀ (A B : Tree), sameB A B = true ↔ A = B
  | .mk k y c x t ks, .mk k' y' c' x' t' ks' => by
    rw [sameB]
    simp only [Bool.and_eq_true, decide_eq_true_eq, tl_eq]
    constructor
    · rintro ⟨⟨⟨⟨⟨⟨rfl, rfl⟩, rfl⟩, rfl⟩, rfl⟩, hl⟩, hs⟩
      rw [(sameL_iff ks ks' hl).1 hs]
    · intro q
      injection q with q1 q2 q3 q4 q5 q6
      subst q1 q2 q3 q4 q5 q6
      exact ⟨⟨⟨⟨⟨⟨rfl, rfl⟩, rfl⟩, rfl⟩, rfl⟩, rfl⟩, (sameL_iff ks ks rfl).2 rfl⟩
theorem sameL_iff : ∀ (ks ks' : List Tree), ks.length = ks'.length → (sameL ks ks' = true ↔ ks = ks')
  | [], [], _ => by simp [sameL]
  | [], v :: vs, h => by simp at h
  | u :: us, [], h => by simp at h
  | u :: us, v :: vs, h => by
    rw [sameL, Bool.and_eq_true, same_iff u v, sameL_iff us vs (by simpa using h), List.cons.injEq]
end
end Go.Proofs.YtnegjbkbfgkkjaaGreatDoor

/- Plain: what the document's Equal tells (without a count), and that of right values matching tells the same. -/
namespace Go.Proofs.YtnegjbkbfgkkjaaGreatDoor

mutual
def eqP : Tree → Tree → Nat
  | .mk k y c x t ks, .mk k' y' c' x' t' ks' =>
    if k = 1 ∨ k' = 1 then (if k = k' then 2 else 0)
    else if k = k' then
      (if k = 2 then (if y = y' then 2 else 0)
      else if k = 3 then (if c = c' ∧ x = x' then 2 else 0)
      else if k = 4 then (if t.toList = t'.toList then 2 else 0)
      else if k = 5 then (if ks.length = ks'.length then eqPL ks ks' 2 else 0)
      else 0)
    else 1
def eqPL : List Tree → List Tree → Nat → Nat
  | [], _, a => a
  | _ :: _, [], a => a
  | u :: us, v :: vs, a => eqPL us vs (min a (eqP u v))
end

theorem eqPL_zero : ∀ (us vs : List Tree), eqPL us vs 0 = 0
  | [], _ => by rw [eqPL]
  | _ :: _, [] => by rw [eqPL]
  | u :: us, v :: vs => by rw [eqPL, Nat.zero_min, eqPL_zero us vs]

mutual
theorem eqP_le : ∀ (A B : Tree), eqP A B ≤ 2
  | .mk k y c x t ks, .mk k' y' c' x' t' ks' => by
    rw [eqP]
    have h := eqPL_le ks ks' 2 (Nat.le_refl _)
    (repeat' split) <;> omega
theorem eqPL_le : ∀ (ks ks' : List Tree) (a : Nat), a ≤ 2 → eqPL ks ks' a ≤ 2
  | [], _, a, h => by rw [eqPL]; exact h
  | u :: us, [], a, h => by rw [eqPL]; exact h
  | u :: us, v :: vs, a, h => by
    rw [eqPL]
    exact eqPL_le us vs _ (by omega)
end

mutual
/-- of right values the two tell the same -/
theorem eqp_same : ∀ (A B : Tree) (s s0 d : Nat), s ≤ s0 → s0 ≤ 2000 → (wrongF A s0 d).1 = 0 → (eqF A B s d).1 = eqP A B
  | .mk k y c x t ks, .mk k' y' c' x' t' ks', s, s0, d, hs, h0, hw => by
    rw [wrongF] at hw
    by_cases h1 : 2000 < s0 + 1 ∨ 20 < d
    · rw [if_pos h1] at hw; exact absurd hw (by simp)
    rw [if_neg h1] at hw
    rw [eqF, if_neg (by omega), eqP]
    by_cases h2 : k = 1 ∨ k' = 1
    · rw [if_pos h2, if_pos h2]
    rw [if_neg h2, if_neg h2]
    by_cases hk : k = k'
    · subst hk
      rw [if_pos rfl, if_pos rfl]
      by_cases k2 : k = 2
      · rw [if_pos k2, if_pos k2]
      rw [if_neg k2, if_neg k2]
      by_cases k3 : k = 3
      · rw [if_pos k3, if_pos k3]
      rw [if_neg k3, if_neg k3]
      by_cases k4 : k = 4
      · rw [if_pos k4, if_pos k4]
      rw [if_neg k4, if_neg k4]
      by_cases k5 : k = 5
      · rw [if_pos k5, if_pos k5]
        rw [if_neg (by omega), if_neg k3, if_neg k4, if_pos k5] at hw
        by_cases l2 : 200 < ks.length
        · rw [if_pos l2] at hw; exact absurd hw (by simp)
        rw [if_neg l2] at hw
        by_cases e : ks.length = ks'.length
        · rw [if_pos e, if_pos e]
          exact eqpL_same ks ks' 2 (s + 1) (s0 + 1) (d + 1) e (Nat.le_refl _) (by omega) (by omega) hw
        · rw [if_neg e, if_neg e]
      · rw [if_neg (by omega), if_neg k3, if_neg k4, if_neg k5] at hw; exact absurd hw (by simp)
    · rw [if_neg hk, if_neg hk]
theorem eqpL_same : ∀ (ks ks' : List Tree) (a s s0 d : Nat), ks.length = ks'.length → a ≤ 2 → s ≤ s0 → s0 ≤ 2000 → (wrongL ks s0 d).1 = 0 → (eqL ks ks' a s d).1 = eqPL ks ks' a
  | [], [], a, s, s0, d, _, _, hs, _, _ => by rw [eqL, eqPL]
  | [], v :: vs, a, s, s0, d, hl, _, _, _, _ => by simp at hl
  | u :: us, [], a, s, s0, d, hl, _, _, _, _ => by simp at hl
  | u :: us, v :: vs, a, s, s0, d, hl, ha, hs, h0, hw => by
    rw [wrongL] at hw
    by_cases hu : (wrongF u s0 d).1 = 0
    · rw [if_pos hu] at hw
      obtain ⟨i1, _⟩ := eq_ok u v s s0 d hs h0 hu
      have i3 := eqp_same u v s s0 d hs h0 hu
      have hb := (wrongF_bd u s0 d h0).2 hu
      rw [eqL, eqPL, i3]
      by_cases hz : min a (eqP u v) = 0
      · rw [if_pos (.inl hz), hz, eqPL_zero]
      · rw [if_neg (by omega)]
        have := eqP_le u v
        exact eqpL_same us vs _ _ (wrongF u s0 d).2 d (by simpa using hl) (by omega) i1 hb hw
    · rw [if_neg hu] at hw; exact absurd hw hu
end
end Go.Proofs.YtnegjbkbfgkkjaaGreatDoor

/- In plain words: what Less tells of two right values. -/
namespace Go.Proofs.YtnegjbkbfgkkjaaGreatDoor
open Go.RowKit

/-- what Less tells of two right values -/
def lessH : Tree → Tree → Nat
  | .mk k _ c x t _, .mk k' _ c' x' t' _ => if k = k' ∧ k = 3 then (if Dm.sgn (Dm.V c x - Dm.V c' x') < 0 then 2 else 0) else if k = k' ∧ k = 4 then (if Op.bytesLess t.toList t'.toList = true then 2 else 0) else 1
theorem lessH_le (A B : Tree) : lessH A B ≤ 2 := by
  obtain ⟨k, y, c, x, t, ks⟩ := A
  obtain ⟨k', y', c', x', t', ks'⟩ := B
  rw [lessH]
  (repeat' split) <;> omega
end Go.Proofs.YtnegjbkbfgkkjaaGreatDoor

/- Tests as trees: what is wrong with one, what it says of a value, of which types it may be asked; how it lies in memory (sixteen cells a node). -/
namespace Go.Proofs.YtnegjbkbfgkkjaaGreatDoor
open Go.RowKit

inductive TS where
  | mk (k : Int) (a b : Tree) (oa ob : Bool) (ks : List TS)

def Tree.kd : Tree → Int | .mk k _ _ _ _ _ => k
/-- a number that may stand in a test -/
def inR (c x : Int) : Prop := Dm.sgn (Dm.V (max c (-c)) x - Dm.V 1 9) ≤ 0 ∧ -6 ≤ x
instance (c x : Int) : Decidable (inR c x) := by unfold inR; infer_instance
/-- what is wrong with a value in a test -/
def valW : Tree → Int
  | .mk k y c x t ks => if (wrongF (.mk k y c x t ks) 0 1).1 = 0 then (if k = 5 then 8 else if k = 3 ∧ ¬ inR c x then 3 else 0) else (wrongF (.mk k y c x t ks) 0 1).1
def oneW (a : Tree) : Int := if valW a = 0 then (if a.kd = 3 ∨ a.kd = 4 then 0 else 9) else valW a
def twoW (a b : Tree) : Int := if valW a = 0 then (if valW b = 0 then (if a.kd = 3 ∨ a.kd = 4 then (if b.kd = a.kd then 0 else 9) else 9) else valW b) else valW a

mutual
def wrongS : TS → Nat → Int
  | .mk k a b _ _ ks, d => if 4 < d then 4 else if k < 1 ∨ 9 < k then 1 else if k = 8 ∨ k = 9 then (if ks.length < 1 ∨ 20 < ks.length then 5 else wrongSL ks (d + 1))
    else if k = 1 then 0 else if k = 2 then valW a else if k = 7 then twoW a b else oneW a
def wrongSL : List TS → Nat → Int
  | [], _ => 0
  | u :: us, d => if wrongS u d = 0 then wrongSL us d else wrongS u d
end

mutual
/-- what a right test says of a right value, in halves -/
def doesS : TS → Tree → Nat
  | .mk k a b oa ob ks, v => if k = 1 then 2 else if k = 2 then eqP v a else if k = 3 then lessH v a else if k = 4 then 2 - lessH a v else if k = 5 then lessH a v else if k = 6 then 2 - lessH v a
    else if k = 7 then min (if oa = true then lessH a v else 2 - lessH v a) (if ob = true then lessH v b else 2 - lessH b v) else if k = 8 then doesL ks v else 2 - doesL ks v
def doesL : List TS → Tree → Nat
  | [], _ => 0
  | u :: us, v => max (doesS u v) (doesL us v)
end

def fitV (k ty : Int) : Bool := k == 1 || ty == 6 || (k == 2 && ty == 2) || (k == 3 && ty == 3) || (k == 4 && ty == 4)
mutual
def fitsS : TS → Int → Bool
  | .mk k a _ _ _ ks, ty => if k = 1 then true else if k = 8 ∨ k = 9 then fitsL ks ty else fitV a.kd ty
def fitsL : List TS → Int → Bool
  | [], _ => true
  | u :: us, ty => fitsS u ty && fitsL us ty
end

mutual
theorem doesS_le : ∀ (T : TS) (v : Tree), doesS T v ≤ 2
  | .mk k a b oa ob ks, v => by
    rw [doesS]
    have h1 := lessH_le v a
    have h2 := lessH_le a v
    have h3 := lessH_le v b
    have h4 := lessH_le b v
    have h5 := eqP_le v a
    have h6 := doesL_le ks v
    repeat' split
    all_goals omega
theorem doesL_le : ∀ (ks : List TS) (v : Tree), doesL ks v ≤ 2
  | [], v => by rw [doesL]; omega
  | u :: us, v => by
    rw [doesL]
    have h1 := doesS_le u v
    have h2 := doesL_le us v
    omega
end

/-- sixteen cells in a row -/
structure C16 (w : World) (b o : Nat) (u : Array Value) : Prop where
  size : u.size = 16
  cell : ∀ i v, u[i]? = some v → w.cell? ⟨b, o + i, none⟩ = some v
theorem C16.below {B : Nat} {w w' : World} {b o : Nat} {u : Array Value} (h : C16 w b o u) (hb : Below B w w') (l : b < B) : C16 w' b o u :=
  ⟨h.size, fun i v hv => (hb.cell (p := ⟨b, o + i, none⟩) l).trans (h.cell i v hv)⟩

theorem C16.tell {w : World} {b o : Nat} {v0 v1 v2 v3 v4 v5 v6 v7 v8 v9 v10 v11 v12 v13 v14 v15 : Value} (h : C16 w b o #[v0, v1, v2, v3, v4, v5, v6, v7, v8, v9, v10, v11, v12, v13, v14, v15]) :
    w.cell? ⟨b, o, none⟩ = some v0 ∧ w.cell? ⟨b, o + 1, none⟩ = some v1 ∧ w.cell? ⟨b, o + 2, none⟩ = some v2 ∧ w.cell? ⟨b, o + 3, none⟩ = some v3 ∧ w.cell? ⟨b, o + 4, none⟩ = some v4 ∧ w.cell? ⟨b, o + 5, none⟩ = some v5 ∧ w.cell? ⟨b, o + 6, none⟩ = some v6 ∧ w.cell? ⟨b, o + 7, none⟩ = some v7 ∧ w.cell? ⟨b, o + 8, none⟩ = some v8 ∧ w.cell? ⟨b, o + 9, none⟩ = some v9 ∧ w.cell? ⟨b, o + 10, none⟩ = some v10 ∧ w.cell? ⟨b, o + 11, none⟩ = some v11 ∧ w.cell? ⟨b, o + 12, none⟩ = some v12 ∧ w.cell? ⟨b, o + 13, none⟩ = some v13 ∧ w.cell? ⟨b, o + 14, none⟩ = some v14 ∧ w.cell? ⟨b, o + 15, none⟩ = some v15 :=
  ⟨h.cell 0 _ rfl, h.cell 1 _ rfl, h.cell 2 _ rfl, h.cell 3 _ rfl, h.cell 4 _ rfl, h.cell 5 _ rfl, h.cell 6 _ rfl, h.cell 7 _ rfl, h.cell 8 _ rfl, h.cell 9 _ rfl, h.cell 10 _ rfl, h.cell 11 _ rfl, h.cell 12 _ rfl, h.cell 13 _ rfl, h.cell 14 _ rfl, h.cell 15 _ rfl⟩
/-- a block of a test's sixteen cells that is carried along -/
structure B16 (w : World) (b : Nat) (u : Array Value) : Prop where
  low : b < w.heap.size
  cell : ∀ i v, u[i]? = some v → w.cell? ⟨b, i, none⟩ = some v
theorem B16.keep {w w' : World} {b n : Nat} {u : Array Value} (h : B16 w b u) (hb : Below n w w') (l : b < n) : B16 w' b u :=
  ⟨Nat.lt_of_lt_of_le h.low hb.size, fun i v hv => (hb.cell (p := ⟨b, i, none⟩) l).trans (h.cell i v hv)⟩
theorem B16.tell {w : World} {b : Nat} {v0 v1 v2 v3 v4 v5 v6 v7 v8 v9 v10 v11 v12 v13 v14 v15 : Value} (h : B16 w b #[v0, v1, v2, v3, v4, v5, v6, v7, v8, v9, v10, v11, v12, v13, v14, v15]) :
    w.cell? ⟨b, 0, none⟩ = some v0 ∧ w.cell? ⟨b, 1, none⟩ = some v1 ∧ w.cell? ⟨b, 2, none⟩ = some v2 ∧ w.cell? ⟨b, 3, none⟩ = some v3 ∧ w.cell? ⟨b, 4, none⟩ = some v4 ∧ w.cell? ⟨b, 5, none⟩ = some v5 ∧ w.cell? ⟨b, 6, none⟩ = some v6 ∧ w.cell? ⟨b, 7, none⟩ = some v7 ∧ w.cell? ⟨b, 8, none⟩ = some v8 ∧ w.cell? ⟨b, 9, none⟩ = some v9 ∧ w.cell? ⟨b, 10, none⟩ = some v10 ∧ w.cell? ⟨b, 11, none⟩ = some v11 ∧ w.cell? ⟨b, 12, none⟩ = some v12 ∧ w.cell? ⟨b, 13, none⟩ = some v13 ∧ w.cell? ⟨b, 14, none⟩ = some v14 ∧ w.cell? ⟨b, 15, none⟩ = some v15 :=
  ⟨h.cell 0 _ rfl, h.cell 1 _ rfl, h.cell 2 _ rfl, h.cell 3 _ rfl, h.cell 4 _ rfl, h.cell 5 _ rfl, h.cell 6 _ rfl, h.cell 7 _ rfl, h.cell 8 _ rfl, h.cell 9 _ rfl, h.cell 10 _ rfl, h.cell 11 _ rfl, h.cell 12 _ rfl, h.cell 13 _ rfl, h.cell 14 _ rfl, h.cell 15 _ rfl⟩
theorem B16.new {w : World} {t : TypeId} {u : Array Value} : B16 (w.alloc (.cells u t)) w.heap.size u :=
  ⟨by simp, fun i v hv => by simp [go_sem, hv]⟩
theorem B16.over {w : World} {b : Nat} {u : Array Value} {o : Obj} (h : B16 w b u) : B16 (w.alloc o) b u := h.keep (vbelow_new _ _) h.low

mutual
/-- a test in memory, below B -/
def MemS (B : Nat) (w : World) : TS → Array Value → Prop
  | .mk k a b oa ob ks, v => ks.length ≤ 9223372036854775807 ∧ ∃ (a0 a1 a2 a3 a4 a5 b0 b1 b2 b3 b4 b5 : Value) (ad : Option Addr) (cap : Nat), Mem B w a #[a0, a1, a2, a3, a4, a5] ∧ Mem B w b #[b0, b1, b2, b3, b4, b5] ∧
    v = #[.int .i64 k, a0, a1, a2, a3, a4, a5, b0, b1, b2, b3, b4, b5, .bool oa, .bool ob, .slice ad ks.length cap] ∧ (ks ≠ [] → ∃ bl off, ad = some ⟨bl, off, none⟩ ∧ bl < B ∧ MemSL B w ks bl off)
def MemSL (B : Nat) (w : World) : List TS → Nat → Nat → Prop
  | [], _, _ => True
  | u :: us, b, off => (∃ cs, C16 w b off cs ∧ MemS B w u cs) ∧ MemSL B w us b (off + 16)
end

mutual
theorem MemS.below {B : Nat} {w w' : World} (hb : Below B w w') : ∀ {T : TS} {v : Array Value}, MemS B w T v → MemS B w' T v
  | .mk k a b oa ob ks, v, h => by
    rw [MemS] at h ⊢
    obtain ⟨h1, a0, a1, a2, a3, a4, a5, b0, b1, b2, b3, b4, b5, ad, cap, ha, hb', hv, hk⟩ := h
    refine ⟨h1, a0, a1, a2, a3, a4, a5, b0, b1, b2, b3, b4, b5, ad, cap, Mem.below hb ha, Mem.below hb hb', hv, fun hne => ?_⟩
    obtain ⟨bl, off, e, hlt, hm⟩ := hk hne
    exact ⟨bl, off, e, hlt, MemSL.below hb hlt hm⟩
theorem MemSL.below {B : Nat} {w w' : World} (hb : Below B w w') : ∀ {ks : List TS} {b off : Nat}, b < B → MemSL B w ks b off → MemSL B w' ks b off
  | [], _, _, _, _ => by rw [MemSL]; trivial
  | u :: us, b, off, hlt, h => by
    rw [MemSL] at h ⊢
    obtain ⟨⟨cs, h6, hm⟩, hr⟩ := h
    exact ⟨⟨cs, h6.below hb hlt, MemS.below hb hm⟩, MemSL.below hb hlt hr⟩
end
mutual
theorem MemS.mono {B B' : Nat} {w : World} (hB : B ≤ B') : ∀ {T : TS} {v : Array Value}, MemS B w T v → MemS B' w T v
  | .mk k a b oa ob ks, v, h => by
    rw [MemS] at h ⊢
    obtain ⟨h1, a0, a1, a2, a3, a4, a5, b0, b1, b2, b3, b4, b5, ad, cap, ha, hb', hv, hk⟩ := h
    refine ⟨h1, a0, a1, a2, a3, a4, a5, b0, b1, b2, b3, b4, b5, ad, cap, Mem.mono hB ha, Mem.mono hB hb', hv, fun hne => ?_⟩
    obtain ⟨bl, off, e, hlt, hm⟩ := hk hne
    exact ⟨bl, off, e, Nat.lt_of_lt_of_le hlt hB, MemSL.mono hB hm⟩
theorem MemSL.mono {B B' : Nat} {w : World} (hB : B ≤ B') : ∀ {ks : List TS} {b off : Nat}, MemSL B w ks b off → MemSL B' w ks b off
  | [], _, _, _ => by rw [MemSL]; trivial
  | u :: us, b, off, h => by
    rw [MemSL] at h ⊢
    obtain ⟨⟨cs, h6, hm⟩, hr⟩ := h
    exact ⟨⟨cs, h6, MemS.mono hB hm⟩, MemSL.mono hB hr⟩
end
theorem MemSL.at {B : Nat} {w : World} : ∀ {ks : List TS} {b off : Nat}, MemSL B w ks b off → ∀ (i : Nat) (u : TS), ks[i]? = some u → ∃ cs, C16 w b (off + i * 16) cs ∧ MemS B w u cs
  | [], b, off, _, i, u, hi => by simp at hi
  | v :: vs, b, off, h, 0, u, hi => by
    rw [MemSL] at h
    simp only [List.getElem?_cons_zero, Option.some.injEq] at hi
    subst hi
    simpa using h.1
  | v :: vs, b, off, h, i + 1, u, hi => by
    rw [MemSL] at h
    obtain ⟨cs, h6, hm⟩ := MemSL.at h.2 i u (by simpa using hi)
    exact ⟨cs, by rw [show off + (i + 1) * 16 = off + 16 + i * 16 by omega]; exact h6, hm⟩
theorem MemS.grow {w w' : World} {T : TS} {v : Array Value} (h : MemS w.heap.size w T v) (hb : Below w.heap.size w w') : MemS w'.heap.size w' T v :=
  (h.below hb).mono hb.size
theorem Mem.six {B : Nat} {w : World} {T : Tree} {a0 a1 a2 a3 a4 a5 : Value} (h : Mem B w T #[a0, a1, a2, a3, a4, a5]) :
    ∃ (y : Bool) (c x : Int) (t : ByteArray) (l : Option Addr) (n m : Nat), a0 = .int .i64 T.kd ∧ a1 = .bool y ∧ a2 = .int .i64 c ∧ a3 = .int .i64 x ∧ a4 = .string t ∧ a5 = .slice l n m := by
  obtain ⟨k, y, c, x, t, ks⟩ := T
  rw [Mem] at h
  obtain ⟨_, _, a, cap, e, _⟩ := h
  simp only [Array.mk.injEq, List.cons.injEq, and_true] at e
  obtain ⟨e0, e1, e2, e3, e4, e5⟩ := e
  exact ⟨y, c, x, t, a, ks.length, cap, e0, e1, e2, e3, e4, e5⟩
theorem tdrop_at {ks : List Tree} {m : Nat} {u : Tree} (hlt : m < ks.length) (hu : ks[m]? = some u) : ks.drop m = u :: ks.drop (m + 1) := by
  rw [List.drop_eq_getElem_cons hlt]
  congr 1
  rw [List.getElem?_eq_getElem hlt] at hu
  exact Option.some.inj hu
theorem bv {w0 wp w1 : World} (h : Below w0.heap.size w0 wp) (k : Below wp.heap.size wp w1) : Below w0.heap.size w0 w1 := h.trans (k.mono h.size)
theorem sdrop_at {ks : List TS} {m : Nat} {u : TS} (hlt : m < ks.length) (hu : ks[m]? = some u) : ks.drop m = u :: ks.drop (m + 1) := by
  rw [List.drop_eq_getElem_cons hlt]
  congr 1
  rw [List.getElem?_eq_getElem hlt] at hu
  exact Option.some.inj hu
end Go.Proofs.YtnegjbkbfgkkjaaGreatDoor

/- Walks: what is wrong with a value in a test, and with values that others are less or more than, as the program tells. -/
namespace Go.Proofs.YtnegjbkbfgkkjaaGreatDoor
open Go.RowKit

theorem wrongN_abs {c x : Int} (h : Dm.wrongN c x = 0) : Dm.wrongN (max c (-c)) x = 0 := by
  rcases Int.le_total 0 c with h0 | h0
  · rw [show max c (-c) = c by omega]; exact h
  · rw [show max c (-c) = -c by omega]
    unfold Dm.wrongN at h ⊢
    rw [Int.neg_tmod]
    split at h
    · cases h
    split at h
    · cases h
    · rw [if_neg (by omega), if_neg (by omega)]

set_option maxHeartbeats 2000000 in
theorem inRange_any (c x : Int) (w : World) (h : Dm.wrongN c x = 0) :
    Calls Tryz.prog 136 #[.agg #[.int .i64 c, .int .i64 x]] w fun e w' => e = .returned (.bool (decide (inR c x))) ∧ Below w.heap.size w w' := by
  have CM := hide (fun wx => cmp_ok (max c (-c)) x 1 9 wx (wrongN_abs h) (by decide))
  obtain ⟨p1, p2, p3, p4, _⟩ := Dm.wrong_ok h
  have hn : IntKind.i64.wrap (-c) = -c := by rw [IntKind.wrap_i64]; omega
  have hd : decide (inR c x) = (decide (Dm.sgn (Dm.V (max c (-c)) x - Dm.V 1 9) ≤ 0) && decide (-6 ≤ x)) := by
    by_cases h1 : Dm.sgn (Dm.V (max c (-c)) x - Dm.V 1 9) ≤ 0 <;> by_cases h2 : -6 ≤ x <;> simp only [inR, h1, h2, and_true, and_false, decide_true, decide_false, Bool.and_true, Bool.and_false]
  rw [hd]
  generalize Dm.sgn (Dm.V (max c (-c)) x - Dm.V 1 9) = g at *
  clear hd h p1 p2 p3 p4
  go_enter Tryz.func136, Tryz.ntmps136
  go_wp2_with fail
  refine (unhide CM _).mono ?_
  rintro e w1 ⟨rfl, hb⟩
  have B2 := (vbelow_new w (.cells #[.int .i64 (max c (-c)), .int .i64 x] 78))
  have HB := hide (bv (bv B2 (vbelow_new _ (.cells #[.int .i64 1, .int .i64 9] 78))) hb)
  have q1 : w1.cell? ⟨w.heap.size, 1, none⟩ = some (.int .i64 x) := (hb.cell (p := ⟨w.heap.size, 1, none⟩) (by simp; omega)).trans (by simp [go_sem])
  clear hb B2 CM
  by_cases h1 : g ≤ 0
  · by_cases h2 : -6 ≤ x
    · go_wp2
      go_ret
      exact ⟨by simp [h1, h2], unhide HB⟩
    · go_wp2
      go_ret
      exact ⟨by simp; omega, unhide HB⟩
  · go_wp2
    go_ret
    exact ⟨by simp; omega, unhide HB⟩

/-- what is known when Wrong of a number tells nothing -/
theorem wf_num0 {y : Bool} {c x : Int} {t : ByteArray} {ks : List Tree} (h : (wrongF (.mk 3 y c x t ks) 0 1).1 = 0) : Dm.wrongN c x = 0 := by
  rw [wf_num (by omega)] at h
  exact h

set_option maxHeartbeats 2000000 in
theorem wrongValue_any (T : Tree) (v : Array Value) (B : Nat) (w : World) (hB : B ≤ w.heap.size) (hM : Mem B w T v) (hT : TabsIn B w) :
    Calls Tryz.prog 103 #[.agg v] w fun e w' => e = .returned (.int .i64 (valW T)) ∧ Below w.heap.size w w' := by
  have LW := hide (fun wx (hb : Below w.heap.size w wx) => logicWrong_any T v B wx (Nat.le_trans hB hb.size) (Mem.below (hb.mono hB) hM) (hT.below (hb.mono hB)))
  obtain ⟨k, y, c, x, t, ks⟩ := T
  rw [Mem] at hM
  obtain ⟨_, _, a, cap, rfl, _⟩ := hM
  have HV := hide (show valW (.mk k y c x t ks) = _ from by rw [valW])
  have HN : Hid (k = 3 → (wrongF (.mk k y c x t ks) 0 1).1 = 0 → Dm.wrongN c x = 0) := hide fun e h => by subst e; exact wf_num0 h
  generalize (wrongF (.mk k y c x t ks) 0 1).1 = W at *
  generalize valW (.mk k y c x t ks) = R at *
  clear hT
  go_enter Tryz.func103, Tryz.ntmps103
  go_wp2_with fail
  refine (unhide LW _ (vbelow_new _ _)).mono ?_
  rintro e w1 ⟨rfl, hb⟩
  have HB := hide (bv (vbelow_new w _) hb)
  have BX := Box.new.keep hb (by simp)
  obtain ⟨q0, q1, q2, q3, q4, q5⟩ := BX.tell
  clear hb BX LW
  by_cases h0 : W = 0
  · subst h0
    by_cases k5 : k = 5
    · subst k5
      have HE : Hid (R = 8) := hide (by rw [unhide HV, if_pos rfl, if_pos rfl])
      go_wp2
      go_ret
      rw [unhide HE]
      exact ⟨rfl, unhide HB⟩
    by_cases k3 : k = 3
    · subst k3
      have IR := hide (fun wx => inRange_any c x wx (unhide HN rfl rfl))
      by_cases hr : inR c x
      · have HE : Hid (R = 0) := hide (by rw [unhide HV, if_pos rfl, if_neg (by decide), if_neg (fun h => h.2 hr)])
        rw [decide_eq_true hr] at IR
        go_wp2_with fail
        refine (unhide IR _).mono ?_
        rintro e w2 ⟨rfl, hb⟩
        have HB2 := hide (bv (unhide HB) hb)
        clear hb
        go_wp2
        go_ret
        rw [unhide HE]
        exact ⟨rfl, unhide HB2⟩
      · have HE : Hid (R = 3) := hide (by rw [unhide HV, if_pos rfl, if_neg (by decide), if_pos ⟨rfl, hr⟩])
        rw [decide_eq_false hr] at IR
        go_wp2_with fail
        refine (unhide IR _).mono ?_
        rintro e w2 ⟨rfl, hb⟩
        have HB2 := hide (bv (unhide HB) hb)
        clear hb
        go_wp2
        go_ret
        rw [unhide HE]
        exact ⟨rfl, unhide HB2⟩
    · have HE : Hid (R = 0) := hide (by rw [unhide HV, if_pos rfl, if_neg k5, if_neg (fun h => k3 h.1)])
      have k5' : (k == 5) = false := by simpa using k5
      have k3' : (k == 3) = false := by simpa using k3
      go_wp2
      go_ret
      rw [unhide HE]
      exact ⟨rfl, unhide HB⟩
  · have HE : Hid (R = W) := hide (by rw [unhide HV, if_neg h0])
    have h0' : (W != 0) = true := by simp [h0]
    clear q0 q1 q2 q3 q4 q5
    go_wp2
    go_ret
    rw [unhide HE]
    exact ⟨rfl, unhide HB⟩
end Go.Proofs.YtnegjbkbfgkkjaaGreatDoor
