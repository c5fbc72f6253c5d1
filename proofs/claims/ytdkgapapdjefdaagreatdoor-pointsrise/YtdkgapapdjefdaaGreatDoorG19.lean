/- Values as trees: what is wrong with one, how it lies in memory. -/
import Derived.Test.YtdkgapapdjefdaaGreatDoorG08
import Derived.Test.YtdkgapapdjefdaaGreatDoorG09
import Derived.Shelf.Unicode.ValidAny
namespace Go.Proofs.YtdkgapapdjefdaaGreatDoor
open Go.RowKit Go.Shelf Go.Lib

def wrongT (t : ByteArray) : Int := if (1000 : Int) < (t.size : Int) then 4 else if Lib.validD t.data.toList then 0 else 2

mutual
def wrongF : Tree → Nat → Nat → Int × Nat
  | .mk k _ c x t ks, s, d =>
    if 2000 < s + 1 ∨ 20 < d then (4, s + 1) else if k = 1 ∨ k = 2 then (0, s + 1) else if k = 3 then (Dm.wrongN c x, s + 1) else if k = 4 then (wrongT t, s + 1)
    else if k = 5 then (if 200 < ks.length then (5, s + 1) else wrongL ks (s + 1) (d + 1)) else (1, s + 1)
def wrongL : List Tree → Nat → Nat → Int × Nat
  | [], s, _ => (0, s)
  | v :: vs, s, d => if (wrongF v s d).1 = 0 then wrongL vs (wrongF v s d).2 d else wrongF v s d
end

mutual
theorem wrongF_bd : ∀ (T : Tree) (s d : Nat), s ≤ 2000 → (wrongF T s d).2 ≤ 2001 ∧ ((wrongF T s d).1 = 0 → (wrongF T s d).2 ≤ 2000)
  | .mk k y c x t ks, s, d, hs => by
    rw [wrongF]
    by_cases h1 : 2000 < s + 1 ∨ 20 < d
    · rw [if_pos h1]; exact ⟨by simp; omega, fun h => by simp at h⟩
    rw [if_neg h1]
    by_cases h2 : k = 1 ∨ k = 2
    · rw [if_pos h2]; exact ⟨by simp; omega, fun _ => by simp; omega⟩
    rw [if_neg h2]
    by_cases h3 : k = 3
    · rw [if_pos h3]; exact ⟨by simp; omega, fun _ => by simp; omega⟩
    rw [if_neg h3]
    by_cases h4 : k = 4
    · rw [if_pos h4]; exact ⟨by simp; omega, fun _ => by simp; omega⟩
    rw [if_neg h4]
    by_cases h5 : k = 5
    · rw [if_pos h5]
      by_cases h6 : 200 < ks.length
      · rw [if_pos h6]; exact ⟨by simp; omega, fun _ => by simp; omega⟩
      · rw [if_neg h6]; exact wrongL_bd ks (s + 1) (d + 1) (by omega)
    · rw [if_neg h5]; exact ⟨by simp; omega, fun _ => by simp; omega⟩
theorem wrongL_bd : ∀ (ks : List Tree) (s d : Nat), s ≤ 2000 → (wrongL ks s d).2 ≤ 2001 ∧ ((wrongL ks s d).1 = 0 → (wrongL ks s d).2 ≤ 2000)
  | [], s, d, hs => by rw [wrongL]; exact ⟨by simp; omega, fun _ => by simp; omega⟩
  | v :: vs, s, d, hs => by
    rw [wrongL]
    have h := wrongF_bd v s d hs
    by_cases h1 : (wrongF v s d).1 = 0
    · rw [if_pos h1]; exact wrongL_bd vs _ d (h.2 h1)
    · rw [if_neg h1]; exact h
end

/-- the library's two tables -/
def Tabs (w : World) : Prop := Lib.Utf8Tabs (Tryz.laysValid_ren.g 3) (Tryz.laysValid_ren.g 4) w
theorem Tabs.below {B : Nat} {w w' : World} (h : Tabs w) (hb : Below B w w') (l3 : Tryz.laysValid_ren.g 3 < B) (l4 : Tryz.laysValid_ren.g 4 < B) : Tabs w' := by
  obtain ⟨h1, h2⟩ := h
  refine ⟨fun c hc => (hb.cell (p := ⟨_, c, none⟩) l3).trans (h1 c hc), fun i hi => ⟨(hb.cell (p := ⟨_, 2 * i, none⟩) l4).trans (h2 i hi).1, (hb.cell (p := ⟨_, 2 * i + 1, none⟩) l4).trans (h2 i hi).2⟩⟩

set_option maxHeartbeats 1000000 in
theorem wrongText_any (t : ByteArray) (w : World) (hs : t.size ≤ 9223372036854775807) (hT : Tabs w) :
    Calls Tryz.prog 62 #[.string t] w fun e w' => e = .returned (.int .i64 (wrongT t)) ∧ Below w.heap.size w w' := by
  have cV : Calls Tryz.prog 94 #[.string t] w _ := Any.utf8_ValidString Tryz.laysValid t w hs hT
  unfold wrongT
  generalize Lib.validD t.data.toList = V at cV ⊢
  by_cases hl : (1000 : Int) < (t.size : Int)
  · rw [if_pos hl]
    clear cV
    go_enter Tryz.func62, Tryz.ntmps62
    go_wp2
    go_ret
    exact ⟨rfl, Below.refl _ _⟩
  · rw [if_neg hl]
    cases V
    all_goals
      go_enter Tryz.func62, Tryz.ntmps62
      go_wp2_with (go_at_call 94; refine cV.mono ?_; rintro e w' ⟨rfl, hb⟩)
      go_ret
      exact ⟨rfl, hb⟩
end Go.Proofs.YtdkgapapdjefdaaGreatDoor

/- Walks: look.wrongList, out of what look.wrong tells of each. -/
namespace Go.Proofs.YtdkgapapdjefdaaGreatDoor
open Go.RowKit

/-- what look.wrong tells of a tree -/
def WrongC (T : Tree) : Prop := ∀ (B : Nat) (w : World) (v : Array Value) (p s d : Nat), Mem B w T v → B ≤ p → St w p s → s ≤ 2000 → 1 ≤ d → d ≤ 21 → Tabs w → Tryz.laysValid_ren.g 3 < B → Tryz.laysValid_ren.g 4 < B →
  Calls Tryz.prog 28 #[.pointer (some ⟨p, 0, none⟩), .agg v, .int .i64 (d : Int)] w fun e w' => e = .returned (.int .i64 (wrongF T s d).1) ∧ St w' p (wrongF T s d).2 ∧ Below B w w'

theorem wrongL_nil (s d : Nat) : wrongL [] s d = (0, s) := by rw [wrongL]
theorem wrongL_ok {u : Tree} {us : List Tree} {s d : Nat} (h : (wrongF u s d).1 = 0) : wrongL (u :: us) s d = wrongL us (wrongF u s d).2 d := by rw [wrongL, if_pos h]
theorem wrongL_no {u : Tree} {us : List Tree} {s d : Nat} (h : ¬ (wrongF u s d).1 = 0) : wrongL (u :: us) s d = wrongF u s d := by rw [wrongL, if_neg h]

set_option maxHeartbeats 1000000 in
theorem wrongList_long (ks : List Tree) (a : Option Addr) (cap : Nat) (w : World) (p : Nat) (d : Int) (hl : (200 : Int) < (ks.length : Int)) :
    Calls Tryz.prog 63 #[.pointer (some ⟨p, 0, none⟩), .slice a ks.length cap, .int .i64 d] w fun e w' => e = .returned (.int .i64 5) ∧ w' = w := by
  go_enter Tryz.func63, Tryz.ntmps63
  go_wp2
  go_ret
  exact ⟨rfl, rfl⟩

set_option maxHeartbeats 1000000 in
theorem wrongList_nil (a : Option Addr) (cap : Nat) (w : World) (p : Nat) (d : Int) :
    Calls Tryz.prog 63 #[.pointer (some ⟨p, 0, none⟩), .slice a 0 cap, .int .i64 d] w fun e w' => e = .returned (.int .i64 0) ∧ w' = w := by
  go_enter Tryz.func63, Tryz.ntmps63
  go_wp2
  go_loop [15] (fun i => i = .int .i64 0) (fun _ => 0)
  case atStart => rfl
  case round =>
    subst hrel
    go_wp2
    go_ret
    exact ⟨rfl, rfl⟩

set_option maxHeartbeats 2000000 in
theorem wrongList_of (ks : List Tree) (IH : ∀ u ∈ ks, WrongC u) (B : Nat) (w : World) (b off cap p s d : Nat) (hm : MemL B w ks b off) (hlt : b < B) (hl : ks.length ≤ 200) (hp : B ≤ p) (hS : St w p s) (hs : s ≤ 2000) (hd1 : 1 ≤ d) (hd : d ≤ 21) (hT : Tabs w) (g3 : Tryz.laysValid_ren.g 3 < B) (g4 : Tryz.laysValid_ren.g 4 < B) :
    Calls Tryz.prog 63 #[.pointer (some ⟨p, 0, none⟩), .slice (some ⟨b, off, none⟩) ks.length cap, .int .i64 (d : Int)] w fun e w' => e = .returned (.int .i64 (wrongL ks s d).1) ∧ St w' p (wrongL ks s d).2 ∧ Below B w w' := by
  have hl' : ¬ (200 : Int) < (ks.length : Int) := by omega
  have IH' := hide IH
  have hm' := hide hm
  have hT' := hide hT
  have G' := hide (And.intro g3 g4)
  have S0 := hide hS
  have hBw : B ≤ w.heap.size := Nat.le_of_lt (Nat.lt_of_le_of_lt hp hS.2.2)
  clear IH hm hT g3 g4 hS
  go_enter Tryz.func63, Tryz.ntmps63
  go_wp2
  go_loopw [15] (fun i wr => ∃ m si : Nat, m ≤ ks.length ∧ i = .int .i64 (m : Int) ∧ Hid (wrongL ks s d = wrongL (ks.drop m) si d) ∧ si ≤ 2000 ∧ Hid (St wr p si) ∧ Hid (Below B w wr)) (fun i _ => ks.length - (intOf i).toNat)
  case atStart => exact ⟨0, s, Nat.zero_le _, rfl, hide rfl, hs, S0, hide (Below.refl _ _)⟩
  case round =>
    obtain ⟨m, si, hml, rfl, H, hsi, HS, HB⟩ := hrel
    clear S0
    by_cases hlt2 : m < ks.length
    · have hi1 : (m : Int) < (ks.length : Int) := by omega
      obtain ⟨u, hu⟩ : ∃ u, ks[m]? = some u := ⟨_, List.getElem?_eq_getElem hlt2⟩
      have hdrop : ks.drop m = u :: ks.drop (m + 1) := by
        rw [List.drop_eq_getElem_cons hlt2]
        congr 1
        rw [List.getElem?_eq_getElem hlt2] at hu
        exact Option.some.inj hu
      have HU := hide (unhide IH' u (List.mem_of_getElem? hu))
      obtain ⟨cs, h6, hmu⟩ := MemL.at (MemL.below (unhide HB) hlt (unhide hm')) m u hu
      have HM := hide hmu
      rw [hdrop] at H
      have hbd := hide (wrongF_bd u si d hsi)
      cases u with
      | mk k y c x t kk =>
        rw [Mem] at hmu
        obtain ⟨ht, hk, a', cap', rfl, _⟩ := hmu
        obtain ⟨u0, u1, u2, u3, u4, u5, hu6, c0, c1, c2, c3, c4, c5⟩ := h6
        simp only [Array.mk.injEq, List.cons.injEq, and_true] at hu6
        obtain ⟨rfl, rfl, rfl, rfl, rfl, rfl⟩ := hu6
        clear hu hdrop ht hk
        have hcap : ks.length ≤ 200 := hl
        go_wp2_with fail
        have hbB : B ≤ wr.heap.size := Nat.le_trans hBw (unhide HB).size
        have hba := (Below.refl B wr).alloc hbB (.cells #[.int .i64 k, .bool y, .int .i64 c, .int .i64 x, .string t, .slice a' kk.length cap'] 27)
        have hbw := (unhide HB).trans hba
        refine (unhide HU B _ _ p si d (Mem.below hba (unhide HM)) hp ((unhide HS).below ((Below.refl _ _).alloc (Nat.le_refl _) _) (unhide HS).2.2) hsi hd1 hd (Tabs.below (unhide hT') hbw (unhide G').1 (unhide G').2) (unhide G').1 (unhide G').2).mono ?_
        rintro e w2 ⟨rfl, hS2, hb2⟩
        have HB2 := hide (hbw.trans hb2)
        have HS2 := hide hS2
        clear hS2 hb2 hba hbw HB HS HM
        by_cases hr : (wrongF (.mk k y c x t kk) si d).1 = 0
        · have hz : ((wrongF (.mk k y c x t kk) si d).1 != 0) = false := by simp [hr]
          have H2 := hide (wrongL_ok (us := ks.drop (m + 1)) hr)
          have hle := (unhide hbd).2 hr
          generalize wrongF (.mk k y c x t kk) si d = R at *
          clear hr
          go_wp2
          go_round
          case rel => exact ⟨m + 1, R.2, by omega, by go_num, hide ((unhide H).trans (unhide H2)), hle, HS2, HB2⟩
          case measure => simp [intOf]; omega
        · have hz : ((wrongF (.mk k y c x t kk) si d).1 != 0) = true := by simp [hr]
          have H2 := hide ((unhide H).trans (wrongL_no (us := ks.drop (m + 1)) hr))
          generalize wrongF (.mk k y c x t kk) si d = R at *
          clear hr
          go_wp2
          go_ret
          rw [unhide H2]
          exact ⟨rfl, unhide HS2, unhide HB2⟩
    · obtain rfl : m = ks.length := by omega
      have H2 : Hid (wrongL ks s d = (0, si)) := by
        have h := unhide H
        rw [List.drop_length, wrongL_nil] at h
        exact hide h
      go_wp2
      go_ret
      rw [unhide H2]
      exact ⟨rfl, unhide HS, unhide HB⟩
end Go.Proofs.YtdkgapapdjefdaaGreatDoor

/- Walks: look.wrong, Wrong. -/
namespace Go.Proofs.YtdkgapapdjefdaaGreatDoor
open Go.RowKit

theorem St.inc {w : World} {p s : Nat} {o : Obj} (h : St w p s) : St ((w.setCell ⟨p, 0, none⟩ (.int .i64 ((s : Int) + 1))).alloc o) p (s + 1) := by
  obtain ⟨h1, h2, h3⟩ := h
  have g : St (w.setCell ⟨p, 0, none⟩ (.int .i64 ((s : Int) + 1))) p (s + 1) := by
    refine ⟨?_, ?_, by simpa [World.setCell] using h3⟩
    · simp [go_sem, h1]
    · simp [go_sem, h2]
  exact g.below (vbelow_new _ o) g.2.2

theorem wf_much {k : Int} {y : Bool} {c x : Int} {t : ByteArray} {ks : List Tree} {s d : Nat} (h : 2000 < s + 1 ∨ 20 < d) : wrongF (.mk k y c x t ks) s d = (4, s + 1) := by rw [wrongF, if_pos h]
theorem wf_plain {k : Int} {y : Bool} {c x : Int} {t : ByteArray} {ks : List Tree} {s d : Nat} (h : ¬ (2000 < s + 1 ∨ 20 < d)) (hk : k = 1 ∨ k = 2) : wrongF (.mk k y c x t ks) s d = (0, s + 1) := by rw [wrongF, if_neg h, if_pos hk]
theorem wf_num {y : Bool} {c x : Int} {t : ByteArray} {ks : List Tree} {s d : Nat} (h : ¬ (2000 < s + 1 ∨ 20 < d)) : wrongF (.mk 3 y c x t ks) s d = (Dm.wrongN c x, s + 1) := by rw [wrongF, if_neg h, if_neg (by omega), if_pos rfl]
theorem wf_text {y : Bool} {c x : Int} {t : ByteArray} {ks : List Tree} {s d : Nat} (h : ¬ (2000 < s + 1 ∨ 20 < d)) : wrongF (.mk 4 y c x t ks) s d = (wrongT t, s + 1) := by rw [wrongF, if_neg h, if_neg (by omega), if_neg (by omega), if_pos rfl]
theorem wf_list {y : Bool} {c x : Int} {t : ByteArray} {ks : List Tree} {s d : Nat} (h : ¬ (2000 < s + 1 ∨ 20 < d)) : wrongF (.mk 5 y c x t ks) s d = if 200 < ks.length then (5, s + 1) else wrongL ks (s + 1) (d + 1) := by rw [wrongF, if_neg h, if_neg (by omega), if_neg (by omega), if_neg (by omega), if_pos rfl]
theorem wf_else {k : Int} {y : Bool} {c x : Int} {t : ByteArray} {ks : List Tree} {s d : Nat} (h : ¬ (2000 < s + 1 ∨ 20 < d)) (h1 : ¬ k = 1) (h2 : ¬ k = 2) (h3 : ¬ k = 3) (h4 : ¬ k = 4) (h5 : ¬ k = 5) : wrongF (.mk k y c x t ks) s d = (1, s + 1) := by
  rw [wrongF, if_neg h, if_neg (by omega), if_neg h3, if_neg h4, if_neg h5]

set_option maxHeartbeats 2000000 in
theorem wrong_of (k : Int) (y : Bool) (c x : Int) (t : ByteArray) (ks : List Tree) (IH : ∀ u ∈ ks, WrongC u) : WrongC (.mk k y c x t ks) := by
  intro B w v p s d hM hp hS hs hd1 hd hT g3 g4
  rw [Mem] at hM
  obtain ⟨ht, hk, a, cap, rfl, hks⟩ := hM
  have hBw : B ≤ w.heap.size := Nat.le_of_lt (Nat.lt_of_le_of_lt hp hS.2.2)
  have SI := hide (hS.inc (o := .cells #[.int .i64 k, .bool y, .int .i64 c, .int .i64 x, .string t, .slice a ks.length cap] 27))
  have BI := hide (((Below.refl B w).setCell (p := ⟨p, 0, none⟩) hp (.int .i64 ((s : Int) + 1))).alloc (by simpa [World.setCell] using hBw) (.cells #[.int .i64 k, .bool y, .int .i64 c, .int .i64 x, .string t, .slice a ks.length cap] 27))
  obtain ⟨s1, s2, s3⟩ := hS
  have HM := hide hks
  have HT := hide hT
  have G' := hide (And.intro g3 g4)
  have IH' := hide IH
  clear hks hT g3 g4 IH
  by_cases h1 : 2000 < s + 1 ∨ 20 < d
  · rw [wf_much h1]
    by_cases h2 : 2000 < s + 1
    · have h2' : (2000 : Int) < (s : Int) + 1 := by omega
      clear h1
      go_enter Tryz.func28, Tryz.ntmps28
      go_wp2
      go_ret
      exact ⟨rfl, unhide SI, unhide BI⟩
    · have h2' : ¬ (2000 : Int) < (s : Int) + 1 := by omega
      have h3' : (20 : Int) < (d : Int) := by omega
      clear h1
      go_enter Tryz.func28, Tryz.ntmps28
      go_wp2
      go_ret
      exact ⟨rfl, unhide SI, unhide BI⟩
  · have h2' : ¬ (2000 : Int) < (s : Int) + 1 := by omega
    have h3' : ¬ (20 : Int) < (d : Int) := by omega
    have H1 := hide h1
    clear h1
    by_cases k1 : k = 1
    · subst k1
      rw [wf_plain (unhide H1) (.inl rfl)]
      go_enter Tryz.func28, Tryz.ntmps28
      go_wp2
      go_ret
      exact ⟨rfl, unhide SI, unhide BI⟩
    by_cases k2 : k = 2
    · subst k2
      rw [wf_plain (unhide H1) (.inr rfl)]
      go_enter Tryz.func28, Tryz.ntmps28
      go_wp2
      go_ret
      exact ⟨rfl, unhide SI, unhide BI⟩
    by_cases k3 : k = 3
    · subst k3
      rw [wf_num (unhide H1)]
      go_enter Tryz.func28, Tryz.ntmps28
      go_wp2_with fail
      refine (wrong_any c x _).mono ?_
      rintro e w2 ⟨rfl, hb⟩
      go_wp2
      go_ret
      exact ⟨rfl, (unhide SI).below hb (unhide SI).2.2, (unhide BI).trans (hb.mono (Nat.le_trans hBw (unhide BI).size))⟩
    by_cases k4 : k = 4
    · subst k4
      rw [wf_text (unhide H1)]
      go_enter Tryz.func28, Tryz.ntmps28
      go_wp2_with fail
      refine (wrongText_any t _ ht (Tabs.below (unhide HT) (unhide BI) (unhide G').1 (unhide G').2)).mono ?_
      rintro e w2 ⟨rfl, hb⟩
      go_wp2
      go_ret
      exact ⟨rfl, (unhide SI).below hb (unhide SI).2.2, (unhide BI).trans (hb.mono (Nat.le_trans hBw (unhide BI).size))⟩
    by_cases k5 : k = 5
    · subst k5
      rw [wf_list (unhide H1)]
      by_cases hlong : 200 < ks.length
      · rw [if_pos hlong]
        have hlong' : (200 : Int) < (ks.length : Int) := by omega
        go_enter Tryz.func28, Tryz.ntmps28
        go_wp2_with fail
        refine (wrongList_long ks a cap _ p _ hlong').mono ?_
        rintro e w2 ⟨rfl, rfl⟩
        go_wp2
        go_ret
        exact ⟨rfl, unhide SI, unhide BI⟩
      · rw [if_neg hlong]
        by_cases hnil : ks = []
        · subst hnil
          rw [wrongL_nil]
          simp only [List.length_nil] at SI BI ⊢
          go_enter Tryz.func28, Tryz.ntmps28
          go_wp2_with fail
          refine (wrongList_nil a cap _ p _).mono ?_
          rintro e w2 ⟨rfl, rfl⟩
          go_wp2
          go_ret
          exact ⟨rfl, unhide SI, unhide BI⟩
        · obtain ⟨b, off, rfl, hbB, hm⟩ := unhide HM hnil
          have HC := hide (fun wx (hb : Below B w wx) (hS : St wx p (s + 1)) => wrongList_of ks (unhide IH') B wx b off cap p (s + 1) (d + 1) (MemL.below hb hbB hm) hbB (by omega) hp hS (by omega) (by omega) (by omega) (Tabs.below (unhide HT) hb (unhide G').1 (unhide G').2) (unhide G').1 (unhide G').2)
          rw [show ((d + 1 : Nat) : Int) = (d : Int) + 1 by omega] at HC
          clear hm hnil hlong
          go_enter Tryz.func28, Tryz.ntmps28
          go_wp2_with fail
          refine (unhide HC _ (unhide BI) (unhide SI)).mono ?_
          rintro e w2 ⟨rfl, hS2, hb2⟩
          go_wp2
          go_ret
          exact ⟨rfl, hS2, (unhide BI).trans hb2⟩
    · rw [wf_else (unhide H1) k1 k2 k3 k4 k5]
      go_enter Tryz.func28, Tryz.ntmps28
      go_wp2
      go_ret
      exact ⟨rfl, unhide SI, unhide BI⟩
end Go.Proofs.YtdkgapapdjefdaaGreatDoor

/- Walks: Wrong of every value; Less, Equal of two numbers and of two texts. -/
namespace Go.Proofs.YtdkgapapdjefdaaGreatDoor
open Go.RowKit

mutual
theorem wrong_all : ∀ T : Tree, WrongC T
  | .mk k y c x t ks => wrong_of k y c x t ks (fun u h => wrong_alls ks u h)
theorem wrong_alls : ∀ (ks : List Tree) (u : Tree), u ∈ ks → WrongC u
  | [], u, h => by cases h
  | v :: vs, u, h => by
    by_cases e : u = v
    · rw [e]; exact wrong_all v
    · exact wrong_alls vs u ((List.mem_cons.1 h).resolve_left e)
end
/-- the tables lie, and where -/
def TabsIn (B : Nat) (w : World) : Prop := Tabs w ∧ Tryz.laysValid_ren.g 3 < B ∧ Tryz.laysValid_ren.g 4 < B
theorem TabsIn.below {B : Nat} {w w' : World} (h : TabsIn B w) (hb : Below B w w') : TabsIn B w' := ⟨h.1.below hb h.2.1 h.2.2, h.2⟩

set_option maxHeartbeats 1000000 in
theorem logicWrong_any (T : Tree) (v : Array Value) (B : Nat) (w : World) (hB : B ≤ w.heap.size) (hM : Mem B w T v) (hT : TabsIn B w) :
    Calls Tryz.prog 11 #[.agg v] w fun e w' => e = .returned (.int .i64 (wrongF T 0 1).1) ∧ Below w.heap.size w w' := by
  have hM' := hide hM
  have HT := hide hT
  cases T with
  | mk k y c x t ks =>
    rw [Mem] at hM
    obtain ⟨_, _, a, cap, rfl, _⟩ := hM
    clear hT
    go_enter Tryz.func11, Tryz.ntmps11
    go_wp2_with fail
    have ba : ∀ o o' : Obj, Below w.heap.size w ((w.alloc o).alloc o') := fun o o' => ((Below.refl _ _).alloc (Nat.le_refl _) _).alloc (by simp) _
    have hb := ba (.cells #[.int .i64 k, .bool y, .int .i64 c, .int .i64 x, .string t, .slice a ks.length cap] 27) (.cells #[.int .i64 0] 62)
    refine (wrong_all (.mk k y c x t ks) w.heap.size _ _ (w.heap.size + 1) 0 1 (Mem.below hb (Mem.mono hB (unhide hM'))) (by omega) ⟨by simp [go_sem], by simp [go_sem], by simp⟩ (by omega) (by omega) (by omega) ?_ ?_ ?_).mono ?_
    · exact ((unhide HT).below (hb.mono hB)).1
    · exact Nat.lt_of_lt_of_le (unhide HT).2.1 hB
    · exact Nat.lt_of_lt_of_le (unhide HT).2.2 hB
    rintro e w2 ⟨rfl, _, hb2⟩
    go_wp2
    go_ret
    exact ⟨rfl, hb.trans hb2⟩

set_option maxHeartbeats 1000000 in
theorem less_num (y1 y2 : Bool) (c1 x1 c2 x2 : Int) (t1 l1 t2 l2 : Value) (w : World) (h1 : Dm.wrongN c1 x1 = 0) (h2 : Dm.wrongN c2 x2 = 0) :
    Calls Tryz.prog 54 #[.agg #[.int .i64 3, .bool y1, .int .i64 c1, .int .i64 x1, t1, l1], .agg #[.int .i64 3, .bool y2, .int .i64 c2, .int .i64 x2, t2, l2]] w fun e w' => e = .returned (.agg #[.int .i64 2, .bool (decide (Dm.sgn (Dm.V c1 x1 - Dm.V c2 x2) < 0)), .int .i64 0, .int .i64 0, .string ⟨#[]⟩, .slice none 0 0]) ∧ Below w.heap.size w w' := by
  have CM := fun wx => cmp_ok c1 x1 c2 x2 wx h1 h2
  generalize Dm.sgn (Dm.V c1 x1 - Dm.V c2 x2) = g at CM ⊢
  replace CM := hide CM
  clear h1 h2
  go_enter Tryz.func54, Tryz.ntmps54
  go_wp2_with fail
  refine (unhide CM _).mono ?_
  rintro e w1 ⟨rfl, hb⟩
  obtain ⟨_, _, R, hw⟩ := box3 hb
  clear hb
  go_wp2_with fail
  refine (truth_any _ _).mono ?_
  rintro e w9 ⟨rfl, hb⟩
  replace R := R.keep hb R.low
  replace hw := hw.trans (hb.mono hw.size)
  clear hb
  obtain ⟨a0, a1, a2, a3, a4, a5⟩ := R.tell
  obtain ⟨f0, f1, f2, f3, f4, f5⟩ := R.thaw
  have lb := R.low
  go_wp2
  exact bodyPost_ret (v := .agg #[.int .i64 2, .bool (decide (g < 0)), .int .i64 0, .int .i64 0, .string ⟨#[]⟩, .slice none 0 0]) (by simp [results, Tryz.results54, go_sem, a0, a1, a2, a3, a4, a5]) rfl ⟨rfl, ((((((hw.setCell (by simp; omega) _).setCell (by simp; omega) _).setCell (by simp; omega) _).setCell (by simp; omega) _).setCell (by simp; omega) _).setCell (by simp; omega) _)⟩

set_option maxHeartbeats 1000000 in
theorem less_text (y1 y2 : Bool) (c1 x1 c2 x2 : Int) (t1 t2 : ByteArray) (l1 l2 : Value) (w : World) :
    Calls Tryz.prog 54 #[.agg #[.int .i64 4, .bool y1, .int .i64 c1, .int .i64 x1, .string t1, l1], .agg #[.int .i64 4, .bool y2, .int .i64 c2, .int .i64 x2, .string t2, l2]] w fun e w' => e = .returned (.agg #[.int .i64 2, .bool (Op.bytesLess t1.toList t2.toList), .int .i64 0, .int .i64 0, .string ⟨#[]⟩, .slice none 0 0]) ∧ Below w.heap.size w w' := by
  generalize hg : Op.bytesLess t1.toList t2.toList = g
  have HG := hide hg
  clear hg
  go_enter Tryz.func54, Tryz.ntmps54
  go_wp2_with fail
  rw [unhide HG]
  refine (truth_any _ _).mono ?_
  rintro e w9 ⟨rfl, hb⟩
  obtain ⟨_, _, R, hw⟩ := box3 hb
  clear hb
  obtain ⟨a0, a1, a2, a3, a4, a5⟩ := R.tell
  obtain ⟨f0, f1, f2, f3, f4, f5⟩ := R.thaw
  have lb := R.low
  go_wp2
  exact bodyPost_ret (v := .agg #[.int .i64 2, .bool (g), .int .i64 0, .int .i64 0, .string ⟨#[]⟩, .slice none 0 0]) (by simp [results, Tryz.results54, go_sem, a0, a1, a2, a3, a4, a5]) rfl ⟨rfl, ((((((hw.setCell (by simp; omega) _).setCell (by simp; omega) _).setCell (by simp; omega) _).setCell (by simp; omega) _).setCell (by simp; omega) _).setCell (by simp; omega) _)⟩

theorem box4 {w w1 : World} {s t u r : TypeId} {a b m : Array Value} {c0 c1 c2 c3 c4 c5 : Value} (hb : Below (w.heap.size + 1 + 1 + 1) ((((w.alloc (.cells a s)).alloc (.cells b t)).alloc (.cells #[c0, c1, c2, c3, c4, c5] u)).alloc (.cells m r)) w1) :
    Box w1 (w.heap.size + 1 + 1) #[c0, c1, c2, c3, c4, c5] ∧ Below w.heap.size w w1 := by
  have C := (Box.new (w := (w.alloc (.cells a s)).alloc (.cells b t)) (t := u) (a0 := c0) (a1 := c1) (a2 := c2) (a3 := c3) (a4 := c4) (a5 := c5)).over (o := .cells m r)
  have C' := C.keep hb (by simp <;> omega)
  refine ⟨by simpa using C', (((((Below.refl w.heap.size w).alloc (Nat.le_refl _) _).alloc (by simp) _).alloc (by simp; omega) _).alloc (by simp; omega) _).trans (hb.mono (by omega))⟩

set_option maxHeartbeats 2000000 in
theorem meq_num (y1 y2 : Bool) (c1 x1 c2 x2 : Int) (t1 l1 t2 l2 : Value) (B p : Nat) (w : World) (hp : B ≤ p) (s1 : w.cell? ⟨p, 0, none⟩ = some (.int .i64 0)) (s2 : w.frozen? ⟨p, 0, none⟩ = false) (s3 : p < w.heap.size) :
    Calls Tryz.prog 88 #[.pointer (some ⟨p, 0, none⟩), .agg #[.int .i64 3, .bool y1, .int .i64 c1, .int .i64 x1, t1, l1], .agg #[.int .i64 3, .bool y2, .int .i64 c2, .int .i64 x2, t2, l2], .int .i64 1] w fun e w' => e = .returned (.agg #[.int .i64 2, .bool (decide (c1 = c2 ∧ x1 = x2)), .int .i64 0, .int .i64 0, .string ⟨#[]⟩, .slice none 0 0]) ∧ Below B w w' := by
  have q1 : p < w.heap.size + 1 := by omega
  have q2 : p < w.heap.size + 1 + 1 := by omega
  have hz : (w.setCell ⟨p, 0, none⟩ (.int .i64 1)).heap.size = w.heap.size := by simp [World.setCell]
  by_cases hc : c1 = c2
  · by_cases hx : x1 = x2
    · rw [decide_eq_true (And.intro hc hx)]
      subst hc hx
      go_enter Tryz.func88, Tryz.ntmps88
      go_wp2_with fail
      refine (truth_any _ _).mono ?_
      rintro e w9 ⟨rfl, hb⟩
      obtain ⟨_, _, R, hw⟩ := box3 hb
      rw [hz] at R hw
      replace hw := ((Below.refl B w).setCell (p := ⟨p, 0, none⟩) hp _).trans (hw.mono (by omega))
      clear hb
      obtain ⟨a0, a1, a2, a3, a4, a5⟩ := R.tell
      obtain ⟨f0, f1, f2, f3, f4, f5⟩ := R.thaw
      have lb := R.low
      go_wp2
      exact bodyPost_ret (v := .agg #[.int .i64 2, .bool (true), .int .i64 0, .int .i64 0, .string ⟨#[]⟩, .slice none 0 0]) (by simp [results, Tryz.results88, go_sem, a0, a1, a2, a3, a4, a5]) rfl ⟨rfl, ((((((hw.setCell (by simp; omega) _).setCell (by simp; omega) _).setCell (by simp; omega) _).setCell (by simp; omega) _).setCell (by simp; omega) _).setCell (by simp; omega) _)⟩
    · rw [decide_eq_false (fun h => hx h.2)]
      subst hc
      go_enter Tryz.func88, Tryz.ntmps88
      go_wp2_with fail
      refine (truth_any _ _).mono ?_
      rintro e w9 ⟨rfl, hb⟩
      obtain ⟨_, _, R, hw⟩ := box3 hb
      rw [hz] at R hw
      replace hw := ((Below.refl B w).setCell (p := ⟨p, 0, none⟩) hp _).trans (hw.mono (by omega))
      clear hb
      obtain ⟨a0, a1, a2, a3, a4, a5⟩ := R.tell
      obtain ⟨f0, f1, f2, f3, f4, f5⟩ := R.thaw
      have lb := R.low
      go_wp2
      exact bodyPost_ret (v := .agg #[.int .i64 2, .bool (false), .int .i64 0, .int .i64 0, .string ⟨#[]⟩, .slice none 0 0]) (by simp [results, Tryz.results88, go_sem, a0, a1, a2, a3, a4, a5]) rfl ⟨rfl, ((((((hw.setCell (by simp; omega) _).setCell (by simp; omega) _).setCell (by simp; omega) _).setCell (by simp; omega) _).setCell (by simp; omega) _).setCell (by simp; omega) _)⟩
  · rw [decide_eq_false (fun h => hc h.1)]
    go_enter Tryz.func88, Tryz.ntmps88
    go_wp2_with fail
    refine (truth_any _ _).mono ?_
    rintro e w9 ⟨rfl, hb⟩
    obtain ⟨_, _, R, hw⟩ := box3 hb
    rw [hz] at R hw
    replace hw := ((Below.refl B w).setCell (p := ⟨p, 0, none⟩) hp _).trans (hw.mono (by omega))
    clear hb
    obtain ⟨a0, a1, a2, a3, a4, a5⟩ := R.tell
    obtain ⟨f0, f1, f2, f3, f4, f5⟩ := R.thaw
    have lb := R.low
    go_wp2
    exact bodyPost_ret (v := .agg #[.int .i64 2, .bool (false), .int .i64 0, .int .i64 0, .string ⟨#[]⟩, .slice none 0 0]) (by simp [results, Tryz.results88, go_sem, a0, a1, a2, a3, a4, a5]) rfl ⟨rfl, ((((((hw.setCell (by simp; omega) _).setCell (by simp; omega) _).setCell (by simp; omega) _).setCell (by simp; omega) _).setCell (by simp; omega) _).setCell (by simp; omega) _)⟩

set_option maxHeartbeats 2000000 in
theorem meq_text (y1 y2 : Bool) (c1 x1 c2 x2 : Int) (t1 t2 : ByteArray) (l1 l2 : Value) (B p : Nat) (w : World) (hp : B ≤ p) (s1 : w.cell? ⟨p, 0, none⟩ = some (.int .i64 0)) (s2 : w.frozen? ⟨p, 0, none⟩ = false) (s3 : p < w.heap.size) :
    Calls Tryz.prog 88 #[.pointer (some ⟨p, 0, none⟩), .agg #[.int .i64 4, .bool y1, .int .i64 c1, .int .i64 x1, .string t1, l1], .agg #[.int .i64 4, .bool y2, .int .i64 c2, .int .i64 x2, .string t2, l2], .int .i64 1] w fun e w' => e = .returned (.agg #[.int .i64 2, .bool (decide (t1.toList = t2.toList)), .int .i64 0, .int .i64 0, .string ⟨#[]⟩, .slice none 0 0]) ∧ Below B w w' := by
  have q1 : p < w.heap.size + 1 := by omega
  have q2 : p < w.heap.size + 1 + 1 := by omega
  have hz : (w.setCell ⟨p, 0, none⟩ (.int .i64 1)).heap.size = w.heap.size := by simp [World.setCell]
  by_cases hc : t1.toList = t2.toList
  · rw [decide_eq_true hc]
    have hq : (t1.toList == t2.toList) = true := by simp [hc]
    clear hc
    go_enter Tryz.func88, Tryz.ntmps88
    go_wp2_with fail
    refine (truth_any _ _).mono ?_
    rintro e w9 ⟨rfl, hb⟩
    obtain ⟨_, _, R, hw⟩ := box3 hb
    rw [hz] at R hw
    replace hw := ((Below.refl B w).setCell (p := ⟨p, 0, none⟩) hp _).trans (hw.mono (by omega))
    clear hb
    obtain ⟨a0, a1, a2, a3, a4, a5⟩ := R.tell
    obtain ⟨f0, f1, f2, f3, f4, f5⟩ := R.thaw
    have lb := R.low
    go_wp2
    exact bodyPost_ret (v := .agg #[.int .i64 2, .bool (true), .int .i64 0, .int .i64 0, .string ⟨#[]⟩, .slice none 0 0]) (by simp [results, Tryz.results88, go_sem, a0, a1, a2, a3, a4, a5]) rfl ⟨rfl, ((((((hw.setCell (by simp; omega) _).setCell (by simp; omega) _).setCell (by simp; omega) _).setCell (by simp; omega) _).setCell (by simp; omega) _).setCell (by simp; omega) _)⟩
  · rw [decide_eq_false hc]
    have hq : (t1.toList == t2.toList) = false := by simp [hc]
    clear hc
    go_enter Tryz.func88, Tryz.ntmps88
    go_wp2_with fail
    refine (truth_any _ _).mono ?_
    rintro e w9 ⟨rfl, hb⟩
    obtain ⟨_, _, R, hw⟩ := box3 hb
    rw [hz] at R hw
    replace hw := ((Below.refl B w).setCell (p := ⟨p, 0, none⟩) hp _).trans (hw.mono (by omega))
    clear hb
    obtain ⟨a0, a1, a2, a3, a4, a5⟩ := R.tell
    obtain ⟨f0, f1, f2, f3, f4, f5⟩ := R.thaw
    have lb := R.low
    go_wp2
    exact bodyPost_ret (v := .agg #[.int .i64 2, .bool (false), .int .i64 0, .int .i64 0, .string ⟨#[]⟩, .slice none 0 0]) (by simp [results, Tryz.results88, go_sem, a0, a1, a2, a3, a4, a5]) rfl ⟨rfl, ((((((hw.setCell (by simp; omega) _).setCell (by simp; omega) _).setCell (by simp; omega) _).setCell (by simp; omega) _).setCell (by simp; omega) _).setCell (by simp; omega) _)⟩

set_option maxHeartbeats 2000000 in
theorem equal_num (y1 y2 : Bool) (c1 x1 c2 x2 : Int) (t1 l1 t2 l2 : Value) (w : World) :
    Calls Tryz.prog 53 #[.agg #[.int .i64 3, .bool y1, .int .i64 c1, .int .i64 x1, t1, l1], .agg #[.int .i64 3, .bool y2, .int .i64 c2, .int .i64 x2, t2, l2]] w fun e w' => e = .returned (.agg #[.int .i64 2, .bool (decide (c1 = c2 ∧ x1 = x2)), .int .i64 0, .int .i64 0, .string ⟨#[]⟩, .slice none 0 0]) ∧ Below w.heap.size w w' := by
  have CM := fun wx B p hp s1 s2 s3 => meq_num y1 y2 c1 x1 c2 x2 t1 l1 t2 l2 B p wx hp s1 s2 s3
  generalize decide (c1 = c2 ∧ x1 = x2) = g at CM ⊢
  replace CM := hide CM
  go_enter Tryz.func53, Tryz.ntmps53
  go_wp2_with fail
  refine (unhide CM _ (w.heap.size + 1 + 1 + 1) (w.heap.size + 1 + 1 + 1) (Nat.le_refl _) (by simp [go_sem]) (by simp [go_sem]) (by simp)).mono ?_
  rintro e w9 ⟨rfl, hb⟩
  obtain ⟨R, hw⟩ := box4 hb
  clear hb
  obtain ⟨a0, a1, a2, a3, a4, a5⟩ := R.tell
  obtain ⟨f0, f1, f2, f3, f4, f5⟩ := R.thaw
  have lb := R.low
  go_wp2
  exact bodyPost_ret (v := .agg #[.int .i64 2, .bool g, .int .i64 0, .int .i64 0, .string ⟨#[]⟩, .slice none 0 0]) (by simp [results, Tryz.results53, go_sem, a0, a1, a2, a3, a4, a5]) rfl ⟨rfl, ((((((hw.setCell (by simp; omega) _).setCell (by simp; omega) _).setCell (by simp; omega) _).setCell (by simp; omega) _).setCell (by simp; omega) _).setCell (by simp; omega) _)⟩

set_option maxHeartbeats 2000000 in
theorem equal_text (y1 y2 : Bool) (c1 x1 c2 x2 : Int) (t1 t2 : ByteArray) (l1 l2 : Value) (w : World) :
    Calls Tryz.prog 53 #[.agg #[.int .i64 4, .bool y1, .int .i64 c1, .int .i64 x1, .string t1, l1], .agg #[.int .i64 4, .bool y2, .int .i64 c2, .int .i64 x2, .string t2, l2]] w fun e w' => e = .returned (.agg #[.int .i64 2, .bool (decide (t1.toList = t2.toList)), .int .i64 0, .int .i64 0, .string ⟨#[]⟩, .slice none 0 0]) ∧ Below w.heap.size w w' := by
  have CM := fun wx B p hp s1 s2 s3 => meq_text y1 y2 c1 x1 c2 x2 t1 t2 l1 l2 B p wx hp s1 s2 s3
  generalize decide (t1.toList = t2.toList) = g at CM ⊢
  replace CM := hide CM
  go_enter Tryz.func53, Tryz.ntmps53
  go_wp2_with fail
  refine (unhide CM _ (w.heap.size + 1 + 1 + 1) (w.heap.size + 1 + 1 + 1) (Nat.le_refl _) (by simp [go_sem]) (by simp [go_sem]) (by simp)).mono ?_
  rintro e w9 ⟨rfl, hb⟩
  obtain ⟨R, hw⟩ := box4 hb
  clear hb
  obtain ⟨a0, a1, a2, a3, a4, a5⟩ := R.tell
  obtain ⟨f0, f1, f2, f3, f4, f5⟩ := R.thaw
  have lb := R.low
  go_wp2
  exact bodyPost_ret (v := .agg #[.int .i64 2, .bool g, .int .i64 0, .int .i64 0, .string ⟨#[]⟩, .slice none 0 0]) (by simp [results, Tryz.results53, go_sem, a0, a1, a2, a3, a4, a5]) rfl ⟨rfl, ((((((hw.setCell (by simp; omega) _).setCell (by simp; omega) _).setCell (by simp; omega) _).setCell (by simp; omega) _).setCell (by simp; omega) _).setCell (by simp; omega) _)⟩
end Go.Proofs.YtdkgapapdjefdaaGreatDoor

/- In plain words: what Less tells of two right values. -/
namespace Go.Proofs.YtdkgapapdjefdaaGreatDoor
open Go.RowKit

/-- what Less tells of two right values -/
def lessH : Tree → Tree → Nat
  | .mk k _ c x t _, .mk k' _ c' x' t' _ => if k = k' ∧ k = 3 then (if Dm.sgn (Dm.V c x - Dm.V c' x') < 0 then 2 else 0) else if k = k' ∧ k = 4 then (if Op.bytesLess t.toList t'.toList = true then 2 else 0) else 1
theorem lessH_le (A B : Tree) : lessH A B ≤ 2 := by
  obtain ⟨k, y, c, x, t, ks⟩ := A
  obtain ⟨k', y', c', x', t', ks'⟩ := B
  rw [lessH]
  (repeat' split) <;> omega
end Go.Proofs.YtdkgapapdjefdaaGreatDoor

/- Walks: the program's Less of any two values. -/
namespace Go.Proofs.YtdkgapapdjefdaaGreatDoor
open Go.RowKit

theorem told_yes (b : Bool) : (Value.agg #[.int .i64 2, .bool b, .int .i64 0, .int .i64 0, .string ⟨#[]⟩, .slice none 0 0]) = told (if b = true then 2 else 0) := by cases b <;> rfl

set_option maxHeartbeats 2000000 in
theorem less_null (k : Int) (y : Bool) (c x : Int) (t : ByteArray) (l : Value) (k' : Int) (y' : Bool) (c' x' : Int) (t' : ByteArray) (l' : Value) (w : World) (h3 : ¬ (k = k' ∧ k = 3)) (h4 : ¬ (k = k' ∧ k = 4)) :
    Calls Tryz.prog 54 #[.agg #[.int .i64 k, .bool y, .int .i64 c, .int .i64 x, .string t, l], .agg #[.int .i64 k', .bool y', .int .i64 c', .int .i64 x', .string t', l']] w fun e w' => e = .returned (told 1) ∧ Below w.heap.size w w' := by
  by_cases e : k = k'
  · subst e
    have n3 : ¬ k = 3 := fun q => h3 ⟨rfl, q⟩
    have n4 : ¬ k = 4 := fun q => h4 ⟨rfl, q⟩
    clear h3 h4
    go_enter Tryz.func54, Tryz.ntmps54
    go_wp2_with fail
    refine (null_any _).mono ?_
    rintro e w9 ⟨rfl, hb⟩
    obtain ⟨_, _, R, hw⟩ := box3 hb
    clear hb
    obtain ⟨a0, a1, a2, a3, a4, a5⟩ := R.tell
    obtain ⟨f0, f1, f2, f3, f4, f5⟩ := R.thaw
    have lb := R.low
    go_wp2
    exact bodyPost_ret (v := told 1) (by simp [results, Tryz.results54, go_sem, a0, a1, a2, a3, a4, a5, kd, yd]) rfl ⟨rfl, ((((((hw.setCell (by simp; omega) _).setCell (by simp; omega) _).setCell (by simp; omega) _).setCell (by simp; omega) _).setCell (by simp; omega) _).setCell (by simp; omega) _)⟩
  · have e' : (k != k') = true := by simp [e]
    clear h3 h4
    go_enter Tryz.func54, Tryz.ntmps54
    go_wp2_with fail
    refine (null_any _).mono ?_
    rintro e w9 ⟨rfl, hb⟩
    obtain ⟨_, _, R, hw⟩ := box3 hb
    clear hb
    obtain ⟨a0, a1, a2, a3, a4, a5⟩ := R.tell
    obtain ⟨f0, f1, f2, f3, f4, f5⟩ := R.thaw
    have lb := R.low
    go_wp2
    exact bodyPost_ret (v := told 1) (by simp [results, Tryz.results54, go_sem, a0, a1, a2, a3, a4, a5, kd, yd]) rfl ⟨rfl, ((((((hw.setCell (by simp; omega) _).setCell (by simp; omega) _).setCell (by simp; omega) _).setCell (by simp; omega) _).setCell (by simp; omega) _).setCell (by simp; omega) _)⟩

theorem less_any (A B : Tree) (v u : Array Value) (b b' : Nat) (w : World) (hM : Mem b w A v) (hM' : Mem b' w B u) (hA : (wrongF A 0 1).1 = 0) (hB : (wrongF B 0 1).1 = 0) :
    Calls Tryz.prog 54 #[.agg v, .agg u] w fun e w' => e = .returned (told (lessH A B)) ∧ Below w.heap.size w w' := by
  obtain ⟨k, y, c, x, t, ks⟩ := A
  obtain ⟨k', y', c', x', t', ks'⟩ := B
  rw [Mem] at hM hM'
  obtain ⟨_, _, a, cap, rfl, _⟩ := hM
  obtain ⟨_, _, a', cap', rfl, _⟩ := hM'
  rw [lessH]
  by_cases h3 : k = k' ∧ k = 3
  · rw [if_pos h3]
    obtain ⟨rfl, rfl⟩ := h3
    rw [wf_num (by omega)] at hA hB
    have q := less_num y y' c x c' x' (.string t) (.slice a ks.length cap) (.string t') (.slice a' ks'.length cap') w hA hB
    rw [told_yes] at q
    simpa only [decide_eq_true_eq] using q
  · rw [if_neg h3]
    by_cases h4 : k = k' ∧ k = 4
    · rw [if_pos h4]
      obtain ⟨rfl, rfl⟩ := h4
      have q := less_text y y' c x c' x' t t' (.slice a ks.length cap) (.slice a' ks'.length cap') w
      rw [told_yes] at q
      exact q
    · rw [if_neg h4]
      exact less_null k y c x t _ k' y' c' x' t' _ w h3 h4
end Go.Proofs.YtdkgapapdjefdaaGreatDoor
