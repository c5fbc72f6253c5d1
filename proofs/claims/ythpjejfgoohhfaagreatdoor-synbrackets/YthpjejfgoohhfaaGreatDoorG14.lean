/- Values as trees: what is wrong with one, how it lies in memory. -/
import Derived.Test.YthpjejfgoohhfaaGreatDoorG07
import Derived.Test.YthpjejfgoohhfaaGreatDoorG11
import Derived.Shelf.Unicode.ValidAny
namespace Go.Proofs.YthpjejfgoohhfaaGreatDoor
open Go.RowKit Go.Shelf Go.Lib

def wrongT (t : ByteArray) : Int := if (1000 : Int) < (t.size : Int) then 4 else if Lib.validD t.data.toList then 0 else 2

mutual
def wrongF : Tree → Nat → Nat → Int × Nat
  | .mk k _ c x t ks, s, d =>
    if 2000 < s + 1 ∨ 20 < d then (4, s + 1) else if k = 1 ∨ k = 2 then (0, s + 1) else if k = 3 then (Dm.wrongN c x, s + 1) else if k = 4 then (wrongT t, s + 1)
    else if k = 5 then (if 200 < ks.length then (5, s + 1) else wrongL ks (s + 1) (d + 1)) else (1, s + 1)
def wrongL : List Tree → Nat → Nat → Int × Nat
  | [], s, _ => (0, s)
  | v :: vs, s, d => if (wrongF v s d).1 = 0 then wrongL vs (wrongF v s d).2 d else wrongF v s d
end

mutual
theorem wrongF_bd : ∀ (T : Tree) (s d : Nat), s ≤ 2000 → (wrongF T s d).2 ≤ 2001 ∧ ((wrongF T s d).1 = 0 → (wrongF T s d).2 ≤ 2000)
  | .mk k y c x t ks, s, d, hs => by
    rw [wrongF]
    by_cases h1 : 2000 < s + 1 ∨ 20 < d
    · rw [if_pos h1]; exact ⟨by simp; omega, fun h => by simp at h⟩
    rw [if_neg h1]
    by_cases h2 : k = 1 ∨ k = 2
    · rw [if_pos h2]; exact ⟨by simp; omega, fun _ => by simp; omega⟩
    rw [if_neg h2]
    by_cases h3 : k = 3
    · rw [if_pos h3]; exact ⟨by simp; omega, fun _ => by simp; omega⟩
    rw [if_neg h3]
    by_cases h4 : k = 4
    · rw [if_pos h4]; exact ⟨by simp; omega, fun _ => by simp; omega⟩
    rw [if_neg h4]
    by_cases h5 : k = 5
    · rw [if_pos h5]
      by_cases h6 : 200 < ks.length
      · rw [if_pos h6]; exact ⟨by simp; omega, fun _ => by simp; omega⟩
      · rw [if_neg h6]; exact wrongL_bd ks (s + 1) (d + 1) (by omega)
    · rw [if_neg h5]; exact ⟨by simp; omega, fun _ => by simp; omega⟩
theorem wrongL_bd : ∀ (ks : List Tree) (s d : Nat), s ≤ 2000 → (wrongL ks s d).2 ≤ 2001 ∧ ((wrongL ks s d).1 = 0 → (wrongL ks s d).2 ≤ 2000)
  | [], s, d, hs => by rw [wrongL]; exact ⟨by simp; omega, fun _ => by simp; omega⟩
  | v :: vs, s, d, hs => by
    rw [wrongL]
    have h := wrongF_bd v s d hs
    by_cases h1 : (wrongF v s d).1 = 0
    · rw [if_pos h1]; exact wrongL_bd vs _ d (h.2 h1)
    · rw [if_neg h1]; exact h
end

/-- the library's two tables -/
def Tabs (w : World) : Prop := Lib.Utf8Tabs (Tryz.laysValid_ren.g 3) (Tryz.laysValid_ren.g 4) w
theorem Tabs.below {B : Nat} {w w' : World} (h : Tabs w) (hb : Below B w w') (l3 : Tryz.laysValid_ren.g 3 < B) (l4 : Tryz.laysValid_ren.g 4 < B) : Tabs w' := by
  obtain ⟨h1, h2⟩ := h
  refine ⟨fun c hc => (hb.cell (p := ⟨_, c, none⟩) l3).trans (h1 c hc), fun i hi => ⟨(hb.cell (p := ⟨_, 2 * i, none⟩) l4).trans (h2 i hi).1, (hb.cell (p := ⟨_, 2 * i + 1, none⟩) l4).trans (h2 i hi).2⟩⟩

set_option maxHeartbeats 1000000 in
theorem wrongText_any (t : ByteArray) (w : World) (hs : t.size ≤ 9223372036854775807) (hT : Tabs w) :
    Calls Tryz.prog 110 #[.string t] w fun e w' => e = .returned (.int .i64 (wrongT t)) ∧ Below w.heap.size w w' := by
  have cV : Calls Tryz.prog 126 #[.string t] w _ := Any.utf8_ValidString Tryz.laysValid t w hs hT
  unfold wrongT
  generalize Lib.validD t.data.toList = V at cV ⊢
  by_cases hl : (1000 : Int) < (t.size : Int)
  · rw [if_pos hl]
    clear cV
    go_enter Tryz.func110, Tryz.ntmps110
    go_wp2
    go_ret
    exact ⟨rfl, Below.refl _ _⟩
  · rw [if_neg hl]
    cases V
    all_goals
      go_enter Tryz.func110, Tryz.ntmps110
      go_wp2_with (go_at_call 126; refine cV.mono ?_; rintro e w' ⟨rfl, hb⟩)
      go_ret
      exact ⟨rfl, hb⟩
end Go.Proofs.YthpjejfgoohhfaaGreatDoor

/- Walks: look.wrongList, out of what look.wrong tells of each. -/
namespace Go.Proofs.YthpjejfgoohhfaaGreatDoor
open Go.RowKit

/-- what look.wrong tells of a tree -/
def WrongC (T : Tree) : Prop := ∀ (B : Nat) (w : World) (v : Array Value) (p s d : Nat), Mem B w T v → B ≤ p → St w p s → s ≤ 2000 → 1 ≤ d → d ≤ 21 → Tabs w → Tryz.laysValid_ren.g 3 < B → Tryz.laysValid_ren.g 4 < B →
  Calls Tryz.prog 95 #[.pointer (some ⟨p, 0, none⟩), .agg v, .int .i64 (d : Int)] w fun e w' => e = .returned (.int .i64 (wrongF T s d).1) ∧ St w' p (wrongF T s d).2 ∧ Below B w w'

theorem wrongL_nil (s d : Nat) : wrongL [] s d = (0, s) := by rw [wrongL]
theorem wrongL_ok {u : Tree} {us : List Tree} {s d : Nat} (h : (wrongF u s d).1 = 0) : wrongL (u :: us) s d = wrongL us (wrongF u s d).2 d := by rw [wrongL, if_pos h]
theorem wrongL_no {u : Tree} {us : List Tree} {s d : Nat} (h : ¬ (wrongF u s d).1 = 0) : wrongL (u :: us) s d = wrongF u s d := by rw [wrongL, if_neg h]

set_option maxHeartbeats 1000000 in
theorem wrongList_long (ks : List Tree) (a : Option Addr) (cap : Nat) (w : World) (p : Nat) (d : Int) (hl : (200 : Int) < (ks.length : Int)) :
    Calls Tryz.prog 111 #[.pointer (some ⟨p, 0, none⟩), .slice a ks.length cap, .int .i64 d] w fun e w' => e = .returned (.int .i64 5) ∧ w' = w := by
  go_enter Tryz.func111, Tryz.ntmps111
  go_wp2
  go_ret
  exact ⟨rfl, rfl⟩

set_option maxHeartbeats 1000000 in
theorem wrongList_nil (a : Option Addr) (cap : Nat) (w : World) (p : Nat) (d : Int) :
    Calls Tryz.prog 111 #[.pointer (some ⟨p, 0, none⟩), .slice a 0 cap, .int .i64 d] w fun e w' => e = .returned (.int .i64 0) ∧ w' = w := by
  go_enter Tryz.func111, Tryz.ntmps111
  go_wp2
  go_loop [15] (fun i => i = .int .i64 0) (fun _ => 0)
  case atStart => rfl
  case round =>
    subst hrel
    go_wp2
    go_ret
    exact ⟨rfl, rfl⟩

set_option maxHeartbeats 2000000 in
theorem wrongList_of (ks : List Tree) (IH : ∀ u ∈ ks, WrongC u) (B : Nat) (w : World) (b off cap p s d : Nat) (hm : MemL B w ks b off) (hlt : b < B) (hl : ks.length ≤ 200) (hp : B ≤ p) (hS : St w p s) (hs : s ≤ 2000) (hd1 : 1 ≤ d) (hd : d ≤ 21) (hT : Tabs w) (g3 : Tryz.laysValid_ren.g 3 < B) (g4 : Tryz.laysValid_ren.g 4 < B) :
    Calls Tryz.prog 111 #[.pointer (some ⟨p, 0, none⟩), .slice (some ⟨b, off, none⟩) ks.length cap, .int .i64 (d : Int)] w fun e w' => e = .returned (.int .i64 (wrongL ks s d).1) ∧ St w' p (wrongL ks s d).2 ∧ Below B w w' := by
  have hl' : ¬ (200 : Int) < (ks.length : Int) := by omega
  have IH' := hide IH
  have hm' := hide hm
  have hT' := hide hT
  have G' := hide (And.intro g3 g4)
  have S0 := hide hS
  have hBw : B ≤ w.heap.size := Nat.le_of_lt (Nat.lt_of_le_of_lt hp hS.2.2)
  clear IH hm hT g3 g4 hS
  go_enter Tryz.func111, Tryz.ntmps111
  go_wp2
  go_loopw [15] (fun i wr => ∃ m si : Nat, m ≤ ks.length ∧ i = .int .i64 (m : Int) ∧ Hid (wrongL ks s d = wrongL (ks.drop m) si d) ∧ si ≤ 2000 ∧ Hid (St wr p si) ∧ Hid (Below B w wr)) (fun i _ => ks.length - (intOf i).toNat)
  case atStart => exact ⟨0, s, Nat.zero_le _, rfl, hide rfl, hs, S0, hide (Below.refl _ _)⟩
  case round =>
    obtain ⟨m, si, hml, rfl, H, hsi, HS, HB⟩ := hrel
    clear S0
    by_cases hlt2 : m < ks.length
    · have hi1 : (m : Int) < (ks.length : Int) := by omega
      obtain ⟨u, hu⟩ : ∃ u, ks[m]? = some u := ⟨_, List.getElem?_eq_getElem hlt2⟩
      have hdrop : ks.drop m = u :: ks.drop (m + 1) := by
        rw [List.drop_eq_getElem_cons hlt2]
        congr 1
        rw [List.getElem?_eq_getElem hlt2] at hu
        exact Option.some.inj hu
      have HU := hide (unhide IH' u (List.mem_of_getElem? hu))
      obtain ⟨cs, h6, hmu⟩ := MemL.at (MemL.below (unhide HB) hlt (unhide hm')) m u hu
      have HM := hide hmu
      rw [hdrop] at H
      have hbd := hide (wrongF_bd u si d hsi)
      cases u with
      | mk k y c x t kk =>
        rw [Mem] at hmu
        obtain ⟨ht, hk, a', cap', rfl, _⟩ := hmu
        obtain ⟨u0, u1, u2, u3, u4, u5, hu6, c0, c1, c2, c3, c4, c5⟩ := h6
        simp only [Array.mk.injEq, List.cons.injEq, and_true] at hu6
        obtain ⟨rfl, rfl, rfl, rfl, rfl, rfl⟩ := hu6
        clear hu hdrop ht hk
        have hcap : ks.length ≤ 200 := hl
        go_wp2_with fail
        have hbB : B ≤ wr.heap.size := Nat.le_trans hBw (unhide HB).size
        have hba := (Below.refl B wr).alloc hbB (.cells #[.int .i64 k, .bool y, .int .i64 c, .int .i64 x, .string t, .slice a' kk.length cap'] 26)
        have hbw := (unhide HB).trans hba
        refine (unhide HU B _ _ p si d (Mem.below hba (unhide HM)) hp ((unhide HS).below ((Below.refl _ _).alloc (Nat.le_refl _) _) (unhide HS).2.2) hsi hd1 hd (Tabs.below (unhide hT') hbw (unhide G').1 (unhide G').2) (unhide G').1 (unhide G').2).mono ?_
        rintro e w2 ⟨rfl, hS2, hb2⟩
        have HB2 := hide (hbw.trans hb2)
        have HS2 := hide hS2
        clear hS2 hb2 hba hbw HB HS HM
        by_cases hr : (wrongF (.mk k y c x t kk) si d).1 = 0
        · have hz : ((wrongF (.mk k y c x t kk) si d).1 != 0) = false := by simp [hr]
          have H2 := hide (wrongL_ok (us := ks.drop (m + 1)) hr)
          have hle := (unhide hbd).2 hr
          generalize wrongF (.mk k y c x t kk) si d = R at *
          clear hr
          go_wp2
          go_round
          case rel => exact ⟨m + 1, R.2, by omega, by go_num, hide ((unhide H).trans (unhide H2)), hle, HS2, HB2⟩
          case measure => simp [intOf]; omega
        · have hz : ((wrongF (.mk k y c x t kk) si d).1 != 0) = true := by simp [hr]
          have H2 := hide ((unhide H).trans (wrongL_no (us := ks.drop (m + 1)) hr))
          generalize wrongF (.mk k y c x t kk) si d = R at *
          clear hr
          go_wp2
          go_ret
          rw [unhide H2]
          exact ⟨rfl, unhide HS2, unhide HB2⟩
    · obtain rfl : m = ks.length := by omega
      have H2 : Hid (wrongL ks s d = (0, si)) := by
        have h := unhide H
        rw [List.drop_length, wrongL_nil] at h
        exact hide h
      go_wp2
      go_ret
      rw [unhide H2]
      exact ⟨rfl, unhide HS, unhide HB⟩
end Go.Proofs.YthpjejfgoohhfaaGreatDoor

/- Walks: look.wrong, Wrong. -/
namespace Go.Proofs.YthpjejfgoohhfaaGreatDoor
open Go.RowKit

theorem St.inc {w : World} {p s : Nat} {o : Obj} (h : St w p s) : St ((w.setCell ⟨p, 0, none⟩ (.int .i64 ((s : Int) + 1))).alloc o) p (s + 1) := by
  obtain ⟨h1, h2, h3⟩ := h
  have g : St (w.setCell ⟨p, 0, none⟩ (.int .i64 ((s : Int) + 1))) p (s + 1) := by
    refine ⟨?_, ?_, by simpa [World.setCell] using h3⟩
    · simp [go_sem, h1]
    · simp [go_sem, h2]
  exact g.below (vbelow_new _ o) g.2.2

theorem wf_much {k : Int} {y : Bool} {c x : Int} {t : ByteArray} {ks : List Tree} {s d : Nat} (h : 2000 < s + 1 ∨ 20 < d) : wrongF (.mk k y c x t ks) s d = (4, s + 1) := by rw [wrongF, if_pos h]
theorem wf_plain {k : Int} {y : Bool} {c x : Int} {t : ByteArray} {ks : List Tree} {s d : Nat} (h : ¬ (2000 < s + 1 ∨ 20 < d)) (hk : k = 1 ∨ k = 2) : wrongF (.mk k y c x t ks) s d = (0, s + 1) := by rw [wrongF, if_neg h, if_pos hk]
theorem wf_num {y : Bool} {c x : Int} {t : ByteArray} {ks : List Tree} {s d : Nat} (h : ¬ (2000 < s + 1 ∨ 20 < d)) : wrongF (.mk 3 y c x t ks) s d = (Dm.wrongN c x, s + 1) := by rw [wrongF, if_neg h, if_neg (by omega), if_pos rfl]
theorem wf_text {y : Bool} {c x : Int} {t : ByteArray} {ks : List Tree} {s d : Nat} (h : ¬ (2000 < s + 1 ∨ 20 < d)) : wrongF (.mk 4 y c x t ks) s d = (wrongT t, s + 1) := by rw [wrongF, if_neg h, if_neg (by omega), if_neg (by omega), if_pos rfl]
theorem wf_list {y : Bool} {c x : Int} {t : ByteArray} {ks : List Tree} {s d : Nat} (h : ¬ (2000 < s + 1 ∨ 20 < d)) : wrongF (.mk 5 y c x t ks) s d = if 200 < ks.length then (5, s + 1) else wrongL ks (s + 1) (d + 1) := by rw [wrongF, if_neg h, if_neg (by omega), if_neg (by omega), if_neg (by omega), if_pos rfl]
theorem wf_else {k : Int} {y : Bool} {c x : Int} {t : ByteArray} {ks : List Tree} {s d : Nat} (h : ¬ (2000 < s + 1 ∨ 20 < d)) (h1 : ¬ k = 1) (h2 : ¬ k = 2) (h3 : ¬ k = 3) (h4 : ¬ k = 4) (h5 : ¬ k = 5) : wrongF (.mk k y c x t ks) s d = (1, s + 1) := by
  rw [wrongF, if_neg h, if_neg (by omega), if_neg h3, if_neg h4, if_neg h5]

set_option maxHeartbeats 2000000 in
theorem wrong_of (k : Int) (y : Bool) (c x : Int) (t : ByteArray) (ks : List Tree) (IH : ∀ u ∈ ks, WrongC u) : WrongC (.mk k y c x t ks) := by
  intro B w v p s d hM hp hS hs hd1 hd hT g3 g4
  rw [Mem] at hM
  obtain ⟨ht, hk, a, cap, rfl, hks⟩ := hM
  have hBw : B ≤ w.heap.size := Nat.le_of_lt (Nat.lt_of_le_of_lt hp hS.2.2)
  have SI := hide (hS.inc (o := .cells #[.int .i64 k, .bool y, .int .i64 c, .int .i64 x, .string t, .slice a ks.length cap] 26))
  have BI := hide (((Below.refl B w).setCell (p := ⟨p, 0, none⟩) hp (.int .i64 ((s : Int) + 1))).alloc (by simpa [World.setCell] using hBw) (.cells #[.int .i64 k, .bool y, .int .i64 c, .int .i64 x, .string t, .slice a ks.length cap] 26))
  obtain ⟨s1, s2, s3⟩ := hS
  have HM := hide hks
  have HT := hide hT
  have G' := hide (And.intro g3 g4)
  have IH' := hide IH
  clear hks hT g3 g4 IH
  by_cases h1 : 2000 < s + 1 ∨ 20 < d
  · rw [wf_much h1]
    by_cases h2 : 2000 < s + 1
    · have h2' : (2000 : Int) < (s : Int) + 1 := by omega
      clear h1
      go_enter Tryz.func95, Tryz.ntmps95
      go_wp2
      go_ret
      exact ⟨rfl, unhide SI, unhide BI⟩
    · have h2' : ¬ (2000 : Int) < (s : Int) + 1 := by omega
      have h3' : (20 : Int) < (d : Int) := by omega
      clear h1
      go_enter Tryz.func95, Tryz.ntmps95
      go_wp2
      go_ret
      exact ⟨rfl, unhide SI, unhide BI⟩
  · have h2' : ¬ (2000 : Int) < (s : Int) + 1 := by omega
    have h3' : ¬ (20 : Int) < (d : Int) := by omega
    have H1 := hide h1
    clear h1
    by_cases k1 : k = 1
    · subst k1
      rw [wf_plain (unhide H1) (.inl rfl)]
      go_enter Tryz.func95, Tryz.ntmps95
      go_wp2
      go_ret
      exact ⟨rfl, unhide SI, unhide BI⟩
    by_cases k2 : k = 2
    · subst k2
      rw [wf_plain (unhide H1) (.inr rfl)]
      go_enter Tryz.func95, Tryz.ntmps95
      go_wp2
      go_ret
      exact ⟨rfl, unhide SI, unhide BI⟩
    by_cases k3 : k = 3
    · subst k3
      rw [wf_num (unhide H1)]
      go_enter Tryz.func95, Tryz.ntmps95
      go_wp2_with fail
      refine (wrong_any c x _).mono ?_
      rintro e w2 ⟨rfl, hb⟩
      go_wp2
      go_ret
      exact ⟨rfl, (unhide SI).below hb (unhide SI).2.2, (unhide BI).trans (hb.mono (Nat.le_trans hBw (unhide BI).size))⟩
    by_cases k4 : k = 4
    · subst k4
      rw [wf_text (unhide H1)]
      go_enter Tryz.func95, Tryz.ntmps95
      go_wp2_with fail
      refine (wrongText_any t _ ht (Tabs.below (unhide HT) (unhide BI) (unhide G').1 (unhide G').2)).mono ?_
      rintro e w2 ⟨rfl, hb⟩
      go_wp2
      go_ret
      exact ⟨rfl, (unhide SI).below hb (unhide SI).2.2, (unhide BI).trans (hb.mono (Nat.le_trans hBw (unhide BI).size))⟩
    by_cases k5 : k = 5
    · subst k5
      rw [wf_list (unhide H1)]
      by_cases hlong : 200 < ks.length
      · rw [if_pos hlong]
        have hlong' : (200 : Int) < (ks.length : Int) := by omega
        go_enter Tryz.func95, Tryz.ntmps95
        go_wp2_with fail
        refine (wrongList_long ks a cap _ p _ hlong').mono ?_
        rintro e w2 ⟨rfl, rfl⟩
        go_wp2
        go_ret
        exact ⟨rfl, unhide SI, unhide BI⟩
      · rw [if_neg hlong]
        by_cases hnil : ks = []
        · subst hnil
          rw [wrongL_nil]
          simp only [List.length_nil] at SI BI ⊢
          go_enter Tryz.func95, Tryz.ntmps95
          go_wp2_with fail
          refine (wrongList_nil a cap _ p _).mono ?_
          rintro e w2 ⟨rfl, rfl⟩
          go_wp2
          go_ret
          exact ⟨rfl, unhide SI, unhide BI⟩
        · obtain ⟨b, off, rfl, hbB, hm⟩ := unhide HM hnil
          have HC := hide (fun wx (hb : Below B w wx) (hS : St wx p (s + 1)) => wrongList_of ks (unhide IH') B wx b off cap p (s + 1) (d + 1) (MemL.below hb hbB hm) hbB (by omega) hp hS (by omega) (by omega) (by omega) (Tabs.below (unhide HT) hb (unhide G').1 (unhide G').2) (unhide G').1 (unhide G').2)
          rw [show ((d + 1 : Nat) : Int) = (d : Int) + 1 by omega] at HC
          clear hm hnil hlong
          go_enter Tryz.func95, Tryz.ntmps95
          go_wp2_with fail
          refine (unhide HC _ (unhide BI) (unhide SI)).mono ?_
          rintro e w2 ⟨rfl, hS2, hb2⟩
          go_wp2
          go_ret
          exact ⟨rfl, hS2, (unhide BI).trans hb2⟩
    · rw [wf_else (unhide H1) k1 k2 k3 k4 k5]
      go_enter Tryz.func95, Tryz.ntmps95
      go_wp2
      go_ret
      exact ⟨rfl, unhide SI, unhide BI⟩
end Go.Proofs.YthpjejfgoohhfaaGreatDoor

/- Walks: Wrong of every value; Less, Equal of two numbers and of two texts. -/
namespace Go.Proofs.YthpjejfgoohhfaaGreatDoor
open Go.RowKit

mutual
theorem wrong_all : ∀ T : Tree, WrongC T
  | .mk k y c x t ks => wrong_of k y c x t ks (fun u h => wrong_alls ks u h)
theorem wrong_alls : ∀ (ks : List Tree) (u : Tree), u ∈ ks → WrongC u
  | [], u, h => by cases h
  | v :: vs, u, h => by
    by_cases e : u = v
    · rw [e]; exact wrong_all v
    · exact wrong_alls vs u ((List.mem_cons.1 h).resolve_left e)
end
/-- the tables lie, and where -/
def TabsIn (B : Nat) (w : World) : Prop := Tabs w ∧ Tryz.laysValid_ren.g 3 < B ∧ Tryz.laysValid_ren.g 4 < B
theorem TabsIn.below {B : Nat} {w w' : World} (h : TabsIn B w) (hb : Below B w w') : TabsIn B w' := ⟨h.1.below hb h.2.1 h.2.2, h.2⟩

set_option maxHeartbeats 1000000 in
theorem logicWrong_any (T : Tree) (v : Array Value) (B : Nat) (w : World) (hB : B ≤ w.heap.size) (hM : Mem B w T v) (hT : TabsIn B w) :
    Calls Tryz.prog 75 #[.agg v] w fun e w' => e = .returned (.int .i64 (wrongF T 0 1).1) ∧ Below w.heap.size w w' := by
  have hM' := hide hM
  have HT := hide hT
  cases T with
  | mk k y c x t ks =>
    rw [Mem] at hM
    obtain ⟨_, _, a, cap, rfl, _⟩ := hM
    clear hT
    go_enter Tryz.func75, Tryz.ntmps75
    go_wp2_with fail
    have ba : ∀ o o' : Obj, Below w.heap.size w ((w.alloc o).alloc o') := fun o o' => ((Below.refl _ _).alloc (Nat.le_refl _) _).alloc (by simp) _
    have hb := ba (.cells #[.int .i64 k, .bool y, .int .i64 c, .int .i64 x, .string t, .slice a ks.length cap] 26) (.cells #[.int .i64 0] 170)
    refine (wrong_all (.mk k y c x t ks) w.heap.size _ _ (w.heap.size + 1) 0 1 (Mem.below hb (Mem.mono hB (unhide hM'))) (by omega) ⟨by simp [go_sem], by simp [go_sem], by simp⟩ (by omega) (by omega) (by omega) ?_ ?_ ?_).mono ?_
    · exact ((unhide HT).below (hb.mono hB)).1
    · exact Nat.lt_of_lt_of_le (unhide HT).2.1 hB
    · exact Nat.lt_of_lt_of_le (unhide HT).2.2 hB
    rintro e w2 ⟨rfl, _, hb2⟩
    go_wp2
    go_ret
    exact ⟨rfl, hb.trans hb2⟩

theorem box4 {w w1 : World} {s t u r : TypeId} {a b m : Array Value} {c0 c1 c2 c3 c4 c5 : Value} (hb : Below (w.heap.size + 1 + 1 + 1) ((((w.alloc (.cells a s)).alloc (.cells b t)).alloc (.cells #[c0, c1, c2, c3, c4, c5] u)).alloc (.cells m r)) w1) :
    Box w1 (w.heap.size + 1 + 1) #[c0, c1, c2, c3, c4, c5] ∧ Below w.heap.size w w1 := by
  have C := (Box.new (w := (w.alloc (.cells a s)).alloc (.cells b t)) (t := u) (a0 := c0) (a1 := c1) (a2 := c2) (a3 := c3) (a4 := c4) (a5 := c5)).over (o := .cells m r)
  have C' := C.keep hb (by simp <;> omega)
  refine ⟨by simpa using C', (((((Below.refl w.heap.size w).alloc (Nat.le_refl _) _).alloc (by simp) _).alloc (by simp; omega) _).alloc (by simp; omega) _).trans (hb.mono (by omega))⟩
end Go.Proofs.YthpjejfgoohhfaaGreatDoor
