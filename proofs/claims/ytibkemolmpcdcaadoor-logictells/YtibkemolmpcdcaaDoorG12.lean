/- Shelf contracts laid at this seat, in plain words. -/
import Derived.Test.YtibkemolmpcdcaaDoorProg
import Derived.Shelf.Unicode.ValidAny
import Derived.Test.YtibkemolmpcdcaaDoorG02
import Derived.Test.YtibkemolmpcdcaaDoorG11
namespace Go.Proofs.YtibkemolmpcdcaaDoor
open Go.Proofs Go.Shelf
def Tryd.laysValid_ren : Go.Shelf.Ren := ⟨fun | 196 => 40 | 259 => 54 | n => n, fun | 9 => 9 | 4 => 4 | 3 => 3 | 5 => 5 | 12 => 12 | 119 => 85 | 0 => 0 | 46 => 89 | 139 => 88 | 138 => 87 | 53 => 65 | n => n, fun | 3 => 0 | 4 => 1 | n => n⟩
theorem Tryd.laysValid : Go.Proofs.Lays.n196 Tryd.prog Tryd.laysValid_ren := {
  mixed := by kernel_rfl
  f196 := Tryd.func40.trans (congrArg some (by kernel_rfl))
  f259 := Tryd.func54.trans (congrArg some (by kernel_rfl))
  t0 := Tryd.underlying0
  a0 := Tryd.isAgg0
  z0 := Tryd.sizeOf0
  v0 := Tryd.zeroValue0
  t3 := Tryd.underlying3
  a3 := Tryd.isAgg3
  z3 := Tryd.sizeOf3
  v3 := Tryd.zeroValue3
  t4 := Tryd.underlying4
  a4 := Tryd.isAgg4
  z4 := Tryd.sizeOf4
  v4 := Tryd.zeroValue4
  t5 := Tryd.underlying5
  a5 := Tryd.isAgg5
  z5 := Tryd.sizeOf5
  v5 := Tryd.zeroValue5
  t9 := Tryd.underlying9
  a9 := Tryd.isAgg9
  z9 := Tryd.sizeOf9
  v9 := Tryd.zeroValue9
  t12 := Tryd.underlying12
  a12 := Tryd.isAgg12
  z12 := Tryd.sizeOf12
  v12 := Tryd.zeroValue12
  t46 := Tryd.underlying89
  a46 := Tryd.isAgg89
  z46 := Tryd.sizeOf89
  v46 := Tryd.zeroValue89
  t53 := Tryd.underlying65
  a53 := Tryd.isAgg65
  z53 := Tryd.sizeOf65
  v53 := Tryd.zeroValue65
  t119 := Tryd.underlying85
  a119 := Tryd.isAgg85
  z119 := Tryd.sizeOf85
  t138 := Tryd.underlying87
  a138 := Tryd.isAgg87
  z138 := Tryd.sizeOf87
  v138 := Tryd.zeroValue87
  t139 := Tryd.underlying88
  a139 := Tryd.isAgg88
  z139 := Tryd.sizeOf88
  v139 := Tryd.zeroValue88
  g3 := by kernel_rfl
  g4 := by kernel_rfl }
end Go.Proofs.YtibkemolmpcdcaaDoor

/- Values as trees: what is wrong with one, how it lies in memory. -/
namespace Go.Proofs.YtibkemolmpcdcaaDoor
open Go.RowKit Go.Shelf Go.Lib

inductive Tree where
  | mk (k : Int) (y : Bool) (c x : Int) (t : ByteArray) (ks : List Tree)

def wrongT (t : ByteArray) : Int := if (1000 : Int) < (t.size : Int) then 4 else if Lib.validD t.data.toList then 0 else 2

mutual
def wrongF : Tree → Nat → Nat → Int × Nat
  | .mk k _ c x t ks, s, d =>
    if 2000 < s + 1 ∨ 20 < d then (4, s + 1) else if k = 1 ∨ k = 2 then (0, s + 1) else if k = 3 then (Dm.wrongN c x, s + 1) else if k = 4 then (wrongT t, s + 1)
    else if k = 5 then (if 200 < ks.length then (5, s + 1) else wrongL ks (s + 1) (d + 1)) else (1, s + 1)
def wrongL : List Tree → Nat → Nat → Int × Nat
  | [], s, _ => (0, s)
  | v :: vs, s, d => if (wrongF v s d).1 = 0 then wrongL vs (wrongF v s d).2 d else wrongF v s d
end

mutual
theorem wrongF_bd : ∀ (T : Tree) (s d : Nat), s ≤ 2000 → (wrongF T s d).2 ≤ 2001 ∧ ((wrongF T s d).1 = 0 → (wrongF T s d).2 ≤ 2000)
  | .mk k y c x t ks, s, d, hs => by
    rw [wrongF]
    by_cases h1 : 2000 < s + 1 ∨ 20 < d
    · rw [if_pos h1]; exact ⟨by simp; omega, fun h => by simp at h⟩
    rw [if_neg h1]
    by_cases h2 : k = 1 ∨ k = 2
    · rw [if_pos h2]; exact ⟨by simp; omega, fun _ => by simp; omega⟩
    rw [if_neg h2]
    by_cases h3 : k = 3
    · rw [if_pos h3]; exact ⟨by simp; omega, fun _ => by simp; omega⟩
    rw [if_neg h3]
    by_cases h4 : k = 4
    · rw [if_pos h4]; exact ⟨by simp; omega, fun _ => by simp; omega⟩
    rw [if_neg h4]
    by_cases h5 : k = 5
    · rw [if_pos h5]
      by_cases h6 : 200 < ks.length
      · rw [if_pos h6]; exact ⟨by simp; omega, fun _ => by simp; omega⟩
      · rw [if_neg h6]; exact wrongL_bd ks (s + 1) (d + 1) (by omega)
    · rw [if_neg h5]; exact ⟨by simp; omega, fun _ => by simp; omega⟩
theorem wrongL_bd : ∀ (ks : List Tree) (s d : Nat), s ≤ 2000 → (wrongL ks s d).2 ≤ 2001 ∧ ((wrongL ks s d).1 = 0 → (wrongL ks s d).2 ≤ 2000)
  | [], s, d, hs => by rw [wrongL]; exact ⟨by simp; omega, fun _ => by simp; omega⟩
  | v :: vs, s, d, hs => by
    rw [wrongL]
    have h := wrongF_bd v s d hs
    by_cases h1 : (wrongF v s d).1 = 0
    · rw [if_pos h1]; exact wrongL_bd vs _ d (h.2 h1)
    · rw [if_neg h1]; exact h
end

/-- six cells in a row -/
def Six (w : World) (b o : Nat) (u : Array Value) : Prop := ∃ u0 u1 u2 u3 u4 u5, u = #[u0, u1, u2, u3, u4, u5] ∧ w.cell? ⟨b, o, none⟩ = some u0 ∧ w.cell? ⟨b, o + 1, none⟩ = some u1 ∧ w.cell? ⟨b, o + 2, none⟩ = some u2 ∧ w.cell? ⟨b, o + 3, none⟩ = some u3 ∧ w.cell? ⟨b, o + 4, none⟩ = some u4 ∧ w.cell? ⟨b, o + 5, none⟩ = some u5
theorem Six.below {B : Nat} {w w' : World} {b o : Nat} {u : Array Value} (h : Six w b o u) (hb : Below B w w') (l : b < B) : Six w' b o u := by
  have c : ∀ o, w'.cell? ⟨b, o, none⟩ = w.cell? ⟨b, o, none⟩ := fun o => hb.cell (p := ⟨b, o, none⟩) l
  obtain ⟨u0, u1, u2, u3, u4, u5, hu, h0, h1, h2, h3, h4, h5⟩ := h
  exact ⟨u0, u1, u2, u3, u4, u5, hu, by rw [c, h0], by rw [c, h1], by rw [c, h2], by rw [c, h3], by rw [c, h4], by rw [c, h5]⟩

mutual
/-- a tree in memory, below B -/
def Mem (B : Nat) (w : World) : Tree → Array Value → Prop
  | .mk k y c x t ks, v => t.size ≤ 9223372036854775807 ∧ ks.length ≤ 9223372036854775807 ∧
    ∃ (a : Option Addr) (cap : Nat), v = #[.int .i64 k, .bool y, .int .i64 c, .int .i64 x, .string t, .slice a ks.length cap] ∧ (ks ≠ [] → ∃ b off, a = some ⟨b, off, none⟩ ∧ b < B ∧ MemL B w ks b off)
def MemL (B : Nat) (w : World) : List Tree → Nat → Nat → Prop
  | [], _, _ => True
  | u :: us, b, off => (∃ cs, Six w b off cs ∧ Mem B w u cs) ∧ MemL B w us b (off + 6)
end

mutual
theorem Mem.below {B : Nat} {w w' : World} (hb : Below B w w') : ∀ {T : Tree} {v : Array Value}, Mem B w T v → Mem B w' T v
  | .mk k y c x t ks, v, h => by
    rw [Mem] at h ⊢
    obtain ⟨h1, h2, a, cap, hv, hk⟩ := h
    refine ⟨h1, h2, a, cap, hv, fun hne => ?_⟩
    obtain ⟨b, off, ha, hlt, hm⟩ := hk hne
    exact ⟨b, off, ha, hlt, MemL.below hb hlt hm⟩
theorem MemL.below {B : Nat} {w w' : World} (hb : Below B w w') : ∀ {ks : List Tree} {b off : Nat}, b < B → MemL B w ks b off → MemL B w' ks b off
  | [], _, _, _, _ => by rw [MemL]; trivial
  | u :: us, b, off, hlt, h => by
    rw [MemL] at h ⊢
    obtain ⟨⟨cs, h6, hm⟩, hr⟩ := h
    exact ⟨⟨cs, h6.below hb hlt, Mem.below hb hm⟩, MemL.below hb hlt hr⟩
end
theorem MemL.at {B : Nat} {w : World} : ∀ {ks : List Tree} {b off : Nat}, MemL B w ks b off → ∀ (i : Nat) (u : Tree), ks[i]? = some u → ∃ cs, Six w b (off + i * 6) cs ∧ Mem B w u cs
  | [], b, off, _, i, u, hi => by simp at hi
  | v :: vs, b, off, h, 0, u, hi => by
    rw [MemL] at h
    simp only [List.getElem?_cons_zero, Option.some.injEq] at hi
    subst hi
    simpa using h.1
  | v :: vs, b, off, h, i + 1, u, hi => by
    rw [MemL] at h
    obtain ⟨cs, h6, hm⟩ := MemL.at h.2 i u (by simpa using hi)
    exact ⟨cs, by rw [show off + (i + 1) * 6 = off + 6 + i * 6 by omega]; exact h6, hm⟩

mutual
theorem Mem.mono {B B' : Nat} {w : World} (hB : B ≤ B') : ∀ {T : Tree} {v : Array Value}, Mem B w T v → Mem B' w T v
  | .mk k y c x t ks, v, h => by
    rw [Mem] at h ⊢
    obtain ⟨h1, h2, a, cap, hv, hk⟩ := h
    refine ⟨h1, h2, a, cap, hv, fun hne => ?_⟩
    obtain ⟨b, off, ha, hlt, hm⟩ := hk hne
    exact ⟨b, off, ha, Nat.lt_of_lt_of_le hlt hB, MemL.mono hB hm⟩
theorem MemL.mono {B B' : Nat} {w : World} (hB : B ≤ B') : ∀ {ks : List Tree} {b off : Nat}, MemL B w ks b off → MemL B' w ks b off
  | [], _, _, _ => by rw [MemL]; trivial
  | u :: us, b, off, h => by
    rw [MemL] at h ⊢
    obtain ⟨⟨cs, h6, hm⟩, hr⟩ := h
    exact ⟨⟨cs, h6, Mem.mono hB hm⟩, MemL.mono hB hr⟩
end

/-- the library's two tables -/
def Tabs (w : World) : Prop := Lib.Utf8Tabs (Tryd.laysValid_ren.g 3) (Tryd.laysValid_ren.g 4) w
theorem Tabs.below {B : Nat} {w w' : World} (h : Tabs w) (hb : Below B w w') (l3 : Tryd.laysValid_ren.g 3 < B) (l4 : Tryd.laysValid_ren.g 4 < B) : Tabs w' := by
  obtain ⟨h1, h2⟩ := h
  refine ⟨fun c hc => (hb.cell (p := ⟨_, c, none⟩) l3).trans (h1 c hc), fun i hi => ⟨(hb.cell (p := ⟨_, 2 * i, none⟩) l4).trans (h2 i hi).1, (hb.cell (p := ⟨_, 2 * i + 1, none⟩) l4).trans (h2 i hi).2⟩⟩

/-- the counter -/
def St (w : World) (p s : Nat) : Prop := w.cell? ⟨p, 0, none⟩ = some (.int .i64 (s : Int)) ∧ w.frozen? ⟨p, 0, none⟩ = false ∧ p < w.heap.size
theorem St.below {n : Nat} {w w' : World} {p s : Nat} (h : St w p s) (hb : Below n w w') (l : p < n) : St w' p s :=
  ⟨(hb.cell (p := ⟨p, 0, none⟩) l).trans h.1, (hb.frozen (p := ⟨p, 0, none⟩) l).trans h.2.1, Nat.lt_of_lt_of_le h.2.2 hb.size⟩

set_option maxHeartbeats 1000000 in
theorem wrongText_any (t : ByteArray) (w : World) (hs : t.size ≤ 9223372036854775807) (hT : Tabs w) :
    Calls Tryd.prog 29 #[.string t] w fun e w' => e = .returned (.int .i64 (wrongT t)) ∧ Below w.heap.size w w' := by
  have cV : Calls Tryd.prog 40 #[.string t] w _ := Any.utf8_ValidString Tryd.laysValid t w hs hT
  unfold wrongT
  generalize Lib.validD t.data.toList = V at cV ⊢
  by_cases hl : (1000 : Int) < (t.size : Int)
  · rw [if_pos hl]
    clear cV
    go_enter Tryd.func29, Tryd.ntmps29
    go_wp2
    go_ret
    exact ⟨rfl, Below.refl _ _⟩
  · rw [if_neg hl]
    cases V
    all_goals
      go_enter Tryd.func29, Tryd.ntmps29
      go_wp2_with (go_at_call 40; refine cV.mono ?_; rintro e w' ⟨rfl, hb⟩)
      go_ret
      exact ⟨rfl, hb⟩
end Go.Proofs.YtibkemolmpcdcaaDoor

/- Walks: look.wrongList, out of what look.wrong tells of each. -/
namespace Go.Proofs.YtibkemolmpcdcaaDoor
open Go.RowKit

/-- what look.wrong tells of a tree -/
def WrongC (T : Tree) : Prop := ∀ (B : Nat) (w : World) (v : Array Value) (p s d : Nat), Mem B w T v → B ≤ p → St w p s → s ≤ 2000 → 1 ≤ d → d ≤ 21 → Tabs w → Tryd.laysValid_ren.g 3 < B → Tryd.laysValid_ren.g 4 < B →
  Calls Tryd.prog 18 #[.pointer (some ⟨p, 0, none⟩), .agg v, .int .i64 (d : Int)] w fun e w' => e = .returned (.int .i64 (wrongF T s d).1) ∧ St w' p (wrongF T s d).2 ∧ Below B w w'

theorem wrongL_nil (s d : Nat) : wrongL [] s d = (0, s) := by rw [wrongL]
theorem wrongL_ok {u : Tree} {us : List Tree} {s d : Nat} (h : (wrongF u s d).1 = 0) : wrongL (u :: us) s d = wrongL us (wrongF u s d).2 d := by rw [wrongL, if_pos h]
theorem wrongL_no {u : Tree} {us : List Tree} {s d : Nat} (h : ¬ (wrongF u s d).1 = 0) : wrongL (u :: us) s d = wrongF u s d := by rw [wrongL, if_neg h]

set_option maxHeartbeats 1000000 in
theorem wrongList_long (ks : List Tree) (a : Option Addr) (cap : Nat) (w : World) (p : Nat) (d : Int) (hl : (200 : Int) < (ks.length : Int)) :
    Calls Tryd.prog 30 #[.pointer (some ⟨p, 0, none⟩), .slice a ks.length cap, .int .i64 d] w fun e w' => e = .returned (.int .i64 5) ∧ w' = w := by
  go_enter Tryd.func30, Tryd.ntmps30
  go_wp2
  go_ret
  exact ⟨rfl, rfl⟩

set_option maxHeartbeats 1000000 in
theorem wrongList_nil (a : Option Addr) (cap : Nat) (w : World) (p : Nat) (d : Int) :
    Calls Tryd.prog 30 #[.pointer (some ⟨p, 0, none⟩), .slice a 0 cap, .int .i64 d] w fun e w' => e = .returned (.int .i64 0) ∧ w' = w := by
  go_enter Tryd.func30, Tryd.ntmps30
  go_wp2
  go_loop [15] (fun i => i = .int .i64 0) (fun _ => 0)
  case atStart => rfl
  case round =>
    subst hrel
    go_wp2
    go_ret
    exact ⟨rfl, rfl⟩

set_option maxHeartbeats 2000000 in
theorem wrongList_of (ks : List Tree) (IH : ∀ u ∈ ks, WrongC u) (B : Nat) (w : World) (b off cap p s d : Nat) (hm : MemL B w ks b off) (hlt : b < B) (hl : ks.length ≤ 200) (hp : B ≤ p) (hS : St w p s) (hs : s ≤ 2000) (hd1 : 1 ≤ d) (hd : d ≤ 21) (hT : Tabs w) (g3 : Tryd.laysValid_ren.g 3 < B) (g4 : Tryd.laysValid_ren.g 4 < B) :
    Calls Tryd.prog 30 #[.pointer (some ⟨p, 0, none⟩), .slice (some ⟨b, off, none⟩) ks.length cap, .int .i64 (d : Int)] w fun e w' => e = .returned (.int .i64 (wrongL ks s d).1) ∧ St w' p (wrongL ks s d).2 ∧ Below B w w' := by
  have hl' : ¬ (200 : Int) < (ks.length : Int) := by omega
  have IH' := hide IH
  have hm' := hide hm
  have hT' := hide hT
  have G' := hide (And.intro g3 g4)
  have S0 := hide hS
  have hBw : B ≤ w.heap.size := Nat.le_of_lt (Nat.lt_of_le_of_lt hp hS.2.2)
  clear IH hm hT g3 g4 hS
  go_enter Tryd.func30, Tryd.ntmps30
  go_wp2
  go_loopw [15] (fun i wr => ∃ m si : Nat, m ≤ ks.length ∧ i = .int .i64 (m : Int) ∧ Hid (wrongL ks s d = wrongL (ks.drop m) si d) ∧ si ≤ 2000 ∧ Hid (St wr p si) ∧ Hid (Below B w wr)) (fun i _ => ks.length - (intOf i).toNat)
  case atStart => exact ⟨0, s, Nat.zero_le _, rfl, hide rfl, hs, S0, hide (Below.refl _ _)⟩
  case round =>
    obtain ⟨m, si, hml, rfl, H, hsi, HS, HB⟩ := hrel
    clear S0
    by_cases hlt2 : m < ks.length
    · have hi1 : (m : Int) < (ks.length : Int) := by omega
      obtain ⟨u, hu⟩ : ∃ u, ks[m]? = some u := ⟨_, List.getElem?_eq_getElem hlt2⟩
      have hdrop : ks.drop m = u :: ks.drop (m + 1) := by
        rw [List.drop_eq_getElem_cons hlt2]
        congr 1
        rw [List.getElem?_eq_getElem hlt2] at hu
        exact Option.some.inj hu
      have HU := hide (unhide IH' u (List.mem_of_getElem? hu))
      obtain ⟨cs, h6, hmu⟩ := MemL.at (MemL.below (unhide HB) hlt (unhide hm')) m u hu
      have HM := hide hmu
      rw [hdrop] at H
      have hbd := hide (wrongF_bd u si d hsi)
      cases u with
      | mk k y c x t kk =>
        rw [Mem] at hmu
        obtain ⟨ht, hk, a', cap', rfl, _⟩ := hmu
        obtain ⟨u0, u1, u2, u3, u4, u5, hu6, c0, c1, c2, c3, c4, c5⟩ := h6
        simp only [Array.mk.injEq, List.cons.injEq, and_true] at hu6
        obtain ⟨rfl, rfl, rfl, rfl, rfl, rfl⟩ := hu6
        clear hu hdrop ht hk
        have hcap : ks.length ≤ 200 := hl
        go_wp2_with fail
        have hbB : B ≤ wr.heap.size := Nat.le_trans hBw (unhide HB).size
        have hba := (Below.refl B wr).alloc hbB (.cells #[.int .i64 k, .bool y, .int .i64 c, .int .i64 x, .string t, .slice a' kk.length cap'] 26)
        have hbw := (unhide HB).trans hba
        refine (unhide HU B _ _ p si d (Mem.below hba (unhide HM)) hp ((unhide HS).below ((Below.refl _ _).alloc (Nat.le_refl _) _) (unhide HS).2.2) hsi hd1 hd (Tabs.below (unhide hT') hbw (unhide G').1 (unhide G').2) (unhide G').1 (unhide G').2).mono ?_
        rintro e w2 ⟨rfl, hS2, hb2⟩
        have HB2 := hide (hbw.trans hb2)
        have HS2 := hide hS2
        clear hS2 hb2 hba hbw HB HS HM
        by_cases hr : (wrongF (.mk k y c x t kk) si d).1 = 0
        · have hz : ((wrongF (.mk k y c x t kk) si d).1 != 0) = false := by simp [hr]
          have H2 := hide (wrongL_ok (us := ks.drop (m + 1)) hr)
          have hle := (unhide hbd).2 hr
          generalize wrongF (.mk k y c x t kk) si d = R at *
          clear hr
          go_wp2
          go_round
          case rel => exact ⟨m + 1, R.2, by omega, by go_num, hide ((unhide H).trans (unhide H2)), hle, HS2, HB2⟩
          case measure => simp [intOf]; omega
        · have hz : ((wrongF (.mk k y c x t kk) si d).1 != 0) = true := by simp [hr]
          have H2 := hide ((unhide H).trans (wrongL_no (us := ks.drop (m + 1)) hr))
          generalize wrongF (.mk k y c x t kk) si d = R at *
          clear hr
          go_wp2
          go_ret
          rw [unhide H2]
          exact ⟨rfl, unhide HS2, unhide HB2⟩
    · obtain rfl : m = ks.length := by omega
      have H2 : Hid (wrongL ks s d = (0, si)) := by
        have h := unhide H
        rw [List.drop_length, wrongL_nil] at h
        exact hide h
      go_wp2
      go_ret
      rw [unhide H2]
      exact ⟨rfl, unhide HS, unhide HB⟩
end Go.Proofs.YtibkemolmpcdcaaDoor

/- Walks: look.wrong, Wrong. -/
namespace Go.Proofs.YtibkemolmpcdcaaDoor
open Go.RowKit

theorem St.inc {w : World} {p s : Nat} {o : Obj} (h : St w p s) : St ((w.setCell ⟨p, 0, none⟩ (.int .i64 ((s : Int) + 1))).alloc o) p (s + 1) := by
  obtain ⟨h1, h2, h3⟩ := h
  have g : St (w.setCell ⟨p, 0, none⟩ (.int .i64 ((s : Int) + 1))) p (s + 1) := by
    refine ⟨?_, ?_, by simpa [World.setCell] using h3⟩
    · simp [go_sem, h1]
    · simp [go_sem, h2]
  exact g.below (vbelow_new _ o) g.2.2

theorem wf_much {k : Int} {y : Bool} {c x : Int} {t : ByteArray} {ks : List Tree} {s d : Nat} (h : 2000 < s + 1 ∨ 20 < d) : wrongF (.mk k y c x t ks) s d = (4, s + 1) := by rw [wrongF, if_pos h]
theorem wf_plain {k : Int} {y : Bool} {c x : Int} {t : ByteArray} {ks : List Tree} {s d : Nat} (h : ¬ (2000 < s + 1 ∨ 20 < d)) (hk : k = 1 ∨ k = 2) : wrongF (.mk k y c x t ks) s d = (0, s + 1) := by rw [wrongF, if_neg h, if_pos hk]
theorem wf_num {y : Bool} {c x : Int} {t : ByteArray} {ks : List Tree} {s d : Nat} (h : ¬ (2000 < s + 1 ∨ 20 < d)) : wrongF (.mk 3 y c x t ks) s d = (Dm.wrongN c x, s + 1) := by rw [wrongF, if_neg h, if_neg (by omega), if_pos rfl]
theorem wf_text {y : Bool} {c x : Int} {t : ByteArray} {ks : List Tree} {s d : Nat} (h : ¬ (2000 < s + 1 ∨ 20 < d)) : wrongF (.mk 4 y c x t ks) s d = (wrongT t, s + 1) := by rw [wrongF, if_neg h, if_neg (by omega), if_neg (by omega), if_pos rfl]
theorem wf_list {y : Bool} {c x : Int} {t : ByteArray} {ks : List Tree} {s d : Nat} (h : ¬ (2000 < s + 1 ∨ 20 < d)) : wrongF (.mk 5 y c x t ks) s d = if 200 < ks.length then (5, s + 1) else wrongL ks (s + 1) (d + 1) := by rw [wrongF, if_neg h, if_neg (by omega), if_neg (by omega), if_neg (by omega), if_pos rfl]
theorem wf_else {k : Int} {y : Bool} {c x : Int} {t : ByteArray} {ks : List Tree} {s d : Nat} (h : ¬ (2000 < s + 1 ∨ 20 < d)) (h1 : ¬ k = 1) (h2 : ¬ k = 2) (h3 : ¬ k = 3) (h4 : ¬ k = 4) (h5 : ¬ k = 5) : wrongF (.mk k y c x t ks) s d = (1, s + 1) := by
  rw [wrongF, if_neg h, if_neg (by omega), if_neg h3, if_neg h4, if_neg h5]

set_option maxHeartbeats 2000000 in
theorem wrong_of (k : Int) (y : Bool) (c x : Int) (t : ByteArray) (ks : List Tree) (IH : ∀ u ∈ ks, WrongC u) : WrongC (.mk k y c x t ks) := by
  intro B w v p s d hM hp hS hs hd1 hd hT g3 g4
  rw [Mem] at hM
  obtain ⟨ht, hk, a, cap, rfl, hks⟩ := hM
  have hBw : B ≤ w.heap.size := Nat.le_of_lt (Nat.lt_of_le_of_lt hp hS.2.2)
  have SI := hide (hS.inc (o := .cells #[.int .i64 k, .bool y, .int .i64 c, .int .i64 x, .string t, .slice a ks.length cap] 26))
  have BI := hide (((Below.refl B w).setCell (p := ⟨p, 0, none⟩) hp (.int .i64 ((s : Int) + 1))).alloc (by simpa [World.setCell] using hBw) (.cells #[.int .i64 k, .bool y, .int .i64 c, .int .i64 x, .string t, .slice a ks.length cap] 26))
  obtain ⟨s1, s2, s3⟩ := hS
  have HM := hide hks
  have HT := hide hT
  have G' := hide (And.intro g3 g4)
  have IH' := hide IH
  clear hks hT g3 g4 IH
  by_cases h1 : 2000 < s + 1 ∨ 20 < d
  · rw [wf_much h1]
    by_cases h2 : 2000 < s + 1
    · have h2' : (2000 : Int) < (s : Int) + 1 := by omega
      clear h1
      go_enter Tryd.func18, Tryd.ntmps18
      go_wp2
      go_ret
      exact ⟨rfl, unhide SI, unhide BI⟩
    · have h2' : ¬ (2000 : Int) < (s : Int) + 1 := by omega
      have h3' : (20 : Int) < (d : Int) := by omega
      clear h1
      go_enter Tryd.func18, Tryd.ntmps18
      go_wp2
      go_ret
      exact ⟨rfl, unhide SI, unhide BI⟩
  · have h2' : ¬ (2000 : Int) < (s : Int) + 1 := by omega
    have h3' : ¬ (20 : Int) < (d : Int) := by omega
    have H1 := hide h1
    clear h1
    by_cases k1 : k = 1
    · subst k1
      rw [wf_plain (unhide H1) (.inl rfl)]
      go_enter Tryd.func18, Tryd.ntmps18
      go_wp2
      go_ret
      exact ⟨rfl, unhide SI, unhide BI⟩
    by_cases k2 : k = 2
    · subst k2
      rw [wf_plain (unhide H1) (.inr rfl)]
      go_enter Tryd.func18, Tryd.ntmps18
      go_wp2
      go_ret
      exact ⟨rfl, unhide SI, unhide BI⟩
    by_cases k3 : k = 3
    · subst k3
      rw [wf_num (unhide H1)]
      go_enter Tryd.func18, Tryd.ntmps18
      go_wp2_with fail
      refine (wrong_any c x _).mono ?_
      rintro e w2 ⟨rfl, hb⟩
      go_wp2
      go_ret
      exact ⟨rfl, (unhide SI).below hb (unhide SI).2.2, (unhide BI).trans (hb.mono (Nat.le_trans hBw (unhide BI).size))⟩
    by_cases k4 : k = 4
    · subst k4
      rw [wf_text (unhide H1)]
      go_enter Tryd.func18, Tryd.ntmps18
      go_wp2_with fail
      refine (wrongText_any t _ ht (Tabs.below (unhide HT) (unhide BI) (unhide G').1 (unhide G').2)).mono ?_
      rintro e w2 ⟨rfl, hb⟩
      go_wp2
      go_ret
      exact ⟨rfl, (unhide SI).below hb (unhide SI).2.2, (unhide BI).trans (hb.mono (Nat.le_trans hBw (unhide BI).size))⟩
    by_cases k5 : k = 5
    · subst k5
      rw [wf_list (unhide H1)]
      by_cases hlong : 200 < ks.length
      · rw [if_pos hlong]
        have hlong' : (200 : Int) < (ks.length : Int) := by omega
        go_enter Tryd.func18, Tryd.ntmps18
        go_wp2_with fail
        refine (wrongList_long ks a cap _ p _ hlong').mono ?_
        rintro e w2 ⟨rfl, rfl⟩
        go_wp2
        go_ret
        exact ⟨rfl, unhide SI, unhide BI⟩
      · rw [if_neg hlong]
        by_cases hnil : ks = []
        · subst hnil
          rw [wrongL_nil]
          simp only [List.length_nil] at SI BI ⊢
          go_enter Tryd.func18, Tryd.ntmps18
          go_wp2_with fail
          refine (wrongList_nil a cap _ p _).mono ?_
          rintro e w2 ⟨rfl, rfl⟩
          go_wp2
          go_ret
          exact ⟨rfl, unhide SI, unhide BI⟩
        · obtain ⟨b, off, rfl, hbB, hm⟩ := unhide HM hnil
          have HC := hide (fun wx (hb : Below B w wx) (hS : St wx p (s + 1)) => wrongList_of ks (unhide IH') B wx b off cap p (s + 1) (d + 1) (MemL.below hb hbB hm) hbB (by omega) hp hS (by omega) (by omega) (by omega) (Tabs.below (unhide HT) hb (unhide G').1 (unhide G').2) (unhide G').1 (unhide G').2)
          rw [show ((d + 1 : Nat) : Int) = (d : Int) + 1 by omega] at HC
          clear hm hnil hlong
          go_enter Tryd.func18, Tryd.ntmps18
          go_wp2_with fail
          refine (unhide HC _ (unhide BI) (unhide SI)).mono ?_
          rintro e w2 ⟨rfl, hS2, hb2⟩
          go_wp2
          go_ret
          exact ⟨rfl, hS2, (unhide BI).trans hb2⟩
    · rw [wf_else (unhide H1) k1 k2 k3 k4 k5]
      go_enter Tryd.func18, Tryd.ntmps18
      go_wp2
      go_ret
      exact ⟨rfl, unhide SI, unhide BI⟩
end Go.Proofs.YtibkemolmpcdcaaDoor

/- Walks: the document's Look and Wrong tell what look.wrong and Wrong tell. -/
namespace Go.Proofs.YtibkemolmpcdcaaDoor
open Go.RowKit

set_option maxHeartbeats 400000 in
theorem rwrong2_any (c x : Int) (w : World) :
    Calls Tryd.prog 31 #[.agg #[.int .i64 c, .int .i64 x]] w fun e w' => e = .returned (.int .i64 (Dm.wrongN c x)) ∧ Below w.heap.size w w' := by
  go_enter Tryd.func31, Tryd.ntmps31
  go_wp2
  all_goals
    go_ret
    refine ⟨ret_int ?_, (Below.refl _ _).alloc (Nat.le_refl _) _⟩
    unfold Dm.wrongN
    (repeat' split) <;> first | rfl | (exfalso; omega) | (simp_all; done)

theorem St.up {w : World} {p s : Nat} {o : Obj} (h : St w p s) : St ((w.alloc o).setCell ⟨p, 0, none⟩ (.int .i64 ((s : Int) + 1))) p (s + 1) := by
  obtain ⟨h1, h2, h3⟩ := h.below (vbelow_new w o) h.2.2
  refine ⟨?_, ?_, by simpa [World.setCell] using h3⟩
  · simp [go_sem, h1]
  · simp [go_sem, h2]

/-- what Look tells of a tree -/
def LookC (T : Tree) : Prop := ∀ (B : Nat) (w : World) (v : Array Value) (p s d : Nat), Mem B w T v → B ≤ p → St w p s → s ≤ 2000 → 1 ≤ d → d ≤ 21 →
  Calls Tryd.prog 19 #[.pointer (some ⟨p, 0, none⟩), .agg v, .int .i64 (d : Int)] w fun e w' => e = .returned (.int .i64 (wrongF T s d).1) ∧ St w' p (wrongF T s d).2 ∧ Below B w w'

set_option maxRecDepth 100000 in
set_option maxHeartbeats 4000000 in
theorem look_of (k : Int) (y : Bool) (c x : Int) (t : ByteArray) (ks : List Tree) (IH : ∀ u ∈ ks, LookC u) : LookC (.mk k y c x t ks) := by
  intro B w v p s d hM hp hS hs hd1 hd
  rw [Mem] at hM
  obtain ⟨ht, hk, a, cap, rfl, hks⟩ := hM
  have hBw : B ≤ w.heap.size := Nat.le_of_lt (Nat.lt_of_le_of_lt hp hS.2.2)
  have SI := hide (hS.up (o := .cells #[.int .i64 k, .bool y, .int .i64 c, .int .i64 x, .string t, .slice a ks.length cap] 26))
  have BI := hide (((Below.refl B w).alloc hBw (.cells #[.int .i64 k, .bool y, .int .i64 c, .int .i64 x, .string t, .slice a ks.length cap] 26)).setCell (p := ⟨p, 0, none⟩) hp (.int .i64 ((s : Int) + 1)))
  obtain ⟨s1, s2, s3⟩ := hS.below (vbelow_new w (.cells #[.int .i64 k, .bool y, .int .i64 c, .int .i64 x, .string t, .slice a ks.length cap] 26)) hS.2.2
  have s4 : (p == w.heap.size) = false := by rw [beq_eq_false_iff_ne]; exact Nat.ne_of_lt hS.2.2
  have s5 : ¬ w.heap.size = p := Nat.ne_of_gt hS.2.2
  have HM := hide hks
  have IH' := hide IH
  clear hks IH
  by_cases h1 : 2000 < s + 1 ∨ 20 < d
  · rw [wf_much h1]
    by_cases h2 : 2000 < s + 1
    · have h2' : (2000 : Int) < (s : Int) + 1 := by omega
      clear h1
      go_enter Tryd.func19, Tryd.ntmps19
      go_wp2
      go_ret
      exact ⟨rfl, unhide SI, unhide BI⟩
    · have h2' : ¬ (2000 : Int) < (s : Int) + 1 := by omega
      have h3' : (20 : Int) < (d : Int) := by omega
      clear h1
      go_enter Tryd.func19, Tryd.ntmps19
      go_wp2
      go_ret
      exact ⟨rfl, unhide SI, unhide BI⟩
  · have h2' : ¬ (2000 : Int) < (s : Int) + 1 := by omega
    have h3' : ¬ (20 : Int) < (d : Int) := by omega
    have H1 := hide h1
    clear h1
    by_cases k1 : k = 1
    · subst k1
      rw [wf_plain (unhide H1) (.inl rfl)]
      go_enter Tryd.func19, Tryd.ntmps19
      go_wp2
      go_ret
      exact ⟨rfl, unhide SI, unhide BI⟩
    by_cases k2 : k = 2
    · subst k2
      rw [wf_plain (unhide H1) (.inr rfl)]
      go_enter Tryd.func19, Tryd.ntmps19
      go_wp2
      go_ret
      exact ⟨rfl, unhide SI, unhide BI⟩
    by_cases k3 : k = 3
    · subst k3
      rw [wf_num (unhide H1)]
      go_enter Tryd.func19, Tryd.ntmps19
      go_wp2_with fail
      refine (rwrong2_any c x _).mono ?_
      rintro e w2 ⟨rfl, hb⟩
      go_wp2
      go_ret
      exact ⟨rfl, (unhide SI).below hb (unhide SI).2.2, (unhide BI).trans (hb.mono (Nat.le_trans hBw (unhide BI).size))⟩
    by_cases k4 : k = 4
    · subst k4
      rw [wf_text (unhide H1)]
      unfold wrongT
      by_cases hl : (1000 : Int) < (t.size : Int)
      · rw [if_pos hl]
        go_enter Tryd.func19, Tryd.ntmps19
        go_wp2
        go_ret
        exact ⟨rfl, unhide SI, unhide BI⟩
      · rw [if_neg hl]
        have HU := hide (fun w => utf8_is t w (by omega))
        generalize Lib.validD t.data.toList = V at *
        cases V
        · go_enter Tryd.func19, Tryd.ntmps19
          go_wp2_with fail
          refine (unhide HU _).mono ?_
          rintro e w2 ⟨rfl, rfl⟩
          go_wp2
          go_ret
          exact ⟨rfl, unhide SI, unhide BI⟩
        · go_enter Tryd.func19, Tryd.ntmps19
          go_wp2_with fail
          refine (unhide HU _).mono ?_
          rintro e w2 ⟨rfl, rfl⟩
          go_wp2
          go_ret
          exact ⟨rfl, unhide SI, unhide BI⟩
    by_cases k5 : k = 5
    · subst k5
      rw [wf_list (unhide H1)]
      by_cases hlong : 200 < ks.length
      · rw [if_pos hlong]
        have hlong' : (200 : Int) < (ks.length : Int) := by omega
        go_enter Tryd.func19, Tryd.ntmps19
        go_wp2
        go_ret
        exact ⟨rfl, unhide SI, unhide BI⟩
      · rw [if_neg hlong]
        have hlong' : ¬ (200 : Int) < (ks.length : Int) := by omega
        by_cases hnil : ks = []
        · subst hnil
          rw [wrongL_nil]
          simp only [List.length_nil] at SI BI s1 s2 s3 hlong' ⊢
          go_enter Tryd.func19, Tryd.ntmps19
          go_wp2
          go_loopw [61] (fun i wr => i = .int .i64 0 ∧ Hid (St wr p (s + 1)) ∧ Hid (Below B w wr)) (fun _ _ => 0)
          case atStart => exact ⟨rfl, SI, BI⟩
          case round =>
            obtain ⟨rfl, HS, HB⟩ := hrel
            go_wp2
            go_ret
            exact ⟨rfl, unhide HS, unhide HB⟩
        · obtain ⟨b, off, rfl, hbB, hm⟩ := unhide HM hnil
          have hm' := hide hm
          clear hm hnil HM
          go_enter Tryd.func19, Tryd.ntmps19
          go_wp2
          go_loopw [61] (fun i wr => ∃ m si : Nat, m ≤ ks.length ∧ i = .int .i64 (m : Int) ∧ Hid (wrongL ks (s + 1) (d + 1) = wrongL (ks.drop m) si (d + 1)) ∧ si ≤ 2000 ∧ Hid (St wr p si) ∧ Hid (Below B w wr)) (fun i _ => ks.length - (intOf i).toNat)
          case atStart => exact ⟨0, s + 1, Nat.zero_le _, rfl, hide rfl, by omega, SI, BI⟩
          case round =>
            obtain ⟨m, si, hml, rfl, H, hsi, HS, HB⟩ := hrel
            clear SI BI s1 s2 s3 s4 s5
            by_cases hlt2 : m < ks.length
            · have hi1 : (m : Int) < (ks.length : Int) := by omega
              obtain ⟨u, hu⟩ : ∃ u, ks[m]? = some u := ⟨_, List.getElem?_eq_getElem hlt2⟩
              have hdrop : ks.drop m = u :: ks.drop (m + 1) := by
                rw [List.drop_eq_getElem_cons hlt2]
                congr 1
                rw [List.getElem?_eq_getElem hlt2] at hu
                exact Option.some.inj hu
              have HU := hide (unhide IH' u (List.mem_of_getElem? hu))
              obtain ⟨cs, h6, hmu⟩ := MemL.at (MemL.below (unhide HB) hbB (unhide hm')) m u hu
              have HM := hide hmu
              rw [hdrop] at H
              have hbd := hide (wrongF_bd u si (d + 1) hsi)
              cases u with
              | mk k y c x t kk =>
                rw [Mem] at hmu
                obtain ⟨ht, hk, a', cap', rfl, _⟩ := hmu
                obtain ⟨u0, u1, u2, u3, u4, u5, hu6, c0, c1, c2, c3, c4, c5⟩ := h6
                simp only [Array.mk.injEq, List.cons.injEq, and_true] at hu6
                obtain ⟨rfl, rfl, rfl, rfl, rfl, rfl⟩ := hu6
                clear hu hdrop ht hk
                have hcap : ks.length ≤ 200 := by omega
                go_wp2_with fail
                have hbB' : B ≤ wr.heap.size := Nat.le_trans hBw (unhide HB).size
                have hba := (Below.refl B wr).alloc hbB' (.cells #[.int .i64 k, .bool y, .int .i64 c, .int .i64 x, .string t, .slice a' kk.length cap'] 26)
                have hbw := (unhide HB).trans hba
                have HC := unhide HU B _ _ p si (d + 1) (Mem.below hba (unhide HM)) hp ((unhide HS).below ((Below.refl _ _).alloc (Nat.le_refl _) _) (unhide HS).2.2) hsi (by omega) (by omega)
                rw [show ((d + 1 : Nat) : Int) = (d : Int) + 1 by omega] at HC
                refine HC.mono ?_
                rintro e w2 ⟨rfl, hS2, hb2⟩
                have HB2 := hide (hbw.trans hb2)
                have HS2 := hide hS2
                clear hS2 hb2 hba hbw HB HS HM HC
                by_cases hr : (wrongF (.mk k y c x t kk) si (d + 1)).1 = 0
                · have hz : ((wrongF (.mk k y c x t kk) si (d + 1)).1 != 0) = false := by simp [hr]
                  have H2 := hide (wrongL_ok (us := ks.drop (m + 1)) hr)
                  have hle := (unhide hbd).2 hr
                  generalize wrongF (.mk k y c x t kk) si (d + 1) = R at *
                  clear hr
                  go_wp2
                  go_round
                  case rel => exact ⟨m + 1, R.2, by omega, by go_num, hide ((unhide H).trans (unhide H2)), hle, HS2, HB2⟩
                  case measure => simp [intOf]; omega
                · have hz : ((wrongF (.mk k y c x t kk) si (d + 1)).1 != 0) = true := by simp [hr]
                  have H2 := hide ((unhide H).trans (wrongL_no (us := ks.drop (m + 1)) hr))
                  generalize wrongF (.mk k y c x t kk) si (d + 1) = R at *
                  clear hr
                  go_wp2
                  go_ret
                  rw [unhide H2]
                  exact ⟨rfl, unhide HS2, unhide HB2⟩
            · obtain rfl : m = ks.length := by omega
              have H2 : Hid (wrongL ks (s + 1) (d + 1) = (0, si)) := by
                have h := unhide H
                rw [List.drop_length, wrongL_nil] at h
                exact hide h
              go_wp2
              go_ret
              rw [unhide H2]
              exact ⟨rfl, unhide HS, unhide HB⟩
    · rw [wf_else (unhide H1) k1 k2 k3 k4 k5]
      by_cases kl : k < 1
      · go_enter Tryd.func19, Tryd.ntmps19
        go_wp2
        go_ret
        exact ⟨rfl, unhide SI, unhide BI⟩
      · have kg : (5 : Int) < k := by omega
        go_enter Tryd.func19, Tryd.ntmps19
        go_wp2
        go_ret
        exact ⟨rfl, unhide SI, unhide BI⟩

mutual
theorem look_all : ∀ T : Tree, LookC T
  | .mk k y c x t ks => look_of k y c x t ks (fun u h => look_alls ks u h)
theorem look_alls : ∀ (ks : List Tree) (u : Tree), u ∈ ks → LookC u
  | [], u, h => by cases h
  | v :: vs, u, h => by
    by_cases e : u = v
    · rw [e]; exact look_all v
    · exact look_alls vs u ((List.mem_cons.1 h).resolve_left e)
end

set_option maxHeartbeats 1000000 in
theorem dwrong_any (T : Tree) (v : Array Value) (w : World) (hM : Mem w.heap.size w T v) :
    Calls Tryd.prog 5 #[.agg v] w fun e w' => e = .returned (.int .i64 (wrongF T 0 1).1) ∧ Below w.heap.size w w' := by
  have HC := hide (fun wx (hb : Below w.heap.size w wx) (p : Nat) (hp : w.heap.size ≤ p) (hS : St wx p 0) => look_all T w.heap.size wx v p 0 1 (Mem.below hb hM) hp hS (by omega) (by omega) (by omega))
  cases T with
  | mk k y c x t ks =>
  rw [Mem] at hM
  obtain ⟨ht, hk, a, cap, rfl, hks⟩ := hM
  clear hks ht hk
  go_enter Tryd.func5, Tryd.ntmps5
  go_wp2_with fail
  refine (unhide HC _ (((Below.refl _ _).alloc (Nat.le_refl _) _).alloc (by simp) _) _ (by simp) ⟨by simp [go_sem], by simp [go_sem], by simp⟩).mono ?_
  rintro e w2 ⟨rfl, _, hb⟩
  have hw := (((Below.refl w.heap.size w).alloc (Nat.le_refl _) _).alloc (by simp) _).trans hb
  clear hb
  go_wp2
  go_ret
  exact ⟨rfl, hw⟩
end Go.Proofs.YtibkemolmpcdcaaDoor

/- Plain facts: when two trees are told the same. -/
namespace Go.Proofs.YtibkemolmpcdcaaDoor

mutual
/-- what matching.equal tells (yes 2, not known 1, no 0), and how many pairs it has counted -/
def eqF : Tree → Tree → Nat → Nat → Nat × Nat
  | .mk k y c x t ks, .mk k' y' c' x' t' ks', s, d =>
    if 2000 < s + 1 ∨ 20 < d then (1, s + 1)
    else if k = 1 ∨ k' = 1 then (if k = k' then 2 else 0, s + 1)
    else if k = k' then
      (if k = 2 then (if y = y' then 2 else 0, s + 1)
      else if k = 3 then (if c = c' ∧ x = x' then 2 else 0, s + 1)
      else if k = 4 then (if t.toList = t'.toList then 2 else 0, s + 1)
      else if k = 5 then (if ks.length = ks'.length then eqL ks ks' 2 (s + 1) (d + 1) else (0, s + 1))
      else (1, s + 1))
    else (1, s + 1)
def eqL : List Tree → List Tree → Nat → Nat → Nat → Nat × Nat
  | [], _, a, s, _ => (a, s)
  | _ :: _, [], a, s, _ => (a, s)
  | u :: us, v :: vs, a, s, d => if min a (eqF u v s d).1 = 0 ∨ 2000 < (eqF u v s d).2 then (min a (eqF u v s d).1, (eqF u v s d).2) else eqL us vs (min a (eqF u v s d).1) (eqF u v s d).2 d
end

mutual
/-- what a value says, bare of what its kind has not -/
def bareT : Tree → Tree
  | .mk k y c x t ks => .mk k (if k = 2 then y else false) (if k = 3 then c else 0) (if k = 3 then x else 0) (if k = 4 then t else ⟨#[]⟩) (if k = 5 then bareL ks else [])
def bareL : List Tree → List Tree
  | [] => []
  | u :: us => bareT u :: bareL us
end
theorem bareL_len : ∀ ks : List Tree, (bareL ks).length = ks.length
  | [] => by rw [bareL]
  | u :: us => by rw [bareL, List.length_cons, List.length_cons, bareL_len us]

mutual
theorem eq_sym : ∀ (A B : Tree) (s d : Nat), eqF A B s d = eqF B A s d
  | .mk k y c x t ks, .mk k' y' c' x' t' ks', s, d => by
    rw [eqF, eqF]
    by_cases h1 : 2000 < s + 1 ∨ 20 < d
    · rw [if_pos h1, if_pos h1]
    rw [if_neg h1, if_neg h1]
    by_cases h2 : k = 1 ∨ k' = 1
    · rw [if_pos h2, if_pos (Or.comm.1 h2)]
      by_cases e : k = k'
      · rw [if_pos e, if_pos e.symm]
      · rw [if_neg e, if_neg (Ne.symm e)]
    rw [if_neg h2, if_neg (fun q => h2 (Or.comm.1 q))]
    by_cases e : k = k'
    · subst e
      rw [if_pos rfl, if_pos rfl, eqL_sym ks ks' 2 (s + 1) (d + 1)]
      simp only [eq_comm (a := y), eq_comm (a := c), eq_comm (a := x), eq_comm (a := t.toList), eq_comm (a := ks.length)]
    · rw [if_neg e, if_neg (Ne.symm e)]
theorem eqL_sym : ∀ (ks ks' : List Tree) (a s d : Nat), eqL ks ks' a s d = eqL ks' ks a s d
  | [], [], a, s, d => rfl
  | [], v :: vs, a, s, d => by rw [eqL, eqL]
  | u :: us, [], a, s, d => by rw [eqL, eqL]
  | u :: us, v :: vs, a, s, d => by
    rw [eqL, eqL, eq_sym u v s d, eqL_sym us vs]
end

mutual
theorem eq_le : ∀ (A B : Tree) (s d : Nat), (eqF A B s d).1 ≤ 2
  | .mk k y c x t ks, .mk k' y' c' x' t' ks', s, d => by
    rw [eqF]
    have h := eqL_le ks ks' 2 (s + 1) (d + 1) (Nat.le_refl _)
    (repeat' split) <;> first | exact h | (simp only; omega) | (simp only; split <;> omega)
theorem eqL_le : ∀ (ks ks' : List Tree) (a s d : Nat), a ≤ 2 → (eqL ks ks' a s d).1 ≤ 2
  | [], _, a, s, d, h => by rw [eqL]; exact h
  | u :: us, [], a, s, d, h => by rw [eqL]; exact h
  | u :: us, v :: vs, a, s, d, h => by
    rw [eqL]
    have h2 := eq_le u v s d
    split
    · simp only; omega
    · exact eqL_le us vs _ _ d (by omega)
end

mutual
theorem wrongF_ge : ∀ (T : Tree) (s d : Nat), s ≤ (wrongF T s d).2
  | .mk k y c x t ks, s, d => by
    rw [wrongF]
    have h := wrongL_ge ks (s + 1) (d + 1)
    (repeat' split) <;> (try simp only) <;> omega
theorem wrongL_ge : ∀ (ks : List Tree) (s d : Nat), s ≤ (wrongL ks s d).2
  | [], s, d => by rw [wrongL]; exact Nat.le_refl _
  | v :: vs, s, d => by
    rw [wrongL]
    have h := wrongF_ge v s d
    have h2 := wrongL_ge vs (wrongF v s d).2 d
    split <;> omega
end

theorem tl_eq {t t' : ByteArray} : t.toList = t'.toList ↔ t = t' := by
  constructor
  · intro h
    have e1 : t.data.toList = t'.data.toList := by rw [← Lib.toList_data, ← Lib.toList_data]; exact h
    cases t; cases t'
    simp only at e1
    rw [Array.toList_inj.1 e1]
  · intro h; rw [h]

mutual
/-- of right values: no bound is met, and yes is told of the same alone -/
theorem eq_ok : ∀ (A B : Tree) (s s0 d : Nat), s ≤ s0 → s0 ≤ 2000 → (wrongF A s0 d).1 = 0 → (eqF A B s d).2 ≤ (wrongF A s0 d).2 ∧ ((eqF A B s d).1 = 2 ↔ bareT A = bareT B)
  | .mk k y c x t ks, .mk k' y' c' x' t' ks', s, s0, d, hs, h0, hw => by
    rw [wrongF] at hw ⊢
    by_cases h1 : 2000 < s0 + 1 ∨ 20 < d
    · rw [if_pos h1] at hw; exact absurd hw (by simp)
    rw [if_neg h1] at hw ⊢
    rw [eqF, if_neg (by omega), bareT, bareT]
    by_cases hk : k = k'
    · subst hk
      by_cases k1 : k = 1
      · subst k1
        simp
        omega
      rw [if_neg (by omega), if_pos rfl]
      by_cases k2 : k = 2
      · subst k2
        by_cases e : y = y'
        · simp [e]; omega
        · simp [e]; omega
      rw [if_neg (by omega)] at hw ⊢
      rw [if_neg k2]
      by_cases k3 : k = 3
      · subst k3
        by_cases e : c = c' ∧ x = x'
        · simp [e]; omega
        · simp [e]; omega
      rw [if_neg k3] at hw ⊢
      rw [if_neg k3]
      by_cases k4 : k = 4
      · subst k4
        by_cases e : t = t'
        · simp [e]; omega
        · simp [e, tl_eq]; omega
      rw [if_neg k4] at hw ⊢
      rw [if_neg k4]
      by_cases k5 : k = 5
      · subst k5
        rw [if_pos rfl] at hw ⊢
        rw [if_pos rfl]
        by_cases l2 : 200 < ks.length
        · rw [if_pos l2] at hw; exact absurd hw (by simp)
        rw [if_neg l2] at hw ⊢
        by_cases e : ks.length = ks'.length
        · rw [if_pos e]
          obtain ⟨i1, i2⟩ := eqL_ok ks ks' 2 (s + 1) (s0 + 1) (d + 1) e (Nat.le_refl _) (by omega) (by omega) hw
          refine ⟨i1, ?_⟩
          rw [i2]
          simp
        · rw [if_neg e]
          have hm := wrongL_ge ks (s0 + 1) (d + 1)
          refine ⟨Nat.le_trans (by omega : s + 1 ≤ s0 + 1) hm, ?_⟩
          constructor
          · intro q; simp at q
          · intro q
            exfalso
            simp at q
            exact e (by rw [← bareL_len ks, q, bareL_len])
      · rw [if_neg k5] at hw; exact absurd hw (by simp)
    · have hn : ∀ a b c d e a' b' c' d' e', ¬ Tree.mk k a b c d e = Tree.mk k' a' b' c' d' e' := by
        intro a b c d e a' b' c' d' e' q
        injection q with q1
        exact hk q1
      have hge : s + 1 ≤ (if k = 1 ∨ k = 2 then (0, s0 + 1) else if k = 3 then (Dm.wrongN c x, s0 + 1) else if k = 4 then (wrongT t, s0 + 1) else if k = 5 then if 200 < ks.length then (5, s0 + 1) else wrongL ks (s0 + 1) (d + 1) else (1, s0 + 1) : Int × Nat).2 := by
        have := wrongL_ge ks (s0 + 1) (d + 1)
        (repeat' split) <;> (try simp only) <;> omega
      by_cases h2 : k = 1 ∨ k' = 1
      · rw [if_pos h2, if_neg hk]
        exact ⟨hge, ⟨fun q => by simp at q, fun q => absurd q (hn _ _ _ _ _ _ _ _ _ _)⟩⟩
      · rw [if_neg h2, if_neg hk]
        exact ⟨hge, ⟨fun q => by simp at q, fun q => absurd q (hn _ _ _ _ _ _ _ _ _ _)⟩⟩
theorem eqL_ok : ∀ (ks ks' : List Tree) (a s s0 d : Nat), ks.length = ks'.length → a ≤ 2 → s ≤ s0 → s0 ≤ 2000 → (wrongL ks s0 d).1 = 0 → (eqL ks ks' a s d).2 ≤ (wrongL ks s0 d).2 ∧ ((eqL ks ks' a s d).1 = 2 ↔ (a = 2 ∧ bareL ks = bareL ks'))
  | [], [], a, s, s0, d, _, _, hs, _, _ => by rw [eqL, wrongL]; simp; exact hs
  | [], v :: vs, a, s, s0, d, hl, _, _, _, _ => by simp at hl
  | u :: us, [], a, s, s0, d, hl, _, _, _, _ => by simp at hl
  | u :: us, v :: vs, a, s, s0, d, hl, ha, hs, h0, hw => by
    rw [wrongL] at hw ⊢
    by_cases hu : (wrongF u s0 d).1 = 0
    · rw [if_pos hu] at hw ⊢
      obtain ⟨i1, i2⟩ := eq_ok u v s s0 d hs h0 hu
      have hb := (wrongF_bd u s0 d h0).2 hu
      have hle := eq_le u v s d
      have hge := wrongL_ge us (wrongF u s0 d).2 d
      rw [eqL]
      have n2 : ¬ 2000 < (eqF u v s d).2 := by omega
      by_cases hz : min a (eqF u v s d).1 = 0
      · rw [if_pos (.inl hz)]
        refine ⟨by simp only; omega, ⟨fun q => by simp only at q; omega, ?_⟩⟩
        rintro ⟨rfl, q⟩
        rw [bareL, bareL] at q
        injection q with q1 q2
        have := i2.2 q1
        omega
      · rw [if_neg (by omega)]
        obtain ⟨j1, j2⟩ := eqL_ok us vs (min a (eqF u v s d).1) (eqF u v s d).2 (wrongF u s0 d).2 d (by simpa using hl) (by omega) i1 hb hw
        refine ⟨j1, ?_⟩
        rw [j2, bareL, bareL]
        constructor
        · rintro ⟨q1, q2⟩
          refine ⟨by omega, ?_⟩
          rw [i2.1 (by omega), q2]
        · rintro ⟨rfl, q⟩
          injection q with q1 q2
          have := i2.2 q1
          exact ⟨by omega, q2⟩
    · rw [if_neg hu] at hw; exact absurd hw hu
end
mutual
theorem bare_bare : ∀ A : Tree, bareT (bareT A) = bareT A
  | .mk k y c x t ks => by
    rw [bareT, bareT]
    by_cases k5 : k = 5
    · subst k5
      simp [bareL_bare ks]
    · simp only [if_neg k5]
      congr 1 <;> split <;> rfl
theorem bareL_bare : ∀ ks : List Tree, bareL (bareL ks) = bareL ks
  | [] => by rw [bareL, bareL]
  | u :: us => by rw [bareL, bareL, bare_bare u, bareL_bare us]
end

mutual
/-- what Same tells -/
def sameB : Tree → Tree → Bool
  | .mk k y c x t ks, .mk k' y' c' x' t' ks' => decide (k = k') && decide (y = y') && decide (c = c') && decide (x = x') && decide (t.toList = t'.toList) && decide (ks.length = ks'.length) && sameL ks ks'
def sameL : List Tree → List Tree → Bool
  | [], _ => true
  | _ :: _, [] => true
  | u :: us, v :: vs => sameB u v && sameL us vs
end
mutual
theorem same_iff : ∀ (A B : Tree), sameB A B = true ↔ A = B
  | .mk k y c x t ks, .mk k' y' c' x' t' ks' => by
    rw [sameB]
    simp only [Bool.and_eq_true, decide_eq_true_eq, tl_eq]
    constructor
    · rintro ⟨⟨⟨⟨⟨⟨rfl, rfl⟩, rfl⟩, rfl⟩, rfl⟩, hl⟩, hs⟩
      rw [(sameL_iff ks ks' hl).1 hs]
    · intro q
      injection q with q1 q2 q3 q4 q5 q6
      subst q1 q2 q3 q4 q5 q6
      exact ⟨⟨⟨⟨⟨⟨rfl, rfl⟩, rfl⟩, rfl⟩, rfl⟩, rfl⟩, (sameL_iff ks ks rfl).2 rfl⟩
theorem sameL_iff : ∀ (ks ks' : List Tree), ks.length = ks'.length → (sameL ks ks' = true ↔ ks = ks')
  | [], [], _ => by simp [sameL]
  | [], v :: vs, h => by simp at h
  | u :: us, [], h => by simp at h
  | u :: us, v :: vs, h => by
    rw [sameL, Bool.and_eq_true, same_iff u v, sameL_iff us vs (by simpa using h), List.cons.injEq]
end
/-- the two answers agree -/
theorem eq_same {A B : Tree} (hA : (wrongF A 0 1).1 = 0) : decide ((eqF A B 0 1).1 = 2) = sameB (bareT A) (bareT B) := by
  have h := (eq_ok A B 0 0 1 (Nat.le_refl _) (by omega) hA).2
  rw [← same_iff] at h
  cases hb : sameB (bareT A) (bareT B) with
  | true => exact decide_eq_true (h.2 hb)
  | false => exact decide_eq_false (fun q => by rw [h.1 q] at hb; cases hb)
theorem eq_bare {A : Tree} (hA : (wrongF A 0 1).1 = 0) : (eqF A (bareT A) 0 1).1 = 2 :=
  (eq_ok A (bareT A) 0 0 1 (Nat.le_refl _) (by omega) hA).2.2 (bare_bare A).symm
end Go.Proofs.YtibkemolmpcdcaaDoor

/- Plain: what the document's Equal tells (without a count), and that of right values matching tells the same. -/
namespace Go.Proofs.YtibkemolmpcdcaaDoor

mutual
def eqP : Tree → Tree → Nat
  | .mk k y c x t ks, .mk k' y' c' x' t' ks' =>
    if k = 1 ∨ k' = 1 then (if k = k' then 2 else 0)
    else if k = k' then
      (if k = 2 then (if y = y' then 2 else 0)
      else if k = 3 then (if c = c' ∧ x = x' then 2 else 0)
      else if k = 4 then (if t.toList = t'.toList then 2 else 0)
      else if k = 5 then (if ks.length = ks'.length then eqPL ks ks' 2 else 0)
      else 0)
    else 1
def eqPL : List Tree → List Tree → Nat → Nat
  | [], _, a => a
  | _ :: _, [], a => a
  | u :: us, v :: vs, a => eqPL us vs (min a (eqP u v))
end

theorem eqPL_zero : ∀ (us vs : List Tree), eqPL us vs 0 = 0
  | [], _ => by rw [eqPL]
  | _ :: _, [] => by rw [eqPL]
  | u :: us, v :: vs => by rw [eqPL, Nat.zero_min, eqPL_zero us vs]

mutual
theorem eqP_le : ∀ (A B : Tree), eqP A B ≤ 2
  | .mk k y c x t ks, .mk k' y' c' x' t' ks' => by
    rw [eqP]
    have h := eqPL_le ks ks' 2 (Nat.le_refl _)
    (repeat' split) <;> omega
theorem eqPL_le : ∀ (ks ks' : List Tree) (a : Nat), a ≤ 2 → eqPL ks ks' a ≤ 2
  | [], _, a, h => by rw [eqPL]; exact h
  | u :: us, [], a, h => by rw [eqPL]; exact h
  | u :: us, v :: vs, a, h => by
    rw [eqPL]
    exact eqPL_le us vs _ (by omega)
end

mutual
/-- of right values the two tell the same -/
theorem eqp_same : ∀ (A B : Tree) (s s0 d : Nat), s ≤ s0 → s0 ≤ 2000 → (wrongF A s0 d).1 = 0 → (eqF A B s d).1 = eqP A B
  | .mk k y c x t ks, .mk k' y' c' x' t' ks', s, s0, d, hs, h0, hw => by
    rw [wrongF] at hw
    by_cases h1 : 2000 < s0 + 1 ∨ 20 < d
    · rw [if_pos h1] at hw; exact absurd hw (by simp)
    rw [if_neg h1] at hw
    rw [eqF, if_neg (by omega), eqP]
    by_cases h2 : k = 1 ∨ k' = 1
    · rw [if_pos h2, if_pos h2]
    rw [if_neg h2, if_neg h2]
    by_cases hk : k = k'
    · subst hk
      rw [if_pos rfl, if_pos rfl]
      by_cases k2 : k = 2
      · rw [if_pos k2, if_pos k2]
      rw [if_neg k2, if_neg k2]
      by_cases k3 : k = 3
      · rw [if_pos k3, if_pos k3]
      rw [if_neg k3, if_neg k3]
      by_cases k4 : k = 4
      · rw [if_pos k4, if_pos k4]
      rw [if_neg k4, if_neg k4]
      by_cases k5 : k = 5
      · rw [if_pos k5, if_pos k5]
        rw [if_neg (by omega), if_neg k3, if_neg k4, if_pos k5] at hw
        by_cases l2 : 200 < ks.length
        · rw [if_pos l2] at hw; exact absurd hw (by simp)
        rw [if_neg l2] at hw
        by_cases e : ks.length = ks'.length
        · rw [if_pos e, if_pos e]
          exact eqpL_same ks ks' 2 (s + 1) (s0 + 1) (d + 1) e (Nat.le_refl _) (by omega) (by omega) hw
        · rw [if_neg e, if_neg e]
      · rw [if_neg (by omega), if_neg k3, if_neg k4, if_neg k5] at hw; exact absurd hw (by simp)
    · rw [if_neg hk, if_neg hk]
theorem eqpL_same : ∀ (ks ks' : List Tree) (a s s0 d : Nat), ks.length = ks'.length → a ≤ 2 → s ≤ s0 → s0 ≤ 2000 → (wrongL ks s0 d).1 = 0 → (eqL ks ks' a s d).1 = eqPL ks ks' a
  | [], [], a, s, s0, d, _, _, hs, _, _ => by rw [eqL, eqPL]
  | [], v :: vs, a, s, s0, d, hl, _, _, _, _ => by simp at hl
  | u :: us, [], a, s, s0, d, hl, _, _, _, _ => by simp at hl
  | u :: us, v :: vs, a, s, s0, d, hl, ha, hs, h0, hw => by
    rw [wrongL] at hw
    by_cases hu : (wrongF u s0 d).1 = 0
    · rw [if_pos hu] at hw
      obtain ⟨i1, _⟩ := eq_ok u v s s0 d hs h0 hu
      have i3 := eqp_same u v s s0 d hs h0 hu
      have hb := (wrongF_bd u s0 d h0).2 hu
      rw [eqL, eqPL, i3]
      by_cases hz : min a (eqP u v) = 0
      · rw [if_pos (.inl hz), hz, eqPL_zero]
      · rw [if_neg (by omega)]
        have := eqP_le u v
        exact eqpL_same us vs _ _ (wrongF u s0 d).2 d (by simpa using hl) (by omega) i1 hb hw
    · rw [if_neg hu] at hw; exact absurd hw hu
end
end Go.Proofs.YtibkemolmpcdcaaDoor

/- Walks: the document's Equal of two values that are not both lists. -/
namespace Go.Proofs.YtibkemolmpcdcaaDoor
open Go.RowKit

theorem ep_nil {k k' : Int} {y y' : Bool} {c x c' x' : Int} {t t' : ByteArray} {ks ks' : List Tree} (h : k = 1 ∨ k' = 1) : eqP (.mk k y c x t ks) (.mk k' y' c' x' t' ks') = if k = k' then 2 else 0 := by rw [eqP, if_pos h]
theorem ep_kind {k k' : Int} {y y' : Bool} {c x c' x' : Int} {t t' : ByteArray} {ks ks' : List Tree} (h : ¬ (k = 1 ∨ k' = 1)) (e : ¬ k = k') : eqP (.mk k y c x t ks) (.mk k' y' c' x' t' ks') = 1 := by rw [eqP, if_neg h, if_neg e]
theorem ep_bool {y y' : Bool} {c x c' x' : Int} {t t' : ByteArray} {ks ks' : List Tree} : eqP (.mk 2 y c x t ks) (.mk 2 y' c' x' t' ks') = if y = y' then 2 else 0 := by rw [eqP, if_neg (by omega), if_pos rfl, if_pos rfl]
theorem ep_num {y y' : Bool} {c x c' x' : Int} {t t' : ByteArray} {ks ks' : List Tree} : eqP (.mk 3 y c x t ks) (.mk 3 y' c' x' t' ks') = if c = c' ∧ x = x' then 2 else 0 := by rw [eqP, if_neg (by omega), if_pos rfl, if_neg (by omega), if_pos rfl]
theorem ep_text {y y' : Bool} {c x c' x' : Int} {t t' : ByteArray} {ks ks' : List Tree} : eqP (.mk 4 y c x t ks) (.mk 4 y' c' x' t' ks') = if t.toList = t'.toList then 2 else 0 := by rw [eqP, if_neg (by omega), if_pos rfl, if_neg (by omega), if_neg (by omega), if_pos rfl]
theorem ep_list {y y' : Bool} {c x c' x' : Int} {t t' : ByteArray} {ks ks' : List Tree} : eqP (.mk 5 y c x t ks) (.mk 5 y' c' x' t' ks') = if ks.length = ks'.length then eqPL ks ks' 2 else 0 := by rw [eqP, if_neg (by omega), if_pos rfl, if_neg (by omega), if_neg (by omega), if_neg (by omega), if_pos rfl]
theorem ep_else {k : Int} {y y' : Bool} {c x c' x' : Int} {t t' : ByteArray} {ks ks' : List Tree} (h1 : ¬ k = 1) (h2 : ¬ k = 2) (h3 : ¬ k = 3) (h4 : ¬ k = 4) (h5 : ¬ k = 5) : eqP (.mk k y c x t ks) (.mk k y' c' x' t' ks') = 0 := by
  rw [eqP, if_neg (by omega), if_pos rfl, if_neg h2, if_neg h3, if_neg h4, if_neg h5]

set_option maxHeartbeats 4000000 in
theorem dequal_plain (k : Int) (y : Bool) (c x : Int) (t : ByteArray) (k' : Int) (y' : Bool) (c' x' : Int) (t' : ByteArray) (ks ks' : List Tree) (a a' : Option Addr) (cap cap' : Nat) (w : World) (h5 : ¬ k = 5 ∨ ¬ k' = 5) :
    Calls Tryd.prog 15 #[.agg #[.int .i64 k, .bool y, .int .i64 c, .int .i64 x, .string t, .slice a ks.length cap], .agg #[.int .i64 k', .bool y', .int .i64 c', .int .i64 x', .string t', .slice a' ks'.length cap']] w fun e w' => e = .returned (.int .i64 ((eqP (.mk k y c x t ks) (.mk k' y' c' x' t' ks') : Nat) : Int)) ∧ Below w.heap.size w w' := by
  have n5 : ¬ (k = 5 ∧ k' = 5) := by omega
  clear h5
  by_cases k1 : k = 1 ∨ k' = 1
  · rw [ep_nil k1]
    clear n5
    by_cases e : k = k'
    · subst e
      obtain rfl : k = 1 := by omega
      rw [if_pos rfl]
      clear k1
      go_enter Tryd.func15, Tryd.ntmps15
      go_wp2
      go_ret
      exact ⟨rfl, ((Below.refl _ _).alloc (Nat.le_refl _) _).alloc (by simp) _⟩
    · rw [if_neg e]
      have e' : (k == k') = false := by simp [e]
      by_cases k11 : k = 1
      · subst k11
        clear k1
        go_enter Tryd.func15, Tryd.ntmps15
        go_wp2
        go_ret
        exact ⟨rfl, ((Below.refl _ _).alloc (Nat.le_refl _) _).alloc (by simp) _⟩
      · obtain rfl : k' = 1 := by omega
        clear k1
        go_enter Tryd.func15, Tryd.ntmps15
        go_wp2
        go_ret
        exact ⟨rfl, ((Below.refl _ _).alloc (Nat.le_refl _) _).alloc (by simp) _⟩
  · have m1 : ¬ k = 1 := by omega
    have m2 : ¬ k' = 1 := by omega
    by_cases e : k = k'
    · subst e
      have m5 : ¬ k = 5 := by omega
      clear n5 k1 m2
      by_cases k2 : k = 2
      · subst k2
        rw [ep_bool]
        by_cases ey : y = y'
        · subst ey
          rw [if_pos rfl]
          go_enter Tryd.func15, Tryd.ntmps15
          go_wp2
          go_ret
          exact ⟨rfl, ((Below.refl _ _).alloc (Nat.le_refl _) _).alloc (by simp) _⟩
        · rw [if_neg ey]
          have ey' : (y == y') = false := by simp [ey]
          go_enter Tryd.func15, Tryd.ntmps15
          go_wp2
          go_ret
          exact ⟨rfl, ((Below.refl _ _).alloc (Nat.le_refl _) _).alloc (by simp) _⟩
      by_cases k3 : k = 3
      · subst k3
        rw [ep_num]
        by_cases ec : c = c'
        · subst ec
          by_cases ex : x = x'
          · subst ex
            rw [if_pos ⟨rfl, rfl⟩]
            go_enter Tryd.func15, Tryd.ntmps15
            go_wp2
            go_ret
            exact ⟨rfl, ((Below.refl _ _).alloc (Nat.le_refl _) _).alloc (by simp) _⟩
          · rw [if_neg (fun q => ex q.2)]
            go_enter Tryd.func15, Tryd.ntmps15
            go_wp2
            go_ret
            exact ⟨rfl, ((Below.refl _ _).alloc (Nat.le_refl _) _).alloc (by simp) _⟩
        · rw [if_neg (fun q => ec q.1)]
          go_enter Tryd.func15, Tryd.ntmps15
          go_wp2
          go_ret
          exact ⟨rfl, ((Below.refl _ _).alloc (Nat.le_refl _) _).alloc (by simp) _⟩
      by_cases k4 : k = 4
      · subst k4
        rw [ep_text]
        by_cases et : t.toList = t'.toList
        · rw [if_pos et]
          have et' : (t.toList == t'.toList) = true := by simp [et]
          go_enter Tryd.func15, Tryd.ntmps15
          go_wp2
          go_ret
          exact ⟨rfl, ((Below.refl _ _).alloc (Nat.le_refl _) _).alloc (by simp) _⟩
        · rw [if_neg et]
          have et' : (t.toList == t'.toList) = false := by simp [et]
          go_enter Tryd.func15, Tryd.ntmps15
          go_wp2
          go_ret
          exact ⟨rfl, ((Below.refl _ _).alloc (Nat.le_refl _) _).alloc (by simp) _⟩
      rw [ep_else m1 k2 k3 k4 m5]
      go_enter Tryd.func15, Tryd.ntmps15
      go_wp2
      go_ret
      exact ⟨rfl, ((Below.refl _ _).alloc (Nat.le_refl _) _).alloc (by simp) _⟩
    · rw [ep_kind k1 e]
      have e' : (k != k') = true := by simp [e]
      have m1' : (k == 1) = false := by simp [m1]
      have m2' : (k' == 1) = false := by simp [m2]
      clear n5 k1
      go_enter Tryd.func15, Tryd.ntmps15
      go_wp2
      go_ret
      exact ⟨rfl, ((Below.refl _ _).alloc (Nat.le_refl _) _).alloc (by simp) _⟩
end Go.Proofs.YtibkemolmpcdcaaDoor
