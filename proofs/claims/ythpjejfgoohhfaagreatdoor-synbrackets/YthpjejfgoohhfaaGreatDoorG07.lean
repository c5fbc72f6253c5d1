/- Walks: wrongOf, size, cmp.Compare, stretched, compareSizes, Cmp. -/
import Derived.Test.YthpjejfgoohhfaaGreatDoorG05
import Derived.Deep.RegionWith
import Derived.Deep.Cut
import Derived.Deep.CutRange
import Derived.Deep.LoopGhost
import Derived.Test.YthpjejfgoohhfaaGreatDoorG02
import Derived.Test.YthpjejfgoohhfaaGreatDoorProg
import Derived.WalkKit
import Derived.WalkSpells
import Derived.WalkLawsBesides
import Derived.Deep.QuietTactic
import Derived.BigQuiet
import Derived.Outline
namespace Go.Proofs.YthpjejfgoohhfaaGreatDoor
open Go.RowKit

theorem bcell {W w1 : World} (hb : Below W.heap.size W w1) : (∀ b o, b < W.heap.size → w1.cell? ⟨b, o, none⟩ = W.cell? ⟨b, o, none⟩) ∧ (∀ b o, b < W.heap.size → w1.frozen? ⟨b, o, none⟩ = W.frozen? ⟨b, o, none⟩) :=
  ⟨fun b o h => hb.cell (p := ⟨b, o, none⟩) h, fun b o h => hb.frozen (p := ⟨b, o, none⟩) h⟩

set_option maxHeartbeats 400000 in
theorem size_any (c x : Int) (w : World) (h1 : -1000000000000000000 < c) (h2 : c < 1000000000000000000) :
    Calls Tryz.prog 79 #[.agg #[.int .i64 c, .int .i64 x]] w fun e w' => e = .returned (.int .u64 (c.natAbs : Int)) ∧ Below w.heap.size w w' := by
  by_cases h : c < 0
  all_goals
    go_enter Tryz.func79, Tryz.ntmps79
    go_wp2
    go_ret
    refine ⟨ret_int ?_, (Below.refl _ _).alloc (Nat.le_refl _) _⟩
    omega
end Go.Proofs.YthpjejfgoohhfaaGreatDoor

/- Walks: trimmed, number. -/
namespace Go.Proofs.YthpjejfgoohhfaaGreatDoor
open Go.RowKit

theorem ret_near {a b c a' b' c' : Int} (h1 : a = a') (h2 : b = b') (h3 : c = c') :
    Ending.returned (.tuple #[.agg #[.int .i64 a, .int .i64 b], .int .i64 c]) = .returned (.tuple #[.agg #[.int .i64 a', .int .i64 b'], .int .i64 c']) := by rw [h1, h2, h3]

set_option maxHeartbeats 400000 in
theorem trimmed_zero (x : Int) (w : World) :
    Calls Tryz.prog 134 #[.int .i64 0, .int .i64 x] w fun e w' => e = .returned (.tuple #[.agg #[.int .i64 0, .int .i64 0], .int .i64 0]) ∧ Below w.heap.size w w' := by
  go_enter Tryz.func134, Tryz.ntmps134
  go_wp2
  exact bodyPost_ret (v := .tuple #[.agg #[.int .i64 0, .int .i64 0], .int .i64 0]) (by simp [results, Tryz.results134, go_sem]) rfl ⟨rfl, (Below.refl _ _).alloc (Nat.le_refl _) _⟩

set_option maxHeartbeats 400000 in
theorem trimmed_some (c x : Int) (w : World) (h0 : (c == 0) = false) (h1 : -1000000000000000000 ≤ c) (h2 : c ≤ 1000000000000000000) (hx1 : -200 ≤ x) (hx2 : x ≤ 200) :
    Calls Tryz.prog 134 #[.int .i64 c, .int .i64 x] w fun e w' => ∃ (m : Int) (k : Nat), c = Dm.tens m k ∧ m.tmod 10 ≠ 0 ∧ ((40 < x + k ∧ e = .returned (.tuple #[.agg #[.int .i64 0, .int .i64 0], .int .i64 4])) ∨ (x + k ≤ 40 ∧ e = .returned (.tuple #[.agg #[.int .i64 m, .int .i64 (x + k)], .int .i64 0]))) ∧ Below w.heap.size w w' := by
  go_enter Tryz.func134, Tryz.ntmps134
  go_wp2
  go_loop [0, 1] (fun a b => ∃ (m : Int) (k : Nat), a = .int .i64 m ∧ b = .int .i64 (x + k) ∧ Hid (c = Dm.tens m k) ∧ Hid (m ≠ 0) ∧ -1000000000000000000 ≤ m ∧ m ≤ 1000000000000000000 ∧ k ≤ 18) (fun a _ => (intOf a).natAbs)
  case atStart => exact ⟨c, 0, rfl, by simp, hide rfl, hide (by simpa using h0), h1, h2, by omega⟩
  case round =>
    obtain ⟨m, k, rfl, rfl, H, hm0, hm1, hm2, hk⟩ := hrel
    by_cases hm : m.tmod 10 = 0
    · have hm' : (m.tmod 10 == 0) = true := by simp [hm]
      have T := hide (Dm.td10 m)
      have Hm := hide hm
      obtain ⟨q1, q2, q3, q4, q5⟩ := Dm.tdiv_facts (unhide hm0) hm
      have hq1 := hide q1
      have hk' := Dm.tens_k (unhide H) hm (unhide hm0) h1 h2
      clear hm q1
      go_wp2
      go_round
      case rel => exact ⟨_, k + 1, rfl, by go_num, hide (Dm.tens_step (unhide H) (unhide hq1)), hide q2, by omega, by omega, by omega⟩
      case measure => exact q3
    · have hm' : (m.tmod 10 == 0) = false := by simp [hm]
      have Hm := hide hm
      clear hm
      by_cases hg : 40 < x + (k : Int)
      · go_wp2
        exact bodyPost_ret (v := .tuple #[.agg #[.int .i64 0, .int .i64 0], .int .i64 4]) (by simp [results, Tryz.results134, go_sem]) rfl ⟨m, k, unhide H, unhide Hm, .inl ⟨hg, rfl⟩, (Below.refl _ _).alloc (Nat.le_refl _) _⟩
      · go_wp2
        exact bodyPost_ret (v := .tuple #[.agg #[.int .i64 m, .int .i64 (x + k)], .int .i64 0]) (by simp [results, Tryz.results134, go_sem]) rfl ⟨m, k, unhide H, unhide Hm, .inr ⟨by omega, rfl⟩, (Below.refl _ _).alloc (Nat.le_refl _) _⟩

theorem trimmed_any (c x : Int) (w : World) (h1 : -1000000000000000000 ≤ c) (h2 : c ≤ 1000000000000000000) (hx1 : -200 ≤ x) (hx2 : x ≤ 200) :
    Calls Tryz.prog 134 #[.int .i64 c, .int .i64 x] w fun e w' => e = .returned (.tuple #[.agg #[.int .i64 (Dm.fC c x), .int .i64 (Dm.fE c x)], .int .i64 (Dm.fR c x)]) ∧ Below w.heap.size w w' := by
  by_cases h0 : c = 0
  · subst h0
    exact (trimmed_zero x w).mono fun e w' h => h
  · refine (trimmed_some c x w (by simp [h0]) h1 h2 hx1 hx2).mono ?_
    rintro e w' ⟨m, k, hc, hm, he, hb⟩
    obtain ⟨t1, t2⟩ := Dm.tz_at hc hm (by omega)
    refine ⟨?_, hb⟩
    rcases he with ⟨g, rfl⟩ | ⟨g, rfl⟩
    · refine ret_near ?_ ?_ ?_ <;> simp only [Dm.fC, Dm.fE, Dm.fR, if_neg h0, t1, if_pos g]
    · have g' : ¬ 40 < x + (k : Int) := by omega
      refine ret_near ?_ ?_ ?_ <;> simp only [Dm.fC, Dm.fE, Dm.fR, if_neg h0, t1, t2, if_neg g']

set_option maxHeartbeats 400000 in
theorem number_any (B R : Bool) (sv : Value) (x : Int) (hsv : ∃ ao n c, sv = .slice ao n c) (q : Nat) (y : Int) (w : World) (hq : (q : Int) ≤ 1000000000000000000) (hx1 : -200 ≤ y) (hx2 : y ≤ 200) :
    Calls Tryz.prog 122 #[.agg #[.bool B, sv, .int .i64 x, .bool R], .int .u64 (q : Int), .int .i64 y] w fun e w' => e = .returned (.tuple #[.agg #[.int .i64 (Dm.fC (Dm.sg B q) y), .int .i64 (Dm.fE (Dm.sg B q) y)], .int .i64 (Dm.fR (Dm.sg B q) y)]) ∧ Below w.heap.size w w' := by
  obtain ⟨ao, n, cp, rfl⟩ := hsv
  cases B
  · go_enter Tryz.func122, Tryz.ntmps122
    go_wp2_with fail
    refine (trimmed_any (q : Int) y _ (by omega) (by omega) hx1 hx2).mono ?_
    rintro e w1 ⟨rfl, hb⟩
    obtain ⟨hc, hf⟩ := bcell hb
    have hz : w.heap.size + 2 ≤ w1.heap.size := by have := hb.size; simp at this; omega
    have hb0 : Below w.heap.size w w1 := (((Below.refl _ _).alloc (Nat.le_refl _) _).alloc (by simp) _).trans (hb.mono (by simp; omega))
    go_wp2
    exact bodyPost_ret (v := .tuple #[.agg #[.int .i64 (Dm.fC (q : Int) y), .int .i64 (Dm.fE (q : Int) y)], .int .i64 (Dm.fR (q : Int) y)]) (by simp [results, Tryz.results122, go_sem, hc]) rfl ⟨rfl, (hb0.setCell (by simp) _).setCell (by simp) _⟩
  · go_enter Tryz.func122, Tryz.ntmps122
    go_wp2_with fail
    refine (trimmed_any (-(q : Int)) y _ (by omega) (by omega) hx1 hx2).mono ?_
    rintro e w1 ⟨rfl, hb⟩
    obtain ⟨hc, hf⟩ := bcell hb
    have hz : w.heap.size + 2 ≤ w1.heap.size := by have := hb.size; simp at this; omega
    have hb0 : Below w.heap.size w w1 := (((Below.refl _ _).alloc (Nat.le_refl _) _).alloc (by simp) _).trans (hb.mono (by simp; omega))
    go_wp2
    exact bodyPost_ret (v := .tuple #[.agg #[.int .i64 (Dm.fC (-(q : Int)) y), .int .i64 (Dm.fE (-(q : Int)) y)], .int .i64 (Dm.fR (-(q : Int)) y)]) (by simp [results, Tryz.results122, go_sem, hc]) rfl ⟨rfl, (hb0.setCell (by simp) _).setCell (by simp) _⟩

end Go.Proofs.YthpjejfgoohhfaaGreatDoor

/- Walks: stretched, compareSizes, Cmp. -/
namespace Go.Proofs.YthpjejfgoohhfaaGreatDoor
open Go.RowKit

end Go.Proofs.YthpjejfgoohhfaaGreatDoor

/- Walks: Cmp. -/
namespace Go.Proofs.YthpjejfgoohhfaaGreatDoor
open Go.RowKit
end Go.Proofs.YthpjejfgoohhfaaGreatDoor

/- Walks: what is known of a value (isTrue, isFalse, truth, null, Not, And, Or). -/
namespace Go.Proofs.YthpjejfgoohhfaaGreatDoor
open Go.RowKit


/-- yes 2, not known 1, no 0 -/
def tv (k : Int) (y : Bool) : Nat := if k = 2 then (if y then 2 else 0) else 1
def kd (h : Nat) : Int := if h = 1 then 1 else 2
def yd (h : Nat) : Bool := h == 2
/-- what is told of halves -/
abbrev told (h : Nat) : Value := .agg #[.int .i64 (kd h), .bool (yd h), .int .i64 0, .int .i64 0, .string ⟨#[]⟩, .slice none 0 0]

theorem ret_told {a b : Nat} (h : a = b) : Ending.returned (told a) = .returned (told b) := by rw [h]

/-- a block of a value's six cells that is carried along -/
structure Box (w : World) (b : Nat) (v : Array Value) : Prop where
  low : b < w.heap.size
  at0 : w.cell? ⟨b, 0, none⟩ = some (v.getD 0 (.bool false))
  at1 : w.cell? ⟨b, 1, none⟩ = some (v.getD 1 (.bool false))
  at2 : w.cell? ⟨b, 2, none⟩ = some (v.getD 2 (.bool false))
  at3 : w.cell? ⟨b, 3, none⟩ = some (v.getD 3 (.bool false))
  at4 : w.cell? ⟨b, 4, none⟩ = some (v.getD 4 (.bool false))
  at5 : w.cell? ⟨b, 5, none⟩ = some (v.getD 5 (.bool false))
  free : ∀ o, w.frozen? ⟨b, o, none⟩ = false
theorem Box.keep {w w' : World} {b n : Nat} {v : Array Value} (h : Box w b v) (hb : Below n w w') (l : b < n) : Box w' b v := by
  have c : ∀ o, w'.cell? ⟨b, o, none⟩ = w.cell? ⟨b, o, none⟩ := fun o => hb.cell (p := ⟨b, o, none⟩) l
  exact ⟨Nat.lt_of_lt_of_le h.low hb.size, by rw [c]; exact h.at0, by rw [c]; exact h.at1, by rw [c]; exact h.at2, by rw [c]; exact h.at3, by rw [c]; exact h.at4, by rw [c]; exact h.at5, fun o => by rw [hb.frozen (p := ⟨b, o, none⟩) l]; exact h.free o⟩
theorem Box.tell {w : World} {b : Nat} {a0 a1 a2 a3 a4 a5 : Value} (h : Box w b #[a0, a1, a2, a3, a4, a5]) :
    w.cell? ⟨b, 0, none⟩ = some a0 ∧ w.cell? ⟨b, 1, none⟩ = some a1 ∧ w.cell? ⟨b, 2, none⟩ = some a2 ∧ w.cell? ⟨b, 3, none⟩ = some a3 ∧ w.cell? ⟨b, 4, none⟩ = some a4 ∧ w.cell? ⟨b, 5, none⟩ = some a5 :=
  ⟨h.at0, h.at1, h.at2, h.at3, h.at4, h.at5⟩
theorem Box.thaw {w : World} {b : Nat} {v : Array Value} (h : Box w b v) :
    w.frozen? ⟨b, 0, none⟩ = false ∧ w.frozen? ⟨b, 1, none⟩ = false ∧ w.frozen? ⟨b, 2, none⟩ = false ∧ w.frozen? ⟨b, 3, none⟩ = false ∧ w.frozen? ⟨b, 4, none⟩ = false ∧ w.frozen? ⟨b, 5, none⟩ = false :=
  ⟨h.free 0, h.free 1, h.free 2, h.free 3, h.free 4, h.free 5⟩
theorem Box.new {w : World} {t : TypeId} {a0 a1 a2 a3 a4 a5 : Value} : Box (w.alloc (.cells #[a0, a1, a2, a3, a4, a5] t)) w.heap.size #[a0, a1, a2, a3, a4, a5] := by
  constructor <;> simp [go_sem]
theorem Box.over {w : World} {b : Nat} {v : Array Value} {o : Obj} (h : Box w b v) : Box (w.alloc o) b v :=
  h.keep ((Below.refl _ _).alloc (Nat.le_refl _) _) h.low
theorem vbelow_new (w : World) (o : Obj) : Below w.heap.size w (w.alloc o) := (Below.refl _ _).alloc (Nat.le_refl _) _
theorem box2 {w w1 : World} {s t : TypeId} {a0 a1 a2 a3 a4 a5 b0 b1 b2 b3 b4 b5 : Value} (hb : Below ((w.alloc (.cells #[a0, a1, a2, a3, a4, a5] s)).alloc (.cells #[b0, b1, b2, b3, b4, b5] t)).heap.size ((w.alloc (.cells #[a0, a1, a2, a3, a4, a5] s)).alloc (.cells #[b0, b1, b2, b3, b4, b5] t)) w1) :
    Box w1 w.heap.size #[a0, a1, a2, a3, a4, a5] ∧ Box w1 (w.heap.size + 1) #[b0, b1, b2, b3, b4, b5] ∧ Below w.heap.size w w1 := by
  refine ⟨Box.new.over.keep hb (by simp; omega), ?_, (((Below.refl _ _).alloc (Nat.le_refl _) _).alloc (by simp) _).trans (hb.mono (by simp; omega))⟩
  have := (Box.new (w := w.alloc (.cells #[a0, a1, a2, a3, a4, a5] s)) (t := t) (a0 := b0) (a1 := b1) (a2 := b2) (a3 := b3) (a4 := b4) (a5 := b5)).keep hb (by simp)
  simpa using this
theorem box3 {w w1 : World} {s t u : TypeId} {a0 a1 a2 a3 a4 a5 b0 b1 b2 b3 b4 b5 c0 c1 c2 c3 c4 c5 : Value} (hb : Below (((w.alloc (.cells #[a0, a1, a2, a3, a4, a5] s)).alloc (.cells #[b0, b1, b2, b3, b4, b5] t)).alloc (.cells #[c0, c1, c2, c3, c4, c5] u)).heap.size (((w.alloc (.cells #[a0, a1, a2, a3, a4, a5] s)).alloc (.cells #[b0, b1, b2, b3, b4, b5] t)).alloc (.cells #[c0, c1, c2, c3, c4, c5] u)) w1) :
    Box w1 w.heap.size #[a0, a1, a2, a3, a4, a5] ∧ Box w1 (w.heap.size + 1) #[b0, b1, b2, b3, b4, b5] ∧ Box w1 (w.heap.size + 1 + 1) #[c0, c1, c2, c3, c4, c5] ∧ Below w.heap.size w w1 := by
  have B := (Box.new (w := w.alloc (.cells #[a0, a1, a2, a3, a4, a5] s)) (t := t) (a0 := b0) (a1 := b1) (a2 := b2) (a3 := b3) (a4 := b4) (a5 := b5)).over.keep hb (by simp <;> omega)
  have C := (Box.new (w := (w.alloc (.cells #[a0, a1, a2, a3, a4, a5] s)).alloc (.cells #[b0, b1, b2, b3, b4, b5] t)) (t := u) (a0 := c0) (a1 := c1) (a2 := c2) (a3 := c3) (a4 := c4) (a5 := c5)).keep hb (by simp)
  refine ⟨Box.new.over.over.keep hb (by simp; omega), by simpa using B, by simpa using C, ((((Below.refl _ _).alloc (Nat.le_refl _) _).alloc (by simp) _).alloc (by simp; omega) _).trans (hb.mono (by simp; omega))⟩

theorem tv_three (k : Int) (y : Bool) : tv k y = 0 ∨ tv k y = 1 ∨ tv k y = 2 := by
  unfold tv; cases y <;> by_cases h : k = 2 <;> simp [h]
end Go.Proofs.YthpjejfgoohhfaaGreatDoor

/- Walks: Same and finer of what is told; alive. -/
namespace Go.Proofs.YthpjejfgoohhfaaGreatDoor
open Go.RowKit

/-- a store into another block -/
theorem Box.aside {w : World} {b n j : Nat} {v : Array Value} {x : Value} (h : Box w b v) (ne : n ≠ b) : Box (w.setCell ⟨n, j, none⟩ x) b v := by
  have bl := Below.heap_setCell w ⟨n, j, none⟩ x b (fun e => ne e.symm)
  have c : ∀ o, (w.setCell ⟨n, j, none⟩ x).cell? ⟨b, o, none⟩ = w.cell? ⟨b, o, none⟩ := fun o => World.cell?_of_block (w := w) (a := ⟨b, o, none⟩) bl
  have f : ∀ o, (w.setCell ⟨n, j, none⟩ x).frozen? ⟨b, o, none⟩ = w.frozen? ⟨b, o, none⟩ := fun o => World.frozen?_of_block (w := w) (a := ⟨b, o, none⟩) bl
  exact ⟨by simp [World.setCell]; exact h.low, by rw [c]; exact h.at0, by rw [c]; exact h.at1, by rw [c]; exact h.at2, by rw [c]; exact h.at3, by rw [c]; exact h.at4, by rw [c]; exact h.at5, fun o => by rw [f]; exact h.free o⟩
/-- a value stored whole -/
abbrev put6 (w : World) (b : Nat) (v0 v1 v2 v3 v4 v5 : Value) : World :=
  (((((w.setCell ⟨b, 0, none⟩ v0).setCell ⟨b, 1, none⟩ v1).setCell ⟨b, 2, none⟩ v2).setCell ⟨b, 3, none⟩ v3).setCell ⟨b, 4, none⟩ v4).setCell ⟨b, 5, none⟩ v5
theorem Box.put {w : World} {b : Nat} {a0 a1 a2 a3 a4 a5 : Value} (h : Box w b #[a0, a1, a2, a3, a4, a5]) (v0 v1 v2 v3 v4 v5 : Value) : Box (put6 w b v0 v1 v2 v3 v4 v5) b #[v0, v1, v2, v3, v4, v5] := by
  obtain ⟨h0, h1, h2, h3, h4, h5⟩ := h.tell
  have fr := h.free
  refine ⟨by simp [put6, World.setCell]; exact h.low, ?_, ?_, ?_, ?_, ?_, ?_, ?_⟩
  · simp [put6, go_sem, h0]
  · simp [put6, go_sem, h1]
  · simp [put6, go_sem, h2]
  · simp [put6, go_sem, h3]
  · simp [put6, go_sem, h4]
  · simp [put6, go_sem, h5]
  · intro o
    simp [put6, go_sem, fr]
theorem Box.aside6 {w : World} {b n : Nat} {v : Array Value} {v0 v1 v2 v3 v4 v5 : Value} (h : Box w b v) (ne : n ≠ b) : Box (put6 w n v0 v1 v2 v3 v4 v5) b v :=
  (((((h.aside ne).aside ne).aside ne).aside ne).aside ne).aside ne
theorem below_put6 {w0 w : World} {m n : Nat} {v0 v1 v2 v3 v4 v5 : Value} (h : Below m w0 w) (l : m ≤ n) : Below m w0 (put6 w n v0 v1 v2 v3 v4 v5) :=
  (((((h.setCell l _).setCell l _).setCell l _).setCell l _).setCell l _).setCell l _

set_option maxHeartbeats 1000000 in
theorem same_told (h : Nat) (w : World) :
    Calls Tryz.prog 19 #[told h, told h] w fun e w' => e = .returned (.bool true) ∧ Below w.heap.size w w' := by
  go_enter Tryz.func19, Tryz.ntmps19
  go_wp2
  go_loop [44] (fun i => i = .int .i64 0) (fun _ => 0)
  case atStart => rfl
  case round =>
    subst hrel
    go_wp2
    go_ret
    exact ⟨rfl, ((Below.refl _ _).alloc (Nat.le_refl _) _).alloc (by simp) _⟩

theorem same_eq (a b : Nat) (w : World) (h : a = b) :
    Calls Tryz.prog 19 #[told a, told b] w fun e w' => e = .returned (.bool true) ∧ Below w.heap.size w w' := h ▸ same_told a w

theorem tv_told {h : Nat} (l : h ≤ 2) : tv (kd h) (yd h) = h := by
  rcases (by omega : h = 0 ∨ h = 1 ∨ h = 2) with rfl | rfl | rfl <;> rfl
end Go.Proofs.YthpjejfgoohhfaaGreatDoor

/- Values as trees: how one lies in memory. -/
namespace Go.Proofs.YthpjejfgoohhfaaGreatDoor
open Go.RowKit

inductive Tree where
  | mk (k : Int) (y : Bool) (c x : Int) (t : ByteArray) (ks : List Tree)

/-- six cells in a row -/
def Six (w : World) (b o : Nat) (u : Array Value) : Prop := ∃ u0 u1 u2 u3 u4 u5, u = #[u0, u1, u2, u3, u4, u5] ∧ w.cell? ⟨b, o, none⟩ = some u0 ∧ w.cell? ⟨b, o + 1, none⟩ = some u1 ∧ w.cell? ⟨b, o + 2, none⟩ = some u2 ∧ w.cell? ⟨b, o + 3, none⟩ = some u3 ∧ w.cell? ⟨b, o + 4, none⟩ = some u4 ∧ w.cell? ⟨b, o + 5, none⟩ = some u5
theorem Six.below {B : Nat} {w w' : World} {b o : Nat} {u : Array Value} (h : Six w b o u) (hb : Below B w w') (l : b < B) : Six w' b o u := by
  have c : ∀ o, w'.cell? ⟨b, o, none⟩ = w.cell? ⟨b, o, none⟩ := fun o => hb.cell (p := ⟨b, o, none⟩) l
  obtain ⟨u0, u1, u2, u3, u4, u5, hu, h0, h1, h2, h3, h4, h5⟩ := h
  exact ⟨u0, u1, u2, u3, u4, u5, hu, by rw [c, h0], by rw [c, h1], by rw [c, h2], by rw [c, h3], by rw [c, h4], by rw [c, h5]⟩

mutual
/-- a tree in memory, below B -/
def Mem (B : Nat) (w : World) : Tree → Array Value → Prop
  | .mk k y c x t ks, v => t.size ≤ 9223372036854775807 ∧ ks.length ≤ 9223372036854775807 ∧
    ∃ (a : Option Addr) (cap : Nat), v = #[.int .i64 k, .bool y, .int .i64 c, .int .i64 x, .string t, .slice a ks.length cap] ∧ (ks ≠ [] → ∃ b off, a = some ⟨b, off, none⟩ ∧ b < B ∧ MemL B w ks b off)
def MemL (B : Nat) (w : World) : List Tree → Nat → Nat → Prop
  | [], _, _ => True
  | u :: us, b, off => (∃ cs, Six w b off cs ∧ Mem B w u cs) ∧ MemL B w us b (off + 6)
end

mutual
theorem Mem.below {B : Nat} {w w' : World} (hb : Below B w w') : ∀ {T : Tree} {v : Array Value}, Mem B w T v → Mem B w' T v
  | .mk k y c x t ks, v, h => by
    rw [Mem] at h ⊢
    obtain ⟨h1, h2, a, cap, hv, hk⟩ := h
    refine ⟨h1, h2, a, cap, hv, fun hne => ?_⟩
    obtain ⟨b, off, ha, hlt, hm⟩ := hk hne
    exact ⟨b, off, ha, hlt, MemL.below hb hlt hm⟩
theorem MemL.below {B : Nat} {w w' : World} (hb : Below B w w') : ∀ {ks : List Tree} {b off : Nat}, b < B → MemL B w ks b off → MemL B w' ks b off
  | [], _, _, _, _ => by rw [MemL]; trivial
  | u :: us, b, off, hlt, h => by
    rw [MemL] at h ⊢
    obtain ⟨⟨cs, h6, hm⟩, hr⟩ := h
    exact ⟨⟨cs, h6.below hb hlt, Mem.below hb hm⟩, MemL.below hb hlt hr⟩
end
theorem MemL.at {B : Nat} {w : World} : ∀ {ks : List Tree} {b off : Nat}, MemL B w ks b off → ∀ (i : Nat) (u : Tree), ks[i]? = some u → ∃ cs, Six w b (off + i * 6) cs ∧ Mem B w u cs
  | [], b, off, _, i, u, hi => by simp at hi
  | v :: vs, b, off, h, 0, u, hi => by
    rw [MemL] at h
    simp only [List.getElem?_cons_zero, Option.some.injEq] at hi
    subst hi
    simpa using h.1
  | v :: vs, b, off, h, i + 1, u, hi => by
    rw [MemL] at h
    obtain ⟨cs, h6, hm⟩ := MemL.at h.2 i u (by simpa using hi)
    exact ⟨cs, by rw [show off + (i + 1) * 6 = off + 6 + i * 6 by omega]; exact h6, hm⟩

mutual
theorem Mem.mono {B B' : Nat} {w : World} (hB : B ≤ B') : ∀ {T : Tree} {v : Array Value}, Mem B w T v → Mem B' w T v
  | .mk k y c x t ks, v, h => by
    rw [Mem] at h ⊢
    obtain ⟨h1, h2, a, cap, hv, hk⟩ := h
    refine ⟨h1, h2, a, cap, hv, fun hne => ?_⟩
    obtain ⟨b, off, ha, hlt, hm⟩ := hk hne
    exact ⟨b, off, ha, Nat.lt_of_lt_of_le hlt hB, MemL.mono hB hm⟩
theorem MemL.mono {B B' : Nat} {w : World} (hB : B ≤ B') : ∀ {ks : List Tree} {b off : Nat}, MemL B w ks b off → MemL B' w ks b off
  | [], _, _, _ => by rw [MemL]; trivial
  | u :: us, b, off, h => by
    rw [MemL] at h ⊢
    obtain ⟨⟨cs, h6, hm⟩, hr⟩ := h
    exact ⟨⟨cs, h6, Mem.mono hB hm⟩, MemL.mono hB hr⟩
end

/-- the counter -/
def St (w : World) (p s : Nat) : Prop := w.cell? ⟨p, 0, none⟩ = some (.int .i64 (s : Int)) ∧ w.frozen? ⟨p, 0, none⟩ = false ∧ p < w.heap.size
theorem St.below {n : Nat} {w w' : World} {p s : Nat} (h : St w p s) (hb : Below n w w') (l : p < n) : St w' p s :=
  ⟨(hb.cell (p := ⟨p, 0, none⟩) l).trans h.1, (hb.frozen (p := ⟨p, 0, none⟩) l).trans h.2.1, Nat.lt_of_lt_of_le h.2.2 hb.size⟩

end Go.Proofs.YthpjejfgoohhfaaGreatDoor

/- Expressions as trees in memory: nine cells a node. -/
namespace Go.Proofs.YthpjejfgoohhfaaGreatDoor
open Go.RowKit

/-- an expression: kind, value, name, kids -/
inductive XT where
  | mk (k : Int) (v : Tree) (s : ByteArray) (ks : List XT)

/-- nine cells in a row -/
def Nine (w : World) (b o : Nat) (u : Array Value) : Prop := ∃ u0 u1 u2 u3 u4 u5 u6 u7 u8, u = #[u0, u1, u2, u3, u4, u5, u6, u7, u8] ∧ w.cell? ⟨b, o, none⟩ = some u0 ∧ w.cell? ⟨b, o + 1, none⟩ = some u1 ∧ w.cell? ⟨b, o + 2, none⟩ = some u2 ∧ w.cell? ⟨b, o + 3, none⟩ = some u3 ∧ w.cell? ⟨b, o + 4, none⟩ = some u4 ∧ w.cell? ⟨b, o + 5, none⟩ = some u5 ∧ w.cell? ⟨b, o + 6, none⟩ = some u6 ∧ w.cell? ⟨b, o + 7, none⟩ = some u7 ∧ w.cell? ⟨b, o + 8, none⟩ = some u8
theorem Nine.below {B : Nat} {w w' : World} {b o : Nat} {u : Array Value} (h : Nine w b o u) (hb : Below B w w') (l : b < B) : Nine w' b o u := by
  have c : ∀ o, w'.cell? ⟨b, o, none⟩ = w.cell? ⟨b, o, none⟩ := fun o => hb.cell (p := ⟨b, o, none⟩) l
  obtain ⟨u0, u1, u2, u3, u4, u5, u6, u7, u8, hu, h0, h1, h2, h3, h4, h5, h6, h7, h8⟩ := h
  exact ⟨u0, u1, u2, u3, u4, u5, u6, u7, u8, hu, by rw [c, h0], by rw [c, h1], by rw [c, h2], by rw [c, h3], by rw [c, h4], by rw [c, h5], by rw [c, h6], by rw [c, h7], by rw [c, h8]⟩

mutual
/-- an expression in memory, below B -/
def XMem (B : Nat) (w : World) : XT → Array Value → Prop
  | .mk k v s ks, x => s.size ≤ 9223372036854775807 ∧ ks.length ≤ 9223372036854775807 ∧
    ∃ (vk : Int) (vy : Bool) (vc vx : Int) (vt : ByteArray) (va : Option Addr) (vn vp : Nat) (a : Option Addr) (cap : Nat),
      x = #[.int .i64 k, .int .i64 vk, .bool vy, .int .i64 vc, .int .i64 vx, .string vt, .slice va vn vp, .string s, .slice a ks.length cap] ∧ Mem B w v #[.int .i64 vk, .bool vy, .int .i64 vc, .int .i64 vx, .string vt, .slice va vn vp] ∧
      (ks ≠ [] → ∃ b off, a = some ⟨b, off, none⟩ ∧ b < B ∧ XMemL B w ks b off)
def XMemL (B : Nat) (w : World) : List XT → Nat → Nat → Prop
  | [], _, _ => True
  | u :: us, b, off => (∃ cs, Nine w b off cs ∧ XMem B w u cs) ∧ XMemL B w us b (off + 9)
end

mutual
theorem XMem.below {B : Nat} {w w' : World} (hb : Below B w w') : ∀ {X : XT} {x : Array Value}, XMem B w X x → XMem B w' X x
  | .mk k v s ks, x, h => by
    rw [XMem] at h ⊢
    obtain ⟨h1, h2, vk, vy, vc, vx, vt, va, vn, vp, a, cap, hx, hm, hk⟩ := h
    refine ⟨h1, h2, vk, vy, vc, vx, vt, va, vn, vp, a, cap, hx, Mem.below hb hm, fun hne => ?_⟩
    obtain ⟨b, off, ha, hlt, hm⟩ := hk hne
    exact ⟨b, off, ha, hlt, XMemL.below hb hlt hm⟩
theorem XMemL.below {B : Nat} {w w' : World} (hb : Below B w w') : ∀ {ks : List XT} {b off : Nat}, b < B → XMemL B w ks b off → XMemL B w' ks b off
  | [], _, _, _, _ => by rw [XMemL]; trivial
  | u :: us, b, off, hlt, h => by
    rw [XMemL] at h ⊢
    obtain ⟨⟨cs, h6, hm⟩, hr⟩ := h
    exact ⟨⟨cs, h6.below hb hlt, XMem.below hb hm⟩, XMemL.below hb hlt hr⟩
end
mutual
theorem XMem.mono {B B' : Nat} {w : World} (hB : B ≤ B') : ∀ {X : XT} {x : Array Value}, XMem B w X x → XMem B' w X x
  | .mk k v s ks, x, h => by
    rw [XMem] at h ⊢
    obtain ⟨h1, h2, vk, vy, vc, vx, vt, va, vn, vp, a, cap, hx, hm, hk⟩ := h
    refine ⟨h1, h2, vk, vy, vc, vx, vt, va, vn, vp, a, cap, hx, Mem.mono hB hm, fun hne => ?_⟩
    obtain ⟨b, off, ha, hlt, hm⟩ := hk hne
    exact ⟨b, off, ha, Nat.lt_of_lt_of_le hlt hB, XMemL.mono hB hm⟩
theorem XMemL.mono {B B' : Nat} {w : World} (hB : B ≤ B') : ∀ {ks : List XT} {b off : Nat}, XMemL B w ks b off → XMemL B' w ks b off
  | [], _, _, _ => by rw [XMemL]; trivial
  | u :: us, b, off, h => by
    rw [XMemL] at h ⊢
    obtain ⟨⟨cs, h6, hm⟩, hr⟩ := h
    exact ⟨⟨cs, h6, XMem.mono hB hm⟩, XMemL.mono hB hr⟩
end
theorem XMemL.at {B : Nat} {w : World} : ∀ {ks : List XT} {b off : Nat}, XMemL B w ks b off → ∀ (i : Nat) (u : XT), ks[i]? = some u → ∃ cs, Nine w b (off + i * 9) cs ∧ XMem B w u cs
  | [], b, off, _, i, u, hi => by simp at hi
  | v :: vs, b, off, h, 0, u, hi => by
    rw [XMemL] at h
    simp only [List.getElem?_cons_zero, Option.some.injEq] at hi
    subst hi
    simpa using h.1
  | v :: vs, b, off, h, i + 1, u, hi => by
    rw [XMemL] at h
    obtain ⟨cs, h6, hm⟩ := XMemL.at h.2 i u (by simpa using hi)
    exact ⟨cs, by rw [show off + (i + 1) * 9 = off + 9 + i * 9 by omega]; exact h6, hm⟩
theorem XMem.grow {w w' : World} {X : XT} {x : Array Value} (h : XMem w.heap.size w X x) (hb : Below w.heap.size w w') : XMem w'.heap.size w' X x := XMem.mono hb.size (XMem.below hb h)
end Go.Proofs.YthpjejfgoohhfaaGreatDoor
