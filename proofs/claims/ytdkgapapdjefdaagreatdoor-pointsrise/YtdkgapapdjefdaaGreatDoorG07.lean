/- Walks: what is known of a value (isTrue, isFalse, truth, null, Not, And, Or). -/
import Derived.Test.YtdkgapapdjefdaaGreatDoorProg
import Derived.WalkKit
import Derived.WalkSpells
import Derived.WalkLawsBesides
import Derived.Deep.QuietTactic
import Derived.BigQuiet
import Derived.Outline
import Derived.Test.YtdkgapapdjefdaaGreatDoorG06
namespace Go.Proofs.YtdkgapapdjefdaaGreatDoor
open Go.RowKit


/-- yes 2, not known 1, no 0 -/
def tv (k : Int) (y : Bool) : Nat := if k = 2 then (if y then 2 else 0) else 1
def kd (h : Nat) : Int := if h = 1 then 1 else 2
def yd (h : Nat) : Bool := h == 2
/-- what is told of halves -/
abbrev told (h : Nat) : Value := .agg #[.int .i64 (kd h), .bool (yd h), .int .i64 0, .int .i64 0, .string ⟨#[]⟩, .slice none 0 0]

theorem ret_told {a b : Nat} (h : a = b) : Ending.returned (told a) = .returned (told b) := by rw [h]

/-- a block of a value's six cells that is carried along -/
structure Box (w : World) (b : Nat) (v : Array Value) : Prop where
  low : b < w.heap.size
  at0 : w.cell? ⟨b, 0, none⟩ = some (v.getD 0 (.bool false))
  at1 : w.cell? ⟨b, 1, none⟩ = some (v.getD 1 (.bool false))
  at2 : w.cell? ⟨b, 2, none⟩ = some (v.getD 2 (.bool false))
  at3 : w.cell? ⟨b, 3, none⟩ = some (v.getD 3 (.bool false))
  at4 : w.cell? ⟨b, 4, none⟩ = some (v.getD 4 (.bool false))
  at5 : w.cell? ⟨b, 5, none⟩ = some (v.getD 5 (.bool false))
  free : ∀ o, w.frozen? ⟨b, o, none⟩ = false
theorem Box.keep {w w' : World} {b n : Nat} {v : Array Value} (h : Box w b v) (hb : Below n w w') (l : b < n) : Box w' b v := by
  have c : ∀ o, w'.cell? ⟨b, o, none⟩ = w.cell? ⟨b, o, none⟩ := fun o => hb.cell (p := ⟨b, o, none⟩) l
  exact ⟨Nat.lt_of_lt_of_le h.low hb.size, by rw [c]; exact h.at0, by rw [c]; exact h.at1, by rw [c]; exact h.at2, by rw [c]; exact h.at3, by rw [c]; exact h.at4, by rw [c]; exact h.at5, fun o => by rw [hb.frozen (p := ⟨b, o, none⟩) l]; exact h.free o⟩
theorem Box.tell {w : World} {b : Nat} {a0 a1 a2 a3 a4 a5 : Value} (h : Box w b #[a0, a1, a2, a3, a4, a5]) :
    w.cell? ⟨b, 0, none⟩ = some a0 ∧ w.cell? ⟨b, 1, none⟩ = some a1 ∧ w.cell? ⟨b, 2, none⟩ = some a2 ∧ w.cell? ⟨b, 3, none⟩ = some a3 ∧ w.cell? ⟨b, 4, none⟩ = some a4 ∧ w.cell? ⟨b, 5, none⟩ = some a5 :=
  ⟨h.at0, h.at1, h.at2, h.at3, h.at4, h.at5⟩
theorem Box.thaw {w : World} {b : Nat} {v : Array Value} (h : Box w b v) :
    w.frozen? ⟨b, 0, none⟩ = false ∧ w.frozen? ⟨b, 1, none⟩ = false ∧ w.frozen? ⟨b, 2, none⟩ = false ∧ w.frozen? ⟨b, 3, none⟩ = false ∧ w.frozen? ⟨b, 4, none⟩ = false ∧ w.frozen? ⟨b, 5, none⟩ = false :=
  ⟨h.free 0, h.free 1, h.free 2, h.free 3, h.free 4, h.free 5⟩
theorem Box.new {w : World} {t : TypeId} {a0 a1 a2 a3 a4 a5 : Value} : Box (w.alloc (.cells #[a0, a1, a2, a3, a4, a5] t)) w.heap.size #[a0, a1, a2, a3, a4, a5] := by
  constructor <;> simp [go_sem]
theorem Box.over {w : World} {b : Nat} {v : Array Value} {o : Obj} (h : Box w b v) : Box (w.alloc o) b v :=
  h.keep ((Below.refl _ _).alloc (Nat.le_refl _) _) h.low
theorem vbelow_new (w : World) (o : Obj) : Below w.heap.size w (w.alloc o) := (Below.refl _ _).alloc (Nat.le_refl _) _
theorem box2 {w w1 : World} {s t : TypeId} {a0 a1 a2 a3 a4 a5 b0 b1 b2 b3 b4 b5 : Value} (hb : Below ((w.alloc (.cells #[a0, a1, a2, a3, a4, a5] s)).alloc (.cells #[b0, b1, b2, b3, b4, b5] t)).heap.size ((w.alloc (.cells #[a0, a1, a2, a3, a4, a5] s)).alloc (.cells #[b0, b1, b2, b3, b4, b5] t)) w1) :
    Box w1 w.heap.size #[a0, a1, a2, a3, a4, a5] ∧ Box w1 (w.heap.size + 1) #[b0, b1, b2, b3, b4, b5] ∧ Below w.heap.size w w1 := by
  refine ⟨Box.new.over.keep hb (by simp; omega), ?_, (((Below.refl _ _).alloc (Nat.le_refl _) _).alloc (by simp) _).trans (hb.mono (by simp; omega))⟩
  have := (Box.new (w := w.alloc (.cells #[a0, a1, a2, a3, a4, a5] s)) (t := t) (a0 := b0) (a1 := b1) (a2 := b2) (a3 := b3) (a4 := b4) (a5 := b5)).keep hb (by simp)
  simpa using this
theorem box3 {w w1 : World} {s t u : TypeId} {a0 a1 a2 a3 a4 a5 b0 b1 b2 b3 b4 b5 c0 c1 c2 c3 c4 c5 : Value} (hb : Below (((w.alloc (.cells #[a0, a1, a2, a3, a4, a5] s)).alloc (.cells #[b0, b1, b2, b3, b4, b5] t)).alloc (.cells #[c0, c1, c2, c3, c4, c5] u)).heap.size (((w.alloc (.cells #[a0, a1, a2, a3, a4, a5] s)).alloc (.cells #[b0, b1, b2, b3, b4, b5] t)).alloc (.cells #[c0, c1, c2, c3, c4, c5] u)) w1) :
    Box w1 w.heap.size #[a0, a1, a2, a3, a4, a5] ∧ Box w1 (w.heap.size + 1) #[b0, b1, b2, b3, b4, b5] ∧ Box w1 (w.heap.size + 1 + 1) #[c0, c1, c2, c3, c4, c5] ∧ Below w.heap.size w w1 := by
  have B := (Box.new (w := w.alloc (.cells #[a0, a1, a2, a3, a4, a5] s)) (t := t) (a0 := b0) (a1 := b1) (a2 := b2) (a3 := b3) (a4 := b4) (a5 := b5)).over.keep hb (by simp <;> omega)
  have C := (Box.new (w := (w.alloc (.cells #[a0, a1, a2, a3, a4, a5] s)).alloc (.cells #[b0, b1, b2, b3, b4, b5] t)) (t := u) (a0 := c0) (a1 := c1) (a2 := c2) (a3 := c3) (a4 := c4) (a5 := c5)).keep hb (by simp)
  refine ⟨Box.new.over.over.keep hb (by simp; omega), by simpa using B, by simpa using C, ((((Below.refl _ _).alloc (Nat.le_refl _) _).alloc (by simp) _).alloc (by simp; omega) _).trans (hb.mono (by simp; omega))⟩

set_option maxHeartbeats 400000 in
theorem truth_any (y : Bool) (w : World) :
    Calls Tryz.prog 90 #[.bool y] w fun e w' => e = .returned (.agg #[.int .i64 2, .bool y, .int .i64 0, .int .i64 0, .string ⟨#[]⟩, .slice none 0 0]) ∧ Below w.heap.size w w' := by
  go_enter Tryz.func90, Tryz.ntmps90
  go_wp2
  exact bodyPost_ret (v := .agg #[.int .i64 2, .bool y, .int .i64 0, .int .i64 0, .string ⟨#[]⟩, .slice none 0 0]) (by simp [results, Tryz.results90, go_sem]) rfl ⟨rfl, (Below.refl _ _).alloc (Nat.le_refl _) _⟩

set_option maxHeartbeats 400000 in
theorem null_any (w : World) :
    Calls Tryz.prog 89 #[] w fun e w' => e = .returned (.agg #[.int .i64 1, .bool false, .int .i64 0, .int .i64 0, .string ⟨#[]⟩, .slice none 0 0]) ∧ Below w.heap.size w w' := by
  go_enter Tryz.func89, Tryz.ntmps89
  go_wp2
  exact bodyPost_ret (v := .agg #[.int .i64 1, .bool false, .int .i64 0, .int .i64 0, .string ⟨#[]⟩, .slice none 0 0]) (by simp [results, Tryz.results89, go_sem]) rfl ⟨rfl, (Below.refl _ _).alloc (Nat.le_refl _) _⟩

set_option maxHeartbeats 400000 in
theorem isTrue_is (k : Int) (y : Bool) (c x : Int) (t l : Value) (w : World) (b : Bool) (h : decide (tv k y = 2) = b) :
    Calls Tryz.prog 91 #[.agg #[.int .i64 k, .bool y, .int .i64 c, .int .i64 x, t, l]] w fun e w' => e = .returned (.bool b) ∧ Below w.heap.size w w' := by
  subst h
  go_enter Tryz.func91, Tryz.ntmps91
  go_wp2
  all_goals
    go_ret
    refine ⟨?_, (Below.refl _ _).alloc (Nat.le_refl _) _⟩
    cases y <;> simp_all [tv]

set_option maxHeartbeats 400000 in
theorem isFalse_is (k : Int) (y : Bool) (c x : Int) (t l : Value) (w : World) (b : Bool) (h : decide (tv k y = 0) = b) :
    Calls Tryz.prog 92 #[.agg #[.int .i64 k, .bool y, .int .i64 c, .int .i64 x, t, l]] w fun e w' => e = .returned (.bool b) ∧ Below w.heap.size w w' := by
  subst h
  go_enter Tryz.func92, Tryz.ntmps92
  go_wp2
  all_goals
    go_ret
    refine ⟨?_, (Below.refl _ _).alloc (Nat.le_refl _) _⟩
    cases y <;> simp_all [tv]

theorem tv_three (k : Int) (y : Bool) : tv k y = 0 ∨ tv k y = 1 ∨ tv k y = 2 := by
  unfold tv; cases y <;> by_cases h : k = 2 <;> simp [h]

set_option maxHeartbeats 400000 in
theorem not_any (k : Int) (y : Bool) (c x : Int) (t l : Value) (w : World) :
    Calls Tryz.prog 55 #[.agg #[.int .i64 k, .bool y, .int .i64 c, .int .i64 x, t, l]] w fun e w' => e = .returned (told (2 - tv k y)) ∧ Below w.heap.size w w' := by
  rcases tv_three k y with h | h | h
  all_goals
    rw [h]
    have H := hide h
    clear h
    go_enter Tryz.func55, Tryz.ntmps55
    go_wp2_with fail
  · refine (isTrue_is k y c x t l _ false (by rw [unhide H]; rfl)).mono ?_
    rintro e w1 ⟨rfl, hb⟩
    obtain ⟨A, R, hw⟩ := box2 hb
    clear hb
    obtain ⟨a0, a1, a2, a3, a4, a5⟩ := A.tell
    go_wp2_with fail
    refine (isFalse_is k y c x t l _ true (by rw [unhide H]; rfl)).mono ?_
    rintro e w2 ⟨rfl, hb⟩
    replace A := A.keep hb A.low
    replace R := R.keep hb R.low
    replace hw := hw.trans (hb.mono hw.size)
    clear hb a0 a1 a2 a3 a4 a5
    go_wp2_with fail
    refine (truth_any _ _).mono ?_
    rintro e w3 ⟨rfl, hb⟩
    replace R := R.keep hb R.low
    replace hw := hw.trans (hb.mono hw.size)
    clear hb A
    obtain ⟨a0, a1, a2, a3, a4, a5⟩ := R.tell
    obtain ⟨f0, f1, f2, f3, f4, f5⟩ := R.thaw
    have lb := R.low
    go_wp2
    exact bodyPost_ret (v := told 2) (by simp [results, Tryz.results55, go_sem, a0, a1, a2, a3, a4, a5, kd, yd]) rfl ⟨rfl, ((((((hw.setCell (by simp) _).setCell (by simp) _).setCell (by simp) _).setCell (by simp) _).setCell (by simp) _).setCell (by simp) _)⟩
  · refine (isTrue_is k y c x t l _ false (by rw [unhide H]; rfl)).mono ?_
    rintro e w1 ⟨rfl, hb⟩
    obtain ⟨A, R, hw⟩ := box2 hb
    clear hb
    obtain ⟨a0, a1, a2, a3, a4, a5⟩ := A.tell
    go_wp2_with fail
    refine (isFalse_is k y c x t l _ false (by rw [unhide H]; rfl)).mono ?_
    rintro e w2 ⟨rfl, hb⟩
    replace A := A.keep hb A.low
    replace R := R.keep hb R.low
    replace hw := hw.trans (hb.mono hw.size)
    clear hb a0 a1 a2 a3 a4 a5
    go_wp2_with fail
    refine (null_any _).mono ?_
    rintro e w3 ⟨rfl, hb⟩
    replace R := R.keep hb R.low
    replace hw := hw.trans (hb.mono hw.size)
    clear hb A
    obtain ⟨a0, a1, a2, a3, a4, a5⟩ := R.tell
    obtain ⟨f0, f1, f2, f3, f4, f5⟩ := R.thaw
    have lb := R.low
    go_wp2
    exact bodyPost_ret (v := told 1) (by simp [results, Tryz.results55, go_sem, a0, a1, a2, a3, a4, a5, kd, yd]) rfl ⟨rfl, ((((((hw.setCell (by simp) _).setCell (by simp) _).setCell (by simp) _).setCell (by simp) _).setCell (by simp) _).setCell (by simp) _)⟩
  · refine (isTrue_is k y c x t l _ true (by rw [unhide H]; rfl)).mono ?_
    rintro e w1 ⟨rfl, hb⟩
    obtain ⟨A, R, hw⟩ := box2 hb
    clear hb
    go_wp2_with fail
    refine (truth_any _ _).mono ?_
    rintro e w2 ⟨rfl, hb⟩
    replace R := R.keep hb R.low
    replace hw := hw.trans (hb.mono hw.size)
    clear hb A
    obtain ⟨a0, a1, a2, a3, a4, a5⟩ := R.tell
    obtain ⟨f0, f1, f2, f3, f4, f5⟩ := R.thaw
    have lb := R.low
    go_wp2
    exact bodyPost_ret (v := told 0) (by simp [results, Tryz.results55, go_sem, a0, a1, a2, a3, a4, a5, kd, yd]) rfl ⟨rfl, ((((((hw.setCell (by simp) _).setCell (by simp) _).setCell (by simp) _).setCell (by simp) _).setCell (by simp) _).setCell (by simp) _)⟩

set_option maxHeartbeats 2000000 in
theorem and_any (k : Int) (y : Bool) (c x : Int) (t l : Value) (k2 : Int) (y2 : Bool) (c2 x2 : Int) (t2 l2 : Value) (w : World) :
    Calls Tryz.prog 56 #[.agg #[.int .i64 k, .bool y, .int .i64 c, .int .i64 x, t, l], .agg #[.int .i64 k2, .bool y2, .int .i64 c2, .int .i64 x2, t2, l2]] w fun e w' => e = .returned (told (min (tv k y) (tv k2 y2))) ∧ Below w.heap.size w w' := by
  rcases tv_three k y with h | h | h <;> rcases tv_three k2 y2 with g | g | g
  all_goals
    rw [h, g]
    have H := hide h
    have K := hide g
    clear h g
    go_enter Tryz.func56, Tryz.ntmps56
    go_wp2_with fail
  · refine (isFalse_is k y c x t l _ true (by rw [unhide H]; rfl)).mono ?_
    rintro e w1 ⟨rfl, hb⟩
    obtain ⟨A, B, R, hw⟩ := box3 hb
    clear hb
    go_wp2_with fail
    refine (truth_any _ _).mono ?_
    rintro e w2 ⟨rfl, hb⟩
    replace R := R.keep hb R.low
    replace hw := hw.trans (hb.mono hw.size)
    clear hb A B
    obtain ⟨a0, a1, a2, a3, a4, a5⟩ := R.tell
    obtain ⟨f0, f1, f2, f3, f4, f5⟩ := R.thaw
    have lb := R.low
    go_wp2
    exact bodyPost_ret (v := told 0) (by simp [results, Tryz.results56, go_sem, a0, a1, a2, a3, a4, a5, kd, yd]) rfl ⟨rfl, ((((((hw.setCell (by simp; omega) _).setCell (by simp; omega) _).setCell (by simp; omega) _).setCell (by simp; omega) _).setCell (by simp; omega) _).setCell (by simp; omega) _)⟩
  · refine (isFalse_is k y c x t l _ true (by rw [unhide H]; rfl)).mono ?_
    rintro e w1 ⟨rfl, hb⟩
    obtain ⟨A, B, R, hw⟩ := box3 hb
    clear hb
    go_wp2_with fail
    refine (truth_any _ _).mono ?_
    rintro e w2 ⟨rfl, hb⟩
    replace R := R.keep hb R.low
    replace hw := hw.trans (hb.mono hw.size)
    clear hb A B
    obtain ⟨a0, a1, a2, a3, a4, a5⟩ := R.tell
    obtain ⟨f0, f1, f2, f3, f4, f5⟩ := R.thaw
    have lb := R.low
    go_wp2
    exact bodyPost_ret (v := told 0) (by simp [results, Tryz.results56, go_sem, a0, a1, a2, a3, a4, a5, kd, yd]) rfl ⟨rfl, ((((((hw.setCell (by simp; omega) _).setCell (by simp; omega) _).setCell (by simp; omega) _).setCell (by simp; omega) _).setCell (by simp; omega) _).setCell (by simp; omega) _)⟩
  · refine (isFalse_is k y c x t l _ true (by rw [unhide H]; rfl)).mono ?_
    rintro e w1 ⟨rfl, hb⟩
    obtain ⟨A, B, R, hw⟩ := box3 hb
    clear hb
    go_wp2_with fail
    refine (truth_any _ _).mono ?_
    rintro e w2 ⟨rfl, hb⟩
    replace R := R.keep hb R.low
    replace hw := hw.trans (hb.mono hw.size)
    clear hb A B
    obtain ⟨a0, a1, a2, a3, a4, a5⟩ := R.tell
    obtain ⟨f0, f1, f2, f3, f4, f5⟩ := R.thaw
    have lb := R.low
    go_wp2
    exact bodyPost_ret (v := told 0) (by simp [results, Tryz.results56, go_sem, a0, a1, a2, a3, a4, a5, kd, yd]) rfl ⟨rfl, ((((((hw.setCell (by simp; omega) _).setCell (by simp; omega) _).setCell (by simp; omega) _).setCell (by simp; omega) _).setCell (by simp; omega) _).setCell (by simp; omega) _)⟩
  · refine (isFalse_is k y c x t l _ false (by rw [unhide H]; rfl)).mono ?_
    rintro e w1 ⟨rfl, hb⟩
    obtain ⟨A, B, R, hw⟩ := box3 hb
    clear hb
    obtain ⟨a0, a1, a2, a3, a4, a5⟩ := A.tell
    obtain ⟨b0, b1, b2, b3, b4, b5⟩ := B.tell
    go_wp2_with fail
    refine (isFalse_is k2 y2 c2 x2 t2 l2 _ true (by rw [unhide K]; rfl)).mono ?_
    rintro e w2 ⟨rfl, hb⟩
    replace A := A.keep hb A.low
    replace B := B.keep hb B.low
    replace R := R.keep hb R.low
    replace hw := hw.trans (hb.mono hw.size)
    clear hb a0 a1 a2 a3 a4 a5 b0 b1 b2 b3 b4 b5
    go_wp2_with fail
    refine (truth_any _ _).mono ?_
    rintro e w3 ⟨rfl, hb⟩
    replace R := R.keep hb R.low
    replace hw := hw.trans (hb.mono hw.size)
    clear hb A B
    obtain ⟨a0, a1, a2, a3, a4, a5⟩ := R.tell
    obtain ⟨f0, f1, f2, f3, f4, f5⟩ := R.thaw
    have lb := R.low
    go_wp2
    exact bodyPost_ret (v := told 0) (by simp [results, Tryz.results56, go_sem, a0, a1, a2, a3, a4, a5, kd, yd]) rfl ⟨rfl, ((((((hw.setCell (by simp; omega) _).setCell (by simp; omega) _).setCell (by simp; omega) _).setCell (by simp; omega) _).setCell (by simp; omega) _).setCell (by simp; omega) _)⟩
  · refine (isFalse_is k y c x t l _ false (by rw [unhide H]; rfl)).mono ?_
    rintro e w1 ⟨rfl, hb⟩
    obtain ⟨A, B, R, hw⟩ := box3 hb
    clear hb
    obtain ⟨a0, a1, a2, a3, a4, a5⟩ := A.tell
    obtain ⟨b0, b1, b2, b3, b4, b5⟩ := B.tell
    go_wp2_with fail
    refine (isFalse_is k2 y2 c2 x2 t2 l2 _ false (by rw [unhide K]; rfl)).mono ?_
    rintro e w2 ⟨rfl, hb⟩
    replace A := A.keep hb A.low
    replace B := B.keep hb B.low
    replace R := R.keep hb R.low
    replace hw := hw.trans (hb.mono hw.size)
    clear hb a0 a1 a2 a3 a4 a5 b0 b1 b2 b3 b4 b5
    obtain ⟨a0, a1, a2, a3, a4, a5⟩ := A.tell
    obtain ⟨b0, b1, b2, b3, b4, b5⟩ := B.tell
    go_wp2_with fail
    refine (isTrue_is k y c x t l _ false (by rw [unhide H]; rfl)).mono ?_
    rintro e w3 ⟨rfl, hb⟩
    replace A := A.keep hb A.low
    replace B := B.keep hb B.low
    replace R := R.keep hb R.low
    replace hw := hw.trans (hb.mono hw.size)
    clear hb a0 a1 a2 a3 a4 a5 b0 b1 b2 b3 b4 b5
    go_wp2_with fail
    refine (null_any _).mono ?_
    rintro e w4 ⟨rfl, hb⟩
    replace R := R.keep hb R.low
    replace hw := hw.trans (hb.mono hw.size)
    clear hb A B
    obtain ⟨a0, a1, a2, a3, a4, a5⟩ := R.tell
    obtain ⟨f0, f1, f2, f3, f4, f5⟩ := R.thaw
    have lb := R.low
    go_wp2
    exact bodyPost_ret (v := told 1) (by simp [results, Tryz.results56, go_sem, a0, a1, a2, a3, a4, a5, kd, yd]) rfl ⟨rfl, ((((((hw.setCell (by simp; omega) _).setCell (by simp; omega) _).setCell (by simp; omega) _).setCell (by simp; omega) _).setCell (by simp; omega) _).setCell (by simp; omega) _)⟩
  · refine (isFalse_is k y c x t l _ false (by rw [unhide H]; rfl)).mono ?_
    rintro e w1 ⟨rfl, hb⟩
    obtain ⟨A, B, R, hw⟩ := box3 hb
    clear hb
    obtain ⟨a0, a1, a2, a3, a4, a5⟩ := A.tell
    obtain ⟨b0, b1, b2, b3, b4, b5⟩ := B.tell
    go_wp2_with fail
    refine (isFalse_is k2 y2 c2 x2 t2 l2 _ false (by rw [unhide K]; rfl)).mono ?_
    rintro e w2 ⟨rfl, hb⟩
    replace A := A.keep hb A.low
    replace B := B.keep hb B.low
    replace R := R.keep hb R.low
    replace hw := hw.trans (hb.mono hw.size)
    clear hb a0 a1 a2 a3 a4 a5 b0 b1 b2 b3 b4 b5
    obtain ⟨a0, a1, a2, a3, a4, a5⟩ := A.tell
    obtain ⟨b0, b1, b2, b3, b4, b5⟩ := B.tell
    go_wp2_with fail
    refine (isTrue_is k y c x t l _ false (by rw [unhide H]; rfl)).mono ?_
    rintro e w3 ⟨rfl, hb⟩
    replace A := A.keep hb A.low
    replace B := B.keep hb B.low
    replace R := R.keep hb R.low
    replace hw := hw.trans (hb.mono hw.size)
    clear hb a0 a1 a2 a3 a4 a5 b0 b1 b2 b3 b4 b5
    go_wp2_with fail
    refine (null_any _).mono ?_
    rintro e w4 ⟨rfl, hb⟩
    replace R := R.keep hb R.low
    replace hw := hw.trans (hb.mono hw.size)
    clear hb A B
    obtain ⟨a0, a1, a2, a3, a4, a5⟩ := R.tell
    obtain ⟨f0, f1, f2, f3, f4, f5⟩ := R.thaw
    have lb := R.low
    go_wp2
    exact bodyPost_ret (v := told 1) (by simp [results, Tryz.results56, go_sem, a0, a1, a2, a3, a4, a5, kd, yd]) rfl ⟨rfl, ((((((hw.setCell (by simp; omega) _).setCell (by simp; omega) _).setCell (by simp; omega) _).setCell (by simp; omega) _).setCell (by simp; omega) _).setCell (by simp; omega) _)⟩
  · refine (isFalse_is k y c x t l _ false (by rw [unhide H]; rfl)).mono ?_
    rintro e w1 ⟨rfl, hb⟩
    obtain ⟨A, B, R, hw⟩ := box3 hb
    clear hb
    obtain ⟨a0, a1, a2, a3, a4, a5⟩ := A.tell
    obtain ⟨b0, b1, b2, b3, b4, b5⟩ := B.tell
    go_wp2_with fail
    refine (isFalse_is k2 y2 c2 x2 t2 l2 _ true (by rw [unhide K]; rfl)).mono ?_
    rintro e w2 ⟨rfl, hb⟩
    replace A := A.keep hb A.low
    replace B := B.keep hb B.low
    replace R := R.keep hb R.low
    replace hw := hw.trans (hb.mono hw.size)
    clear hb a0 a1 a2 a3 a4 a5 b0 b1 b2 b3 b4 b5
    go_wp2_with fail
    refine (truth_any _ _).mono ?_
    rintro e w3 ⟨rfl, hb⟩
    replace R := R.keep hb R.low
    replace hw := hw.trans (hb.mono hw.size)
    clear hb A B
    obtain ⟨a0, a1, a2, a3, a4, a5⟩ := R.tell
    obtain ⟨f0, f1, f2, f3, f4, f5⟩ := R.thaw
    have lb := R.low
    go_wp2
    exact bodyPost_ret (v := told 0) (by simp [results, Tryz.results56, go_sem, a0, a1, a2, a3, a4, a5, kd, yd]) rfl ⟨rfl, ((((((hw.setCell (by simp; omega) _).setCell (by simp; omega) _).setCell (by simp; omega) _).setCell (by simp; omega) _).setCell (by simp; omega) _).setCell (by simp; omega) _)⟩
  · refine (isFalse_is k y c x t l _ false (by rw [unhide H]; rfl)).mono ?_
    rintro e w1 ⟨rfl, hb⟩
    obtain ⟨A, B, R, hw⟩ := box3 hb
    clear hb
    obtain ⟨a0, a1, a2, a3, a4, a5⟩ := A.tell
    obtain ⟨b0, b1, b2, b3, b4, b5⟩ := B.tell
    go_wp2_with fail
    refine (isFalse_is k2 y2 c2 x2 t2 l2 _ false (by rw [unhide K]; rfl)).mono ?_
    rintro e w2 ⟨rfl, hb⟩
    replace A := A.keep hb A.low
    replace B := B.keep hb B.low
    replace R := R.keep hb R.low
    replace hw := hw.trans (hb.mono hw.size)
    clear hb a0 a1 a2 a3 a4 a5 b0 b1 b2 b3 b4 b5
    obtain ⟨a0, a1, a2, a3, a4, a5⟩ := A.tell
    obtain ⟨b0, b1, b2, b3, b4, b5⟩ := B.tell
    go_wp2_with fail
    refine (isTrue_is k y c x t l _ true (by rw [unhide H]; rfl)).mono ?_
    rintro e w3 ⟨rfl, hb⟩
    replace A := A.keep hb A.low
    replace B := B.keep hb B.low
    replace R := R.keep hb R.low
    replace hw := hw.trans (hb.mono hw.size)
    clear hb a0 a1 a2 a3 a4 a5 b0 b1 b2 b3 b4 b5
    obtain ⟨a0, a1, a2, a3, a4, a5⟩ := A.tell
    obtain ⟨b0, b1, b2, b3, b4, b5⟩ := B.tell
    go_wp2_with fail
    refine (isTrue_is k2 y2 c2 x2 t2 l2 _ false (by rw [unhide K]; rfl)).mono ?_
    rintro e w4 ⟨rfl, hb⟩
    replace A := A.keep hb A.low
    replace B := B.keep hb B.low
    replace R := R.keep hb R.low
    replace hw := hw.trans (hb.mono hw.size)
    clear hb a0 a1 a2 a3 a4 a5 b0 b1 b2 b3 b4 b5
    go_wp2_with fail
    refine (null_any _).mono ?_
    rintro e w5 ⟨rfl, hb⟩
    replace R := R.keep hb R.low
    replace hw := hw.trans (hb.mono hw.size)
    clear hb A B
    obtain ⟨a0, a1, a2, a3, a4, a5⟩ := R.tell
    obtain ⟨f0, f1, f2, f3, f4, f5⟩ := R.thaw
    have lb := R.low
    go_wp2
    exact bodyPost_ret (v := told 1) (by simp [results, Tryz.results56, go_sem, a0, a1, a2, a3, a4, a5, kd, yd]) rfl ⟨rfl, ((((((hw.setCell (by simp; omega) _).setCell (by simp; omega) _).setCell (by simp; omega) _).setCell (by simp; omega) _).setCell (by simp; omega) _).setCell (by simp; omega) _)⟩
  · refine (isFalse_is k y c x t l _ false (by rw [unhide H]; rfl)).mono ?_
    rintro e w1 ⟨rfl, hb⟩
    obtain ⟨A, B, R, hw⟩ := box3 hb
    clear hb
    obtain ⟨a0, a1, a2, a3, a4, a5⟩ := A.tell
    obtain ⟨b0, b1, b2, b3, b4, b5⟩ := B.tell
    go_wp2_with fail
    refine (isFalse_is k2 y2 c2 x2 t2 l2 _ false (by rw [unhide K]; rfl)).mono ?_
    rintro e w2 ⟨rfl, hb⟩
    replace A := A.keep hb A.low
    replace B := B.keep hb B.low
    replace R := R.keep hb R.low
    replace hw := hw.trans (hb.mono hw.size)
    clear hb a0 a1 a2 a3 a4 a5 b0 b1 b2 b3 b4 b5
    obtain ⟨a0, a1, a2, a3, a4, a5⟩ := A.tell
    obtain ⟨b0, b1, b2, b3, b4, b5⟩ := B.tell
    go_wp2_with fail
    refine (isTrue_is k y c x t l _ true (by rw [unhide H]; rfl)).mono ?_
    rintro e w3 ⟨rfl, hb⟩
    replace A := A.keep hb A.low
    replace B := B.keep hb B.low
    replace R := R.keep hb R.low
    replace hw := hw.trans (hb.mono hw.size)
    clear hb a0 a1 a2 a3 a4 a5 b0 b1 b2 b3 b4 b5
    obtain ⟨a0, a1, a2, a3, a4, a5⟩ := A.tell
    obtain ⟨b0, b1, b2, b3, b4, b5⟩ := B.tell
    go_wp2_with fail
    refine (isTrue_is k2 y2 c2 x2 t2 l2 _ true (by rw [unhide K]; rfl)).mono ?_
    rintro e w4 ⟨rfl, hb⟩
    replace A := A.keep hb A.low
    replace B := B.keep hb B.low
    replace R := R.keep hb R.low
    replace hw := hw.trans (hb.mono hw.size)
    clear hb a0 a1 a2 a3 a4 a5 b0 b1 b2 b3 b4 b5
    go_wp2_with fail
    refine (truth_any _ _).mono ?_
    rintro e w5 ⟨rfl, hb⟩
    replace R := R.keep hb R.low
    replace hw := hw.trans (hb.mono hw.size)
    clear hb A B
    obtain ⟨a0, a1, a2, a3, a4, a5⟩ := R.tell
    obtain ⟨f0, f1, f2, f3, f4, f5⟩ := R.thaw
    have lb := R.low
    go_wp2
    exact bodyPost_ret (v := told 2) (by simp [results, Tryz.results56, go_sem, a0, a1, a2, a3, a4, a5, kd, yd]) rfl ⟨rfl, ((((((hw.setCell (by simp; omega) _).setCell (by simp; omega) _).setCell (by simp; omega) _).setCell (by simp; omega) _).setCell (by simp; omega) _).setCell (by simp; omega) _)⟩

set_option maxHeartbeats 2000000 in
theorem or_any (k : Int) (y : Bool) (c x : Int) (t l : Value) (k2 : Int) (y2 : Bool) (c2 x2 : Int) (t2 l2 : Value) (w : World) :
    Calls Tryz.prog 93 #[.agg #[.int .i64 k, .bool y, .int .i64 c, .int .i64 x, t, l], .agg #[.int .i64 k2, .bool y2, .int .i64 c2, .int .i64 x2, t2, l2]] w fun e w' => e = .returned (told (max (tv k y) (tv k2 y2))) ∧ Below w.heap.size w w' := by
  rcases tv_three k y with h | h | h <;> rcases tv_three k2 y2 with g | g | g
  all_goals
    rw [h, g]
    have H := hide h
    have K := hide g
    clear h g
    go_enter Tryz.func93, Tryz.ntmps93
    go_wp2_with fail
  · refine (isTrue_is k y c x t l _ false (by rw [unhide H]; rfl)).mono ?_
    rintro e w1 ⟨rfl, hb⟩
    obtain ⟨A, B, R, hw⟩ := box3 hb
    clear hb
    obtain ⟨a0, a1, a2, a3, a4, a5⟩ := A.tell
    obtain ⟨b0, b1, b2, b3, b4, b5⟩ := B.tell
    go_wp2_with fail
    refine (isTrue_is k2 y2 c2 x2 t2 l2 _ false (by rw [unhide K]; rfl)).mono ?_
    rintro e w2 ⟨rfl, hb⟩
    replace A := A.keep hb A.low
    replace B := B.keep hb B.low
    replace R := R.keep hb R.low
    replace hw := hw.trans (hb.mono hw.size)
    clear hb a0 a1 a2 a3 a4 a5 b0 b1 b2 b3 b4 b5
    obtain ⟨a0, a1, a2, a3, a4, a5⟩ := A.tell
    obtain ⟨b0, b1, b2, b3, b4, b5⟩ := B.tell
    go_wp2_with fail
    refine (isFalse_is k y c x t l _ true (by rw [unhide H]; rfl)).mono ?_
    rintro e w3 ⟨rfl, hb⟩
    replace A := A.keep hb A.low
    replace B := B.keep hb B.low
    replace R := R.keep hb R.low
    replace hw := hw.trans (hb.mono hw.size)
    clear hb a0 a1 a2 a3 a4 a5 b0 b1 b2 b3 b4 b5
    obtain ⟨a0, a1, a2, a3, a4, a5⟩ := A.tell
    obtain ⟨b0, b1, b2, b3, b4, b5⟩ := B.tell
    go_wp2_with fail
    refine (isFalse_is k2 y2 c2 x2 t2 l2 _ true (by rw [unhide K]; rfl)).mono ?_
    rintro e w4 ⟨rfl, hb⟩
    replace A := A.keep hb A.low
    replace B := B.keep hb B.low
    replace R := R.keep hb R.low
    replace hw := hw.trans (hb.mono hw.size)
    clear hb a0 a1 a2 a3 a4 a5 b0 b1 b2 b3 b4 b5
    go_wp2_with fail
    refine (truth_any _ _).mono ?_
    rintro e w5 ⟨rfl, hb⟩
    replace R := R.keep hb R.low
    replace hw := hw.trans (hb.mono hw.size)
    clear hb A B
    obtain ⟨a0, a1, a2, a3, a4, a5⟩ := R.tell
    obtain ⟨f0, f1, f2, f3, f4, f5⟩ := R.thaw
    have lb := R.low
    go_wp2
    exact bodyPost_ret (v := told 0) (by simp [results, Tryz.results93, go_sem, a0, a1, a2, a3, a4, a5, kd, yd]) rfl ⟨rfl, ((((((hw.setCell (by simp; omega) _).setCell (by simp; omega) _).setCell (by simp; omega) _).setCell (by simp; omega) _).setCell (by simp; omega) _).setCell (by simp; omega) _)⟩
  · refine (isTrue_is k y c x t l _ false (by rw [unhide H]; rfl)).mono ?_
    rintro e w1 ⟨rfl, hb⟩
    obtain ⟨A, B, R, hw⟩ := box3 hb
    clear hb
    obtain ⟨a0, a1, a2, a3, a4, a5⟩ := A.tell
    obtain ⟨b0, b1, b2, b3, b4, b5⟩ := B.tell
    go_wp2_with fail
    refine (isTrue_is k2 y2 c2 x2 t2 l2 _ false (by rw [unhide K]; rfl)).mono ?_
    rintro e w2 ⟨rfl, hb⟩
    replace A := A.keep hb A.low
    replace B := B.keep hb B.low
    replace R := R.keep hb R.low
    replace hw := hw.trans (hb.mono hw.size)
    clear hb a0 a1 a2 a3 a4 a5 b0 b1 b2 b3 b4 b5
    obtain ⟨a0, a1, a2, a3, a4, a5⟩ := A.tell
    obtain ⟨b0, b1, b2, b3, b4, b5⟩ := B.tell
    go_wp2_with fail
    refine (isFalse_is k y c x t l _ true (by rw [unhide H]; rfl)).mono ?_
    rintro e w3 ⟨rfl, hb⟩
    replace A := A.keep hb A.low
    replace B := B.keep hb B.low
    replace R := R.keep hb R.low
    replace hw := hw.trans (hb.mono hw.size)
    clear hb a0 a1 a2 a3 a4 a5 b0 b1 b2 b3 b4 b5
    obtain ⟨a0, a1, a2, a3, a4, a5⟩ := A.tell
    obtain ⟨b0, b1, b2, b3, b4, b5⟩ := B.tell
    go_wp2_with fail
    refine (isFalse_is k2 y2 c2 x2 t2 l2 _ false (by rw [unhide K]; rfl)).mono ?_
    rintro e w4 ⟨rfl, hb⟩
    replace A := A.keep hb A.low
    replace B := B.keep hb B.low
    replace R := R.keep hb R.low
    replace hw := hw.trans (hb.mono hw.size)
    clear hb a0 a1 a2 a3 a4 a5 b0 b1 b2 b3 b4 b5
    go_wp2_with fail
    refine (null_any _).mono ?_
    rintro e w5 ⟨rfl, hb⟩
    replace R := R.keep hb R.low
    replace hw := hw.trans (hb.mono hw.size)
    clear hb A B
    obtain ⟨a0, a1, a2, a3, a4, a5⟩ := R.tell
    obtain ⟨f0, f1, f2, f3, f4, f5⟩ := R.thaw
    have lb := R.low
    go_wp2
    exact bodyPost_ret (v := told 1) (by simp [results, Tryz.results93, go_sem, a0, a1, a2, a3, a4, a5, kd, yd]) rfl ⟨rfl, ((((((hw.setCell (by simp; omega) _).setCell (by simp; omega) _).setCell (by simp; omega) _).setCell (by simp; omega) _).setCell (by simp; omega) _).setCell (by simp; omega) _)⟩
  · refine (isTrue_is k y c x t l _ false (by rw [unhide H]; rfl)).mono ?_
    rintro e w1 ⟨rfl, hb⟩
    obtain ⟨A, B, R, hw⟩ := box3 hb
    clear hb
    obtain ⟨a0, a1, a2, a3, a4, a5⟩ := A.tell
    obtain ⟨b0, b1, b2, b3, b4, b5⟩ := B.tell
    go_wp2_with fail
    refine (isTrue_is k2 y2 c2 x2 t2 l2 _ true (by rw [unhide K]; rfl)).mono ?_
    rintro e w2 ⟨rfl, hb⟩
    replace A := A.keep hb A.low
    replace B := B.keep hb B.low
    replace R := R.keep hb R.low
    replace hw := hw.trans (hb.mono hw.size)
    clear hb a0 a1 a2 a3 a4 a5 b0 b1 b2 b3 b4 b5
    go_wp2_with fail
    refine (truth_any _ _).mono ?_
    rintro e w3 ⟨rfl, hb⟩
    replace R := R.keep hb R.low
    replace hw := hw.trans (hb.mono hw.size)
    clear hb A B
    obtain ⟨a0, a1, a2, a3, a4, a5⟩ := R.tell
    obtain ⟨f0, f1, f2, f3, f4, f5⟩ := R.thaw
    have lb := R.low
    go_wp2
    exact bodyPost_ret (v := told 2) (by simp [results, Tryz.results93, go_sem, a0, a1, a2, a3, a4, a5, kd, yd]) rfl ⟨rfl, ((((((hw.setCell (by simp; omega) _).setCell (by simp; omega) _).setCell (by simp; omega) _).setCell (by simp; omega) _).setCell (by simp; omega) _).setCell (by simp; omega) _)⟩
  · refine (isTrue_is k y c x t l _ false (by rw [unhide H]; rfl)).mono ?_
    rintro e w1 ⟨rfl, hb⟩
    obtain ⟨A, B, R, hw⟩ := box3 hb
    clear hb
    obtain ⟨a0, a1, a2, a3, a4, a5⟩ := A.tell
    obtain ⟨b0, b1, b2, b3, b4, b5⟩ := B.tell
    go_wp2_with fail
    refine (isTrue_is k2 y2 c2 x2 t2 l2 _ false (by rw [unhide K]; rfl)).mono ?_
    rintro e w2 ⟨rfl, hb⟩
    replace A := A.keep hb A.low
    replace B := B.keep hb B.low
    replace R := R.keep hb R.low
    replace hw := hw.trans (hb.mono hw.size)
    clear hb a0 a1 a2 a3 a4 a5 b0 b1 b2 b3 b4 b5
    obtain ⟨a0, a1, a2, a3, a4, a5⟩ := A.tell
    obtain ⟨b0, b1, b2, b3, b4, b5⟩ := B.tell
    go_wp2_with fail
    refine (isFalse_is k y c x t l _ false (by rw [unhide H]; rfl)).mono ?_
    rintro e w3 ⟨rfl, hb⟩
    replace A := A.keep hb A.low
    replace B := B.keep hb B.low
    replace R := R.keep hb R.low
    replace hw := hw.trans (hb.mono hw.size)
    clear hb a0 a1 a2 a3 a4 a5 b0 b1 b2 b3 b4 b5
    go_wp2_with fail
    refine (null_any _).mono ?_
    rintro e w4 ⟨rfl, hb⟩
    replace R := R.keep hb R.low
    replace hw := hw.trans (hb.mono hw.size)
    clear hb A B
    obtain ⟨a0, a1, a2, a3, a4, a5⟩ := R.tell
    obtain ⟨f0, f1, f2, f3, f4, f5⟩ := R.thaw
    have lb := R.low
    go_wp2
    exact bodyPost_ret (v := told 1) (by simp [results, Tryz.results93, go_sem, a0, a1, a2, a3, a4, a5, kd, yd]) rfl ⟨rfl, ((((((hw.setCell (by simp; omega) _).setCell (by simp; omega) _).setCell (by simp; omega) _).setCell (by simp; omega) _).setCell (by simp; omega) _).setCell (by simp; omega) _)⟩
  · refine (isTrue_is k y c x t l _ false (by rw [unhide H]; rfl)).mono ?_
    rintro e w1 ⟨rfl, hb⟩
    obtain ⟨A, B, R, hw⟩ := box3 hb
    clear hb
    obtain ⟨a0, a1, a2, a3, a4, a5⟩ := A.tell
    obtain ⟨b0, b1, b2, b3, b4, b5⟩ := B.tell
    go_wp2_with fail
    refine (isTrue_is k2 y2 c2 x2 t2 l2 _ false (by rw [unhide K]; rfl)).mono ?_
    rintro e w2 ⟨rfl, hb⟩
    replace A := A.keep hb A.low
    replace B := B.keep hb B.low
    replace R := R.keep hb R.low
    replace hw := hw.trans (hb.mono hw.size)
    clear hb a0 a1 a2 a3 a4 a5 b0 b1 b2 b3 b4 b5
    obtain ⟨a0, a1, a2, a3, a4, a5⟩ := A.tell
    obtain ⟨b0, b1, b2, b3, b4, b5⟩ := B.tell
    go_wp2_with fail
    refine (isFalse_is k y c x t l _ false (by rw [unhide H]; rfl)).mono ?_
    rintro e w3 ⟨rfl, hb⟩
    replace A := A.keep hb A.low
    replace B := B.keep hb B.low
    replace R := R.keep hb R.low
    replace hw := hw.trans (hb.mono hw.size)
    clear hb a0 a1 a2 a3 a4 a5 b0 b1 b2 b3 b4 b5
    go_wp2_with fail
    refine (null_any _).mono ?_
    rintro e w4 ⟨rfl, hb⟩
    replace R := R.keep hb R.low
    replace hw := hw.trans (hb.mono hw.size)
    clear hb A B
    obtain ⟨a0, a1, a2, a3, a4, a5⟩ := R.tell
    obtain ⟨f0, f1, f2, f3, f4, f5⟩ := R.thaw
    have lb := R.low
    go_wp2
    exact bodyPost_ret (v := told 1) (by simp [results, Tryz.results93, go_sem, a0, a1, a2, a3, a4, a5, kd, yd]) rfl ⟨rfl, ((((((hw.setCell (by simp; omega) _).setCell (by simp; omega) _).setCell (by simp; omega) _).setCell (by simp; omega) _).setCell (by simp; omega) _).setCell (by simp; omega) _)⟩
  · refine (isTrue_is k y c x t l _ false (by rw [unhide H]; rfl)).mono ?_
    rintro e w1 ⟨rfl, hb⟩
    obtain ⟨A, B, R, hw⟩ := box3 hb
    clear hb
    obtain ⟨a0, a1, a2, a3, a4, a5⟩ := A.tell
    obtain ⟨b0, b1, b2, b3, b4, b5⟩ := B.tell
    go_wp2_with fail
    refine (isTrue_is k2 y2 c2 x2 t2 l2 _ true (by rw [unhide K]; rfl)).mono ?_
    rintro e w2 ⟨rfl, hb⟩
    replace A := A.keep hb A.low
    replace B := B.keep hb B.low
    replace R := R.keep hb R.low
    replace hw := hw.trans (hb.mono hw.size)
    clear hb a0 a1 a2 a3 a4 a5 b0 b1 b2 b3 b4 b5
    go_wp2_with fail
    refine (truth_any _ _).mono ?_
    rintro e w3 ⟨rfl, hb⟩
    replace R := R.keep hb R.low
    replace hw := hw.trans (hb.mono hw.size)
    clear hb A B
    obtain ⟨a0, a1, a2, a3, a4, a5⟩ := R.tell
    obtain ⟨f0, f1, f2, f3, f4, f5⟩ := R.thaw
    have lb := R.low
    go_wp2
    exact bodyPost_ret (v := told 2) (by simp [results, Tryz.results93, go_sem, a0, a1, a2, a3, a4, a5, kd, yd]) rfl ⟨rfl, ((((((hw.setCell (by simp; omega) _).setCell (by simp; omega) _).setCell (by simp; omega) _).setCell (by simp; omega) _).setCell (by simp; omega) _).setCell (by simp; omega) _)⟩
  · refine (isTrue_is k y c x t l _ true (by rw [unhide H]; rfl)).mono ?_
    rintro e w1 ⟨rfl, hb⟩
    obtain ⟨A, B, R, hw⟩ := box3 hb
    clear hb
    go_wp2_with fail
    refine (truth_any _ _).mono ?_
    rintro e w2 ⟨rfl, hb⟩
    replace R := R.keep hb R.low
    replace hw := hw.trans (hb.mono hw.size)
    clear hb A B
    obtain ⟨a0, a1, a2, a3, a4, a5⟩ := R.tell
    obtain ⟨f0, f1, f2, f3, f4, f5⟩ := R.thaw
    have lb := R.low
    go_wp2
    exact bodyPost_ret (v := told 2) (by simp [results, Tryz.results93, go_sem, a0, a1, a2, a3, a4, a5, kd, yd]) rfl ⟨rfl, ((((((hw.setCell (by simp; omega) _).setCell (by simp; omega) _).setCell (by simp; omega) _).setCell (by simp; omega) _).setCell (by simp; omega) _).setCell (by simp; omega) _)⟩
  · refine (isTrue_is k y c x t l _ true (by rw [unhide H]; rfl)).mono ?_
    rintro e w1 ⟨rfl, hb⟩
    obtain ⟨A, B, R, hw⟩ := box3 hb
    clear hb
    go_wp2_with fail
    refine (truth_any _ _).mono ?_
    rintro e w2 ⟨rfl, hb⟩
    replace R := R.keep hb R.low
    replace hw := hw.trans (hb.mono hw.size)
    clear hb A B
    obtain ⟨a0, a1, a2, a3, a4, a5⟩ := R.tell
    obtain ⟨f0, f1, f2, f3, f4, f5⟩ := R.thaw
    have lb := R.low
    go_wp2
    exact bodyPost_ret (v := told 2) (by simp [results, Tryz.results93, go_sem, a0, a1, a2, a3, a4, a5, kd, yd]) rfl ⟨rfl, ((((((hw.setCell (by simp; omega) _).setCell (by simp; omega) _).setCell (by simp; omega) _).setCell (by simp; omega) _).setCell (by simp; omega) _).setCell (by simp; omega) _)⟩
  · refine (isTrue_is k y c x t l _ true (by rw [unhide H]; rfl)).mono ?_
    rintro e w1 ⟨rfl, hb⟩
    obtain ⟨A, B, R, hw⟩ := box3 hb
    clear hb
    go_wp2_with fail
    refine (truth_any _ _).mono ?_
    rintro e w2 ⟨rfl, hb⟩
    replace R := R.keep hb R.low
    replace hw := hw.trans (hb.mono hw.size)
    clear hb A B
    obtain ⟨a0, a1, a2, a3, a4, a5⟩ := R.tell
    obtain ⟨f0, f1, f2, f3, f4, f5⟩ := R.thaw
    have lb := R.low
    go_wp2
    exact bodyPost_ret (v := told 2) (by simp [results, Tryz.results93, go_sem, a0, a1, a2, a3, a4, a5, kd, yd]) rfl ⟨rfl, ((((((hw.setCell (by simp; omega) _).setCell (by simp; omega) _).setCell (by simp; omega) _).setCell (by simp; omega) _).setCell (by simp; omega) _).setCell (by simp; omega) _)⟩
end Go.Proofs.YtdkgapapdjefdaaGreatDoor
