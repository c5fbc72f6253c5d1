/- Walks: Same and finer of what is told; alive. -/
import Derived.Test.YthhdgimphnbjbaaDoorV1d
namespace Go.Proofs.YthhdgimphnbjbaaDoor
open Go.RowKit

/-- a store into another block -/
theorem Box.aside {w : World} {b n j : Nat} {v : Array Value} {x : Value} (h : Box w b v) (ne : n ≠ b) : Box (w.setCell ⟨n, j, none⟩ x) b v := by
  have bl := Below.heap_setCell w ⟨n, j, none⟩ x b (fun e => ne e.symm)
  have c : ∀ o, (w.setCell ⟨n, j, none⟩ x).cell? ⟨b, o, none⟩ = w.cell? ⟨b, o, none⟩ := fun o => World.cell?_of_block (w := w) (a := ⟨b, o, none⟩) bl
  have f : ∀ o, (w.setCell ⟨n, j, none⟩ x).frozen? ⟨b, o, none⟩ = w.frozen? ⟨b, o, none⟩ := fun o => World.frozen?_of_block (w := w) (a := ⟨b, o, none⟩) bl
  exact ⟨by simp [World.setCell]; exact h.low, by rw [c]; exact h.at0, by rw [c]; exact h.at1, by rw [c]; exact h.at2, by rw [c]; exact h.at3, by rw [c]; exact h.at4, by rw [c]; exact h.at5, fun o => by rw [f]; exact h.free o⟩
/-- a value stored whole -/
abbrev put6 (w : World) (b : Nat) (v0 v1 v2 v3 v4 v5 : Value) : World :=
  (((((w.setCell ⟨b, 0, none⟩ v0).setCell ⟨b, 1, none⟩ v1).setCell ⟨b, 2, none⟩ v2).setCell ⟨b, 3, none⟩ v3).setCell ⟨b, 4, none⟩ v4).setCell ⟨b, 5, none⟩ v5
theorem Box.put {w : World} {b : Nat} {a0 a1 a2 a3 a4 a5 : Value} (h : Box w b #[a0, a1, a2, a3, a4, a5]) (v0 v1 v2 v3 v4 v5 : Value) : Box (put6 w b v0 v1 v2 v3 v4 v5) b #[v0, v1, v2, v3, v4, v5] := by
  obtain ⟨h0, h1, h2, h3, h4, h5⟩ := h.tell
  have fr := h.free
  refine ⟨by simp [put6, World.setCell]; exact h.low, ?_, ?_, ?_, ?_, ?_, ?_, ?_⟩
  · simp [put6, go_sem, h0]
  · simp [put6, go_sem, h1]
  · simp [put6, go_sem, h2]
  · simp [put6, go_sem, h3]
  · simp [put6, go_sem, h4]
  · simp [put6, go_sem, h5]
  · intro o
    simp [put6, go_sem, fr]
theorem Box.aside6 {w : World} {b n : Nat} {v : Array Value} {v0 v1 v2 v3 v4 v5 : Value} (h : Box w b v) (ne : n ≠ b) : Box (put6 w n v0 v1 v2 v3 v4 v5) b v :=
  (((((h.aside ne).aside ne).aside ne).aside ne).aside ne).aside ne
theorem below_put6 {w0 w : World} {m n : Nat} {v0 v1 v2 v3 v4 v5 : Value} (h : Below m w0 w) (l : m ≤ n) : Below m w0 (put6 w n v0 v1 v2 v3 v4 v5) :=
  (((((h.setCell l _).setCell l _).setCell l _).setCell l _).setCell l _).setCell l _

set_option maxHeartbeats 1000000 in
theorem same_told (h : Nat) (w : World) :
    Calls Tryd.prog 8 #[told h, told h] w fun e w' => e = .returned (.bool true) ∧ Below w.heap.size w w' := by
  go_enter Tryd.func8, Tryd.ntmps8
  go_wp2
  go_loop [44] (fun i => i = .int .i64 0) (fun _ => 0)
  case atStart => rfl
  case round =>
    subst hrel
    go_wp2
    go_ret
    exact ⟨rfl, ((Below.refl _ _).alloc (Nat.le_refl _) _).alloc (by simp) _⟩

theorem same_eq (a b : Nat) (w : World) (h : a = b) :
    Calls Tryd.prog 8 #[told a, told b] w fun e w' => e = .returned (.bool true) ∧ Below w.heap.size w w' := h ▸ same_told a w

theorem tv_told {h : Nat} (l : h ≤ 2) : tv (kd h) (yd h) = h := by
  rcases (by omega : h = 0 ∨ h = 1 ∨ h = 2) with rfl | rfl | rfl <;> rfl

theorem and_told (h g : Nat) (l : h ≤ 2) (m : g ≤ 2) (w : World) :
    Calls Tryd.prog 9 #[told h, told g] w fun e w' => e = .returned (told (min h g)) ∧ Below w.heap.size w w' := by
  have := and_any (kd h) (yd h) 0 0 (.string ⟨#[]⟩) (.slice none 0 0) (kd g) (yd g) 0 0 (.string ⟨#[]⟩) (.slice none 0 0) w
  rw [tv_told l, tv_told m] at this
  exact this

theorem or_told (h g : Nat) (l : h ≤ 2) (m : g ≤ 2) (w : World) :
    Calls Tryd.prog 10 #[told h, told g] w fun e w' => e = .returned (told (max h g)) ∧ Below w.heap.size w w' := by
  have := or_any (kd h) (yd h) 0 0 (.string ⟨#[]⟩) (.slice none 0 0) (kd g) (yd g) 0 0 (.string ⟨#[]⟩) (.slice none 0 0) w
  rw [tv_told l, tv_told m] at this
  exact this

set_option maxHeartbeats 400000 in
theorem alive_any (w : World) :
    Calls Tryd.prog 4 #[] w fun e w' => e = .returned (.bool true) ∧ Below w.heap.size w w' := by
  have A1 : ∀ w : World, Calls Tryd.prog 9 #[.agg #[.int .i64 2, .bool true, .int .i64 0, .int .i64 0, .string ⟨#[]⟩, .slice none 0 0], .agg #[.int .i64 1, .bool false, .int .i64 0, .int .i64 0, .string ⟨#[]⟩, .slice none 0 0]] w fun e w' => e = .returned (.agg #[.int .i64 1, .bool false, .int .i64 0, .int .i64 0, .string ⟨#[]⟩, .slice none 0 0]) ∧ Below w.heap.size w w' := and_told 2 1 (by omega) (by omega)
  have A2 : ∀ w : World, Calls Tryd.prog 10 #[.agg #[.int .i64 2, .bool true, .int .i64 0, .int .i64 0, .string ⟨#[]⟩, .slice none 0 0], .agg #[.int .i64 1, .bool false, .int .i64 0, .int .i64 0, .string ⟨#[]⟩, .slice none 0 0]] w fun e w' => e = .returned (.agg #[.int .i64 2, .bool true, .int .i64 0, .int .i64 0, .string ⟨#[]⟩, .slice none 0 0]) ∧ Below w.heap.size w w' := or_told 2 1 (by omega) (by omega)
  have H1 := hide A1
  have H2 := hide A2
  clear A1 A2
  go_enter Tryd.func4, Tryd.ntmps4
  go_wp2_with fail
  refine (unhide H1 _).mono ?_
  rintro e w1 ⟨rfl, hb⟩
  have A := Box.new.keep hb (by simp)
  have hw := (below_new _ _).trans (hb.mono (by simp))
  clear hb
  obtain ⟨a0, a1, a2, a3, a4, a5⟩ := A.tell
  have al := A.low
  go_wp2_with fail
  refine (unhide H2 _).mono ?_
  rintro e w2 ⟨rfl, hb⟩
  have B := Box.new.keep hb (by simp)
  have hw2 := (hw.alloc hw.size _).trans (hb.mono (Nat.le_trans hw.size (by simp)))
  clear hb hw A a0 a1 a2 a3 a4 a5
  obtain ⟨a0, a1, a2, a3, a4, a5⟩ := B.tell
  have bl := B.low
  go_wp2
  go_ret
  exact ⟨rfl, hw2.alloc hw2.size _⟩
end Go.Proofs.YthhdgimphnbjbaaDoor
