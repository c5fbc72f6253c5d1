/- Walks: what is asked of a shape. -/
import Derived.Test.YtjgonkcfnfgakaaGreatDoorU2
import Derived.WalkKit
import Derived.WalkSpells
import Derived.WalkLawsBesides
import Derived.Deep.QuietTactic
import Derived.Deep.RegionWith
import Derived.BigQuiet
import Derived.RegionTactic
import Derived.ChangeAlike
import Derived.Outline
namespace Go.Proofs.YtjgonkcfnfgakaaGreatDoor
open Go.RowKit

abbrev shn (n k : Int) : Value := .agg #[.int .i64 n, .int .i64 k]
abbrev sh (a : Sp) : Value := shn (a.n : Int) a.k

/-- a block of two cells that is carried along -/
structure Bx2 (w : World) (b : Nat) (u v : Value) : Prop where
  low : b < w.heap.size
  at0 : w.cell? ⟨b, 0, none⟩ = some u
  at1 : w.cell? ⟨b, 1, none⟩ = some v
  th0 : w.frozen? ⟨b, 0, none⟩ = false
  th1 : w.frozen? ⟨b, 1, none⟩ = false
theorem Bx2.keep {w w' : World} {b : Nat} {u v : Value} (h : Bx2 w b u v) {B : Nat} (hb : Below B w w') (l : b < B) : Bx2 w' b u v :=
  ⟨Nat.lt_of_lt_of_le h.low hb.size, (hb.cell (p := ⟨b, 0, none⟩) l).trans h.at0, (hb.cell (p := ⟨b, 1, none⟩) l).trans h.at1, (hb.frozen (p := ⟨b, 0, none⟩) l).trans h.th0, (hb.frozen (p := ⟨b, 1, none⟩) l).trans h.th1⟩
theorem Bx2.new (w : World) (t : TypeId) (u v : Value) : Bx2 (w.alloc (.cells #[u, v] t)) w.heap.size u v :=
  ⟨by simp, by go_simp, by go_simp, by go_simp, by go_simp⟩

theorem Bx2.put {w : World} {b : Nat} {u v : Value} (h : Bx2 w b u v) (u' v' : Value) : Bx2 ((w.setCell ⟨b, 0, none⟩ u').setCell ⟨b, 1, none⟩ v') b u' v' := by
  have l := h.low
  have a0 := h.at0
  have a1 := h.at1
  have t0 := h.th0
  have t1 := h.th1
  exact ⟨by simpa using l, by go_simp, by go_simp, by go_simp, by go_simp⟩

theorem Bx2.other {w : World} {b q : Nat} {u v : Value} (h : Bx2 w b u v) (ne : b ≠ q) (o : Nat) (x : Value) : Bx2 (w.setCell ⟨q, o, none⟩ x) b u v := by
  have l := h.low
  have a0 := h.at0
  have a1 := h.at1
  have t0 := h.th0
  have t1 := h.th1
  have ne' : ¬ q = b := fun e => ne e.symm
  exact ⟨by simpa using l, by go_simp, by go_simp, by go_simp, by go_simp⟩

set_option maxHeartbeats 1000000 in
theorem plain_any (k : Int) (w : World) :
    Calls Tryz.prog 44 #[.int .i64 k] w fun e w' => e = .returned (shn 0 k) ∧ Below w.heap.size w w' := by
  go_enter Tryz.func44, Tryz.ntmps44
  go_wp2_with fail
  exact bodyPost_ret (v := shn 0 k) (by simp [results, Tryz.results44, go_sem]) rfl ⟨rfl, (Below.refl _ _).alloc (Nat.le_refl _) _⟩

set_option maxHeartbeats 1000000 in
theorem is_any (a : Sp) (k : Int) (w : World) (hk : k ≠ 5) :
    Calls Tryz.prog 25 #[sh a, .int .i64 k] w fun e w' => e = .returned (.bool (decide (a.n = 0 ∧ a.k = k))) ∧ Below w.heap.size w w' := by
  obtain ⟨n, q⟩ := a
  obtain ⟨z, hz, hz2⟩ : ∃ z : Int, z = (n : Int) ∧ (n = 0 ↔ z = 0) := ⟨_, rfl, by omega⟩
  show Calls Tryz.prog 25 #[shn (n : Int) q, .int .i64 k] w fun e w' => e = .returned (.bool (decide (n = 0 ∧ q = k))) ∧ Below w.heap.size w w'
  rw [← hz]
  simp only [hz2]
  clear hz hz2
  go_enter Tryz.func25, Tryz.ntmps25
  go_wp2_with fail
  have X0 := Bx2.new w 49 (.int .i64 z) (.int .i64 q)
  have B0 : Below w.heap.size w (w.alloc (.cells #[.int .i64 z, .int .i64 q] 49)) := (Below.refl _ _).alloc (Nat.le_refl _) _
  generalize w.alloc (.cells #[.int .i64 z, .int .i64 q] 49) = w0 at X0 B0 ⊢
  have c0 := X0.at0
  have c1 := X0.at1
  have X1 := hide X0
  have B1 := hide B0
  clear X0 B0
  by_cases h1 : z = 0
  · subst h1
    by_cases h2 : q = k
    · subst h2
      go_region_with (go_at_call 44; refine (plain_any _ _).mono ?_; rintro e w1 ⟨rfl, hb⟩; replace hb : Below w0.heap.size w0 w1 := Below.trans (by repeat (first | exact Below.refl _ _ | apply Below.drew)) hb; have X2 := (unhide X1).keep hb (unhide X1).low; have d0 := X2.at0; have d1 := X2.at1; clear X2)
      all_goals
        have HB := hide hb
        clear hb
        go_wp2
        go_ret
        exact ⟨by simp , by repeat (first | exact (unhide B1).trans ((unhide HB).mono (unhide B1).size) | apply Below.drew)⟩
    · have h3 : (q == k) = false := by simpa using h2
      go_region_with (go_at_call 44; refine (plain_any _ _).mono ?_; rintro e w1 ⟨rfl, hb⟩; replace hb : Below w0.heap.size w0 w1 := Below.trans (by repeat (first | exact Below.refl _ _ | apply Below.drew)) hb; have X2 := (unhide X1).keep hb (unhide X1).low; have d0 := X2.at0; have d1 := X2.at1; clear X2)
      all_goals
        have HB := hide hb
        clear hb
        go_wp2
        go_ret
        exact ⟨by simp, by repeat (first | exact (unhide B1).trans ((unhide HB).mono (unhide B1).size) | apply Below.drew)⟩
  · have h3 : (z == 0) = false := by simpa using h1
    go_region_with (go_at_call 44; refine (plain_any _ _).mono ?_; rintro e w1 ⟨rfl, hb⟩; replace hb : Below w0.heap.size w0 w1 := Below.trans (by repeat (first | exact Below.refl _ _ | apply Below.drew)) hb; have X2 := (unhide X1).keep hb (unhide X1).low; have d0 := X2.at0; have d1 := X2.at1; clear X2)
    all_goals
      have HB := hide hb
      clear hb
      go_wp2
      go_ret
      exact ⟨by rw [show decide (z = 0 ∧ q = k) = false by simp [h1]]; rfl, by repeat (first | exact (unhide B1).trans ((unhide HB).mono (unhide B1).size) | apply Below.drew)⟩
end Go.Proofs.YtjgonkcfnfgakaaGreatDoor
