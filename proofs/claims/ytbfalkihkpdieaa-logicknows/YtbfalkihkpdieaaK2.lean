/- The walk over LogicKnows. -/
import Derived.Test.YtbfalkihkpdieaaV2
import Derived.Deep.RegionHeld3
import Derived.Deep.Cut
namespace Go.Proofs.Ytbfalkihkpdieaa
open Go.RowKit

set_option maxHeartbeats 400000 in
theorem finer_null (y : Bool) (c x : Int) (t l : Value) (k2 : Int) (y2 : Bool) (c2 x2 : Int) (t2 l2 : Value) (w : World) :
    Calls Try.prog 10 #[.agg #[.int .i64 1, .bool y, .int .i64 c, .int .i64 x, t, l], .agg #[.int .i64 k2, .bool y2, .int .i64 c2, .int .i64 x2, t2, l2]] w fun e w' => e = .returned (.bool true) ∧ Below w.heap.size w w' := by
  go_enter Try.func10, Try.ntmps10
  go_wp2
  go_ret
  exact ⟨rfl, ((Below.refl _ _).alloc (Nat.le_refl _) _).alloc (by simp) _⟩

set_option maxHeartbeats 400000 in
theorem finer_told (h g : Nat) (l : h = 1 ∨ h = g) (l2 : h ≤ 2) (w : World) :
    Calls Try.prog 10 #[told h, told g] w fun e w' => e = .returned (.bool true) ∧ Below w.heap.size w w' := by
  by_cases h1 : h = 1
  · subst h1
    exact finer_null _ _ _ _ _ _ _ _ _ _ _ _
  · obtain rfl : h = g := by omega
    have e2 : kd h = 2 := by simp [kd, h1]
    have H := hide (same_told h)
    unfold told at H ⊢
    rw [e2] at H ⊢
    clear l l2 h1 e2
    go_enter Try.func10, Try.ntmps10
    go_wp2_with fail
    refine (unhide H _).mono ?_
    rintro e w1 ⟨rfl, hb⟩
    go_wp2
    go_ret
    exact ⟨rfl, (((Below.refl _ _).alloc (Nat.le_refl _) _).alloc (by simp) _).trans (hb.mono (by simp; omega))⟩

/-- three values in their blocks; what was there is as it was -/
structure Thr (w0 w : World) (p q r : Nat) (a b c : Array Value) : Prop where
  one : Box w p a
  two : Box w q b
  thr : Box w r c
  old : Below w0.heap.size w0 w
theorem Thr.step {w0 w w' : World} {p q r : Nat} {a b c : Array Value} (T : Thr w0 w p q r a b c) (hb : Below w.heap.size w w') : Thr w0 w' p q r a b c :=
  ⟨T.one.keep hb T.one.low, T.two.keep hb T.two.low, T.thr.keep hb T.thr.low, T.old.trans (hb.mono T.old.size)⟩
theorem Thr.drew {w0 w : World} {p q r : Nat} {a b c : Array Value} (T : Thr w0 w p q r a b c) : Thr w0 w.drew p q r a b c := T.step (Below.refl _ _).drew
theorem Thr.cells {w0 w : World} {p q r : Nat} {a0 a1 a2 a3 a4 a5 b0 b1 b2 b3 b4 b5 c0 c1 c2 c3 c4 c5 : Value} (T : Thr w0 w p q r #[a0, a1, a2, a3, a4, a5] #[b0, b1, b2, b3, b4, b5] #[c0, c1, c2, c3, c4, c5]) :
    w.cell? ⟨p, 0, none⟩ = some a0 ∧ w.cell? ⟨p, 1, none⟩ = some a1 ∧ w.cell? ⟨p, 2, none⟩ = some a2 ∧ w.cell? ⟨p, 3, none⟩ = some a3 ∧ w.cell? ⟨p, 4, none⟩ = some a4 ∧ w.cell? ⟨p, 5, none⟩ = some a5 ∧ w.cell? ⟨q, 0, none⟩ = some b0 ∧ w.cell? ⟨q, 1, none⟩ = some b1 ∧ w.cell? ⟨q, 2, none⟩ = some b2 ∧ w.cell? ⟨q, 3, none⟩ = some b3 ∧ w.cell? ⟨q, 4, none⟩ = some b4 ∧ w.cell? ⟨q, 5, none⟩ = some b5 ∧ w.cell? ⟨r, 0, none⟩ = some c0 ∧ w.cell? ⟨r, 1, none⟩ = some c1 ∧ w.cell? ⟨r, 2, none⟩ = some c2 ∧ w.cell? ⟨r, 3, none⟩ = some c3 ∧ w.cell? ⟨r, 4, none⟩ = some c4 ∧ w.cell? ⟨r, 5, none⟩ = some c5 :=
  ⟨T.one.at0, T.one.at1, T.one.at2, T.one.at3, T.one.at4, T.one.at5, T.two.at0, T.two.at1, T.two.at2, T.two.at3, T.two.at4, T.two.at5, T.thr.at0, T.thr.at1, T.thr.at2, T.thr.at3, T.thr.at4, T.thr.at5⟩
theorem tv_le (k : Int) (y : Bool) : tv k y ≤ 2 := by rcases tv_three k y with h | h | h <;> omega

theorem field0 (k v1 v2 v3 v4 v5 : Value) (w : World) : Sem.run Try.prog (Instr.field 26 (.agg #[k, v1, v2, v3, v4, v5]) 0) w = .ok k w := by
  simp [Instr.field, asAgg, go_sem]
/-- what x holds: as much as a, or more -/
def More (k : Int) (y : Bool) (kx : Int) (yx : Bool) : Prop := tv k y = 1 ∨ tv kx yx = tv k y

set_option maxRecDepth 20000 in
set_option maxHeartbeats 8000000 in
theorem knows_any (k : Int) (y : Bool) (c x : Int) (t : ByteArray) (la : Option Addr) (ln lc : Nat) (k2 : Int) (y2 : Bool) (c2 x2 : Int) (t2 l2 : Value) (yes : Bool) (w : World) :
    Calls Try.prog 4 #[.agg #[.int .i64 k, .bool y, .int .i64 c, .int .i64 x, .string t, .slice la ln lc], .agg #[.int .i64 k2, .bool y2, .int .i64 c2, .int .i64 x2, t2, l2], .bool yes] w fun e w' => e = .returned (.bool true) ∧ Below w.heap.size w w' := by
  go_enter Try.func4, Try.ntmps4
  go_wp2_with fail
  refine (alive_any _).mono ?_
  rintro e w0 ⟨rfl, hb⟩
  obtain ⟨A, B, hw⟩ := box2 hb
  clear hb
  obtain ⟨a0, a1, a2, a3, a4, a5⟩ := A.tell
  have al := A.low
  have BL := B.low
  go_wp2_with fail
  refine (not_any _ _ _ _ _ _ _).mono ?_
  rintro e w1 ⟨rfl, hb⟩
  have X := Box.new.keep hb (by simp)
  replace A := (A.over).keep hb (by simp; omega)
  replace B := (B.over).keep hb (by have := B.low; simp; omega)
  replace hw := (hw.alloc hw.size _).trans (hb.mono (Nat.le_trans hw.size (by simp)))
  clear hb a0 a1 a2 a3 a4 a5
  go_wp2_with fail
  have LE := hide (tv_le k y)
  refine (not_told (2 - tv k y) (by omega) _).mono ?_
  rintro e w2 ⟨rfl, hb⟩
  have T : Thr w w2 w.heap.size (w.heap.size + 1) w0.heap.size _ _ _ := ⟨A.keep hb A.low, B.keep hb B.low, X.keep hb X.low, hw.trans (hb.mono hw.size)⟩
  have NE : Hid (w0.heap.size ≠ w.heap.size ∧ w0.heap.size ≠ w.heap.size + 1) := by
    have := BL
    exact hide ⟨by omega, by omega⟩
  have LL : Hid (w.heap.size ≤ w0.heap.size) := hide (by omega)
  clear A B X hw hb al BL
  have e2 : 2 - (2 - tv k y) = tv k y := by have := unhide LE; omega
  rw [e2]
  unfold told
  clear e2 LE
  go_wp2_with fail
  rw [field0]
  go_upto_if 15 with fail

  go_cut [6] from 8 (fun v wc => v = .bool false ∧ ∃ kx yx cx xx tx ly lm lk, Hid (More k y kx yx) ∧ Thr w wc w.heap.size (w.heap.size + 1) w0.heap.size #[.int .i64 k, .bool y, .int .i64 c, .int .i64 x, .string t, .slice la ln lc] #[.int .i64 k2, .bool y2, .int .i64 c2, .int .i64 x2, t2, l2] #[.int .i64 kx, .bool yx, .int .i64 cx, .int .i64 xx, .string tx, .slice ly lm lk])
  case first =>
    by_cases h1 : tv k y = 1
    · rw [h1]
      have H1 := hide h1
      clear h1
      obtain ⟨g0, g1, g2, g3, g4, g5⟩ := T.thr.tell
      obtain ⟨f0, f1, f2, f3, f4, f5⟩ := T.thr.thaw
      have lt := T.thr.low
      have e1 : kd 1 = 1 := rfl
      go_wp2
      go_meet
      case rel => exact ⟨rfl, _, _, _, _, _, _, _, _, hide (.inl (unhide H1)), T.one.aside6 (unhide NE).1, T.two.aside6 (unhide NE).2, T.thr.put _ _ _ _ _ _, below_put6 T.old (unhide LL)⟩
    · have e1 : kd (tv k y) = 2 := by simp [kd, h1]
      clear h1
      go_wp2
      go_meet
      case rel => exact ⟨rfl, _, _, _, _, _, _, _, _, hide (.inr rfl), T⟩
  case rest =>
    have T0 := T
    clear T
    obtain ⟨rfl, kx, yx, cx, xx, tx, ly, lm, lk, M, T⟩ := hcut
    clear T0
    have P1 := hide (tv_le k y)
    have P2 := hide (tv_le k2 y2)
    have P3 := hide (tv_le kx yx)
    obtain ⟨a0, a1, a2, a3, a4, a5, b0, b1, b2, b3, b4, b5, d0, d1, d2, d3, d4, d5⟩ := T.cells
    go_wp2_with fail
    go_region_held3 (fun w' => w'.cell? ⟨w.heap.size, 0, none⟩ = some (.int .i64 k) ∧ w'.cell? ⟨w.heap.size, 1, none⟩ = some (.bool y) ∧ w'.cell? ⟨w.heap.size, 2, none⟩ = some (.int .i64 c) ∧ w'.cell? ⟨w.heap.size, 3, none⟩ = some (.int .i64 x) ∧ w'.cell? ⟨w.heap.size, 4, none⟩ = some (.string t) ∧ w'.cell? ⟨w.heap.size, 5, none⟩ = some (.slice la ln lc) ∧ w'.cell? ⟨w.heap.size + 1, 0, none⟩ = some (.int .i64 k2) ∧ w'.cell? ⟨w.heap.size + 1, 1, none⟩ = some (.bool y2) ∧ w'.cell? ⟨w.heap.size + 1, 2, none⟩ = some (.int .i64 c2) ∧ w'.cell? ⟨w.heap.size + 1, 3, none⟩ = some (.int .i64 x2) ∧ w'.cell? ⟨w.heap.size + 1, 4, none⟩ = some (t2) ∧ w'.cell? ⟨w.heap.size + 1, 5, none⟩ = some (l2) ∧ w'.cell? ⟨w0.heap.size, 0, none⟩ = some (.int .i64 kx) ∧ w'.cell? ⟨w0.heap.size, 1, none⟩ = some (.bool yx) ∧ w'.cell? ⟨w0.heap.size, 2, none⟩ = some (.int .i64 cx) ∧ w'.cell? ⟨w0.heap.size, 3, none⟩ = some (.int .i64 xx) ∧ w'.cell? ⟨w0.heap.size, 4, none⟩ = some (.string tx) ∧ w'.cell? ⟨w0.heap.size, 5, none⟩ = some (.slice ly lm lk)) (go_keep) (first
      | (go_at_call 7; refine (and_any _ _ _ _ _ _ _ _ _ _ _ _ _).mono ?_; rintro e w1 ⟨rfl, hb⟩; clear a0 a1 a2 a3 a4 a5 b0 b1 b2 b3 b4 b5 d0 d1 d2 d3 d4 d5; (first | (replace T := T.step hb) | (replace T := T.drew.step hb)); clear hb; obtain ⟨a0, a1, a2, a3, a4, a5, b0, b1, b2, b3, b4, b5, d0, d1, d2, d3, d4, d5⟩ := T.cells)
      | (go_at_call 8; refine (or_any _ _ _ _ _ _ _ _ _ _ _ _ _).mono ?_; rintro e w1 ⟨rfl, hb⟩; clear a0 a1 a2 a3 a4 a5 b0 b1 b2 b3 b4 b5 d0 d1 d2 d3 d4 d5; (first | (replace T := T.step hb) | (replace T := T.drew.step hb)); clear hb; obtain ⟨a0, a1, a2, a3, a4, a5, b0, b1, b2, b3, b4, b5, d0, d1, d2, d3, d4, d5⟩ := T.cells)
      | (go_at_call 6; refine (not_any _ _ _ _ _ _ _).mono ?_; rintro e w1 ⟨rfl, hb⟩; clear a0 a1 a2 a3 a4 a5 b0 b1 b2 b3 b4 b5 d0 d1 d2 d3 d4 d5; (first | (replace T := T.step hb) | (replace T := T.drew.step hb)); clear hb; obtain ⟨a0, a1, a2, a3, a4, a5, b0, b1, b2, b3, b4, b5, d0, d1, d2, d3, d4, d5⟩ := T.cells)
      | (go_at_call 10; refine (finer_told _ _ (by have m := unhide M; have p1 := unhide P1; have p2 := unhide P2; have p3 := unhide P3; unfold More at m; omega) (by have p1 := unhide P1; have p2 := unhide P2; have p3 := unhide P3; omega) _).mono ?_; rintro e w1 ⟨rfl, hb⟩; clear a0 a1 a2 a3 a4 a5 b0 b1 b2 b3 b4 b5 d0 d1 d2 d3 d4 d5; (first | (replace T := T.step hb) | (replace T := T.drew.step hb)); clear hb; obtain ⟨a0, a1, a2, a3, a4, a5, b0, b1, b2, b3, b4, b5, d0, d1, d2, d3, d4, d5⟩ := T.cells))
    go_wp2
    go_ret
    exact ⟨rfl, T.old⟩

theorem knows_row (k : Int) (y : Bool) (c x : Int) (t : ByteArray) (la : Option Addr) (ln lc : Nat) (k2 : Int) (y2 : Bool) (c2 x2 : Int) (t2 : ByteArray) (la2 : Option Addr) (ln2 lc2 : Nat) (yes : Bool) (w : World) :
    Calls Try.prog 4 #[.agg #[.int .i64 k, .bool y, .int .i64 c, .int .i64 x, .string t, .slice la ln lc], .agg #[.int .i64 k2, .bool y2, .int .i64 c2, .int .i64 x2, .string t2, .slice la2 ln2 lc2], .bool yes] w fun e w' => e = .returned (.bool true) ∧ Below w.heap.size w w' :=
  knows_any k y c x t la ln lc k2 y2 c2 x2 (.string t2) (.slice la2 ln2 lc2) yes w
end Go.Proofs.Ytbfalkihkpdieaa
