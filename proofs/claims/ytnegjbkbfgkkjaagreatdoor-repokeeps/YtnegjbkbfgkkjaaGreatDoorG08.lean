/- Walks: wrongOf, size, cmp.Compare, stretched, compareSizes, Cmp. -/
import Derived.Test.YtnegjbkbfgkkjaaGreatDoorG05
import Derived.Deep.RegionWith
import Derived.Deep.Cut
import Derived.Deep.CutRange
import Derived.Deep.LoopGhost
import Derived.Test.YtnegjbkbfgkkjaaGreatDoorProg
import Derived.WalkKit
import Derived.WalkSpells
import Derived.WalkLawsBesides
import Derived.Deep.QuietTactic
import Derived.BigQuiet
import Derived.Outline
import Derived.Test.YtnegjbkbfgkkjaaGreatDoorG06
import Derived.Test.YtnegjbkbfgkkjaaGreatDoorG07
namespace Go.Proofs.YtnegjbkbfgkkjaaGreatDoor
open Go.RowKit

theorem bcell {W w1 : World} (hb : Below W.heap.size W w1) : (∀ b o, b < W.heap.size → w1.cell? ⟨b, o, none⟩ = W.cell? ⟨b, o, none⟩) ∧ (∀ b o, b < W.heap.size → w1.frozen? ⟨b, o, none⟩ = W.frozen? ⟨b, o, none⟩) :=
  ⟨fun b o h => hb.cell (p := ⟨b, o, none⟩) h, fun b o h => hb.frozen (p := ⟨b, o, none⟩) h⟩

set_option maxHeartbeats 400000 in
theorem wrongOf_any (c1 x1 c2 x2 : Int) (w : World) :
    Calls Tryz.prog 176 #[.agg #[.int .i64 c1, .int .i64 x1], .agg #[.int .i64 c2, .int .i64 x2]] w fun e w' => e = .returned (.int .i64 (Dm.wrong2 c1 x1 c2 x2)) ∧ Below w.heap.size w w' := by
  go_enter Tryz.func176, Tryz.ntmps176
  go_wp2_with fail
  refine (wrong_any c1 x1 _).mono ?_
  rintro e w1 ⟨rfl, hb⟩
  obtain ⟨hc, hf⟩ := bcell hb
  have hz : w.heap.size + 2 ≤ w1.heap.size := by have := hb.size; simp at this; omega
  have hb0 : Below w.heap.size w w1 := (((Below.refl _ _).alloc (Nat.le_refl _) _).alloc (by simp) _).trans (hb.mono (by simp; omega))
  by_cases h : Dm.wrongN c1 x1 = 0
  · have H := hide (Dm.wrong2_ok h c2 x2)
    have h' : (Dm.wrongN c1 x1 != 0) = false := by simp [h]
    clear h
    go_wp2_with fail
    refine (wrong_any c2 x2 _).mono ?_
    rintro e w2 ⟨rfl, hb2⟩
    go_wp2
    go_ret
    exact ⟨ret_int (unhide H).symm, hb0.trans (hb2.mono (by omega))⟩
  · have H := hide (Dm.wrong2_no h c2 x2)
    have h' : (Dm.wrongN c1 x1 != 0) = true := by simp [h]
    clear h
    go_wp2
    go_ret
    exact ⟨ret_int (unhide H).symm, hb0⟩

set_option maxHeartbeats 400000 in
theorem size_any (c x : Int) (w : World) (h1 : -1000000000000000000 < c) (h2 : c < 1000000000000000000) :
    Calls Tryz.prog 194 #[.agg #[.int .i64 c, .int .i64 x]] w fun e w' => e = .returned (.int .u64 (c.natAbs : Int)) ∧ Below w.heap.size w w' := by
  by_cases h : c < 0
  all_goals
    go_enter Tryz.func194, Tryz.ntmps194
    go_wp2
    go_ret
    refine ⟨ret_int ?_, (Below.refl _ _).alloc (Nat.le_refl _) _⟩
    omega

set_option maxHeartbeats 400000 in
theorem cmpI64_any (a b : Int) (w : World) :
    Calls Tryz.prog 177 #[.int .i64 a, .int .i64 b] w fun e w' => e = .returned (.int .i64 (Dm.sgn (a - b))) ∧ w' = w := by
  go_enter Tryz.func177, Tryz.ntmps177
  go_wp2
  all_goals
    go_ret
    refine ⟨ret_int ?_, rfl⟩
    unfold Dm.sgn
    (repeat' split) <;> omega

set_option maxHeartbeats 400000 in
theorem cmpInt_any (a b : Int) (w : World) :
    Calls Tryz.prog 178 #[.int .i64 a, .int .i64 b] w fun e w' => e = .returned (.int .i64 (Dm.sgn (a - b))) ∧ w' = w := by
  go_enter Tryz.func178, Tryz.ntmps178
  go_wp2
  all_goals
    go_ret
    refine ⟨ret_int ?_, rfl⟩
    unfold Dm.sgn
    (repeat' split) <;> omega

set_option maxHeartbeats 400000 in
theorem cmpU64_any (a b : Int) (w : World) :
    Calls Tryz.prog 189 #[.int .u64 a, .int .u64 b] w fun e w' => e = .returned (.int .i64 (Dm.sgn (a - b))) ∧ w' = w := by
  go_enter Tryz.func189, Tryz.ntmps189
  go_wp2
  all_goals
    go_ret
    refine ⟨ret_int ?_, rfl⟩
    unfold Dm.sgn
    (repeat' split) <;> omega
end Go.Proofs.YtnegjbkbfgkkjaaGreatDoor

/- Walks: stretched, compareSizes, Cmp. -/
namespace Go.Proofs.YtnegjbkbfgkkjaaGreatDoor
open Go.RowKit

set_option maxHeartbeats 400000 in
theorem stretched_any (c x : Int) (w : World) (h1 : -1000000000000000000 < c) (h2 : c < 1000000000000000000) (h0 : 1 ≤ (c.natAbs : Int)) (hx1 : -40 ≤ x) (hx2 : x ≤ 40) :
    Calls Tryz.prog 188 #[.agg #[.int .i64 c, .int .i64 x]] w fun e w' => ∃ (m : Int) (k : Nat), e = .returned (.tuple #[.int .u64 m, .int .i64 (x - k)]) ∧ m = Dm.tens (c.natAbs : Int) k ∧ 100000000000000000 ≤ m ∧ m < 1000000000000000000 ∧ k ≤ 17 ∧ Below w.heap.size w w' := by
  have h9 : (c.natAbs : Int) < 1000000000000000000 := by omega
  go_enter Tryz.func188, Tryz.ntmps188
  go_upto_region 1 with fail
  go_cut [4, 5] from 6 (fun a b wc => a = .int .u64 (c.natAbs : Int) ∧ b = .int .i64 x ∧ Below w.heap.size w wc)
  case first =>
    go_region_with (go_at_call 194; refine (size_any c x _ h1 h2).mono ?_; rintro e w1 ⟨rfl, hb⟩; obtain ⟨hc, hf⟩ := bcell hb)
    all_goals
      go_wp2_with fail
      go_meet
      case rel => exact ⟨rfl, rfl, (((Below.refl _ _).alloc (Nat.le_refl _) _).drew).trans (hb.mono (by simp))⟩
  case rest =>
    obtain ⟨rfl, rfl, hbel⟩ := hcut
    go_wp2
    go_loop [4, 5] (fun a b => ∃ (m : Int) (k : Nat), a = .int .u64 m ∧ b = .int .i64 (x - k) ∧ Hid (m = Dm.tens (c.natAbs : Int) k) ∧ 1 ≤ m ∧ m < 1000000000000000000 ∧ k ≤ 17) (fun a _ => (1000000000000000000 - intOf a).toNat)
    case atStart => exact ⟨_, 0, rfl, by simp, hide rfl, h0, h9, by omega⟩
    case round =>
      obtain ⟨m, k, rfl, rfl, H, hm1, hm2, hk⟩ := hrel
      by_cases hlt : m < 100000000000000000
      · have hk' := Dm.tens_lt (unhide H) h0 hlt
        go_wp2
        go_round
        case rel => exact ⟨_, k + 1, rfl, by go_num, hide (by rw [unhide H]; rfl), by omega, by omega, by omega⟩
        case measure => simp [intOf]; omega
      · go_wp2
        go_ret2
        exact ⟨m, k, rfl, unhide H, by omega, hm2, hk, hbel⟩

set_option maxHeartbeats 400000 in
theorem compareSizes_any (c1 x1 c2 x2 : Int) (w : World) (a1 : -1000000000000000000 < c1) (a2 : c1 < 1000000000000000000) (a0 : 1 ≤ (c1.natAbs : Int)) (a3 : -40 ≤ x1) (a4 : x1 ≤ 40)
    (b1 : -1000000000000000000 < c2) (b2 : c2 < 1000000000000000000) (b0 : 1 ≤ (c2.natAbs : Int)) (b3 : -40 ≤ x2) (b4 : x2 ≤ 40) :
    Calls Tryz.prog 179 #[.agg #[.int .i64 c1, .int .i64 x1], .agg #[.int .i64 c2, .int .i64 x2]] w fun e w' => e = .returned (.int .i64 (Dm.sgn (Dm.V (c1.natAbs : Int) x1 - Dm.V (c2.natAbs : Int) x2))) ∧ Below w.heap.size w w' := by
  go_enter Tryz.func179, Tryz.ntmps179
  go_wp2_with fail
  refine (stretched_any c1 x1 _ a1 a2 a0 a3 a4).mono ?_
  rintro e w1 ⟨m1, k1, rfl, e1, l1, u1, t1, hb⟩
  obtain ⟨hc, hf⟩ := bcell hb
  have hz : w.heap.size + 2 ≤ w1.heap.size := by have := hb.size; simp at this; omega
  have hb0 : Below w.heap.size w w1 := (((Below.refl _ _).alloc (Nat.le_refl _) _).alloc (by simp) _).trans (hb.mono (by simp; omega))
  have E1 := hide e1
  clear e1
  go_wp2_with fail
  refine (stretched_any c2 x2 _ b1 b2 b0 b3 b4).mono ?_
  rintro e w2 ⟨m2, k2, rfl, e2, l2, u2, t2, hb2⟩
  have hb9 : Below w.heap.size w w2 := hb0.trans (hb2.mono (by omega))
  have E2 := hide e2
  clear e2 hc hf hz hb0
  have HV := hide (Dm.cmp_sizes a3 b3 (unhide E1) (unhide E2) l1 u1 l2 u2 t1 t2)
  by_cases h : x1 - (k1 : Int) = x2 - (k2 : Int)
  · have h' : (x1 - (k1 : Int) != x2 - (k2 : Int)) = false := by simp [h]
    have h2 := hide h
    clear h
    go_wp2_with fail
    refine (cmpU64_any m1 m2 _).mono ?_
    rintro e w3 ⟨rfl, rfl⟩
    go_wp2
    go_ret
    exact ⟨ret_int ((unhide HV).1 (unhide h2)).symm, hb9⟩
  · have h' : (x1 - (k1 : Int) != x2 - (k2 : Int)) = true := by simp [h]
    have h2 := hide h
    clear h
    go_wp2_with fail
    refine (cmpInt_any _ _ _).mono ?_
    rintro e w3 ⟨rfl, rfl⟩
    go_wp2
    go_ret
    exact ⟨ret_int ((unhide HV).2 (unhide h2)).symm, hb9⟩

end Go.Proofs.YtnegjbkbfgkkjaaGreatDoor

/- Walks: Cmp. -/
namespace Go.Proofs.YtnegjbkbfgkkjaaGreatDoor
open Go.RowKit

/-- Cmp of two right numbers, out of what its callees come to. -/
theorem cmp_core (c1 x1 c2 x2 : Int) (w : World) (h : Dm.wrong2 c1 x1 c2 x2 = 0) (r : Int)
    (hd : Dm.sgn c1 ≠ Dm.sgn c2 → r = Dm.sgn (Dm.sgn c1 - Dm.sgn c2)) (hz : Dm.sgn c1 = Dm.sgn c2 → Dm.sgn c1 = 0 → r = 0)
    (hs : Dm.sgn c1 = Dm.sgn c2 → Dm.sgn c1 ≠ 0 → ∃ s, -1 ≤ s ∧ s ≤ 1 ∧ r = Dm.sgn c1 * s ∧ ∀ wx, Calls Tryz.prog 179 #[.agg #[.int .i64 c1, .int .i64 x1], .agg #[.int .i64 c2, .int .i64 x2]] wx fun e w' => e = .returned (.int .i64 s) ∧ Below wx.heap.size wx w') :
    Calls Tryz.prog 163 #[.agg #[.int .i64 c1, .int .i64 x1], .agg #[.int .i64 c2, .int .i64 x2]] w fun e w' => e = .returned (.tuple #[.int .i64 r, .int .i64 0]) ∧ Below w.heap.size w w' := by
  have hd' := hide hd
  have hz' := hide hz
  have hs' := hide hs
  clear hd hz hs
  have sb := Dm.sgn_bd c1
  go_enter Tryz.func163, Tryz.ntmps163
  go_wp2_with fail
  refine (wrongOf_any c1 x1 c2 x2 _).mono ?_
  rintro e w1 ⟨rfl, hb⟩
  obtain ⟨hc, hf⟩ := bcell hb
  have hz1 : w.heap.size + 2 ≤ w1.heap.size := by have := hb.size; simp at this; omega
  have hb0 : Below w.heap.size w w1 := (((Below.refl _ _).alloc (Nat.le_refl _) _).alloc (by simp) _).trans (hb.mono (by simp; omega))
  rw [h]
  clear h
  go_wp2_with fail
  go_quiet ((go_at_call 177; exact Calls.quiet_of_same (cmpI64_any _ _ _)))
  by_cases h12 : Dm.sgn c1 = Dm.sgn c2
  · have h12' : (Dm.sgn c1 != Dm.sgn c2) = false := by simp [h12]
    have e12 := hide h12
    clear h12
    by_cases h0 : Dm.sgn c1 = 0
    · have h0' : (Dm.sgn c1 == 0) = true := by simp [h0]
      have e0 := hide h0
      clear h0
      go_wp2
      go_ret2
      rw [unhide hz' (unhide e12) (unhide e0)]
      exact ⟨rfl, below_drewN hb0 _⟩
    · have h0' : (Dm.sgn c1 == 0) = false := by simp [h0]
      obtain ⟨s, l1, l2, er, hcalls⟩ := unhide hs' (unhide e12) h0
      have hcalls' := hide hcalls
      have er' := hide er
      have em : -1 ≤ Dm.sgn c1 * s ∧ Dm.sgn c1 * s ≤ 1 := by
        rcases (show Dm.sgn c1 = -1 ∨ Dm.sgn c1 = 1 by omega) with q | q <;> rw [q] <;> omega
      obtain ⟨em1, em2⟩ := em
      clear hcalls er h0
      go_wp2_with fail
      refine (unhide hcalls' _).mono ?_
      rintro e w2 ⟨rfl, hb2⟩
      go_wp2
      go_ret2
      rw [unhide er']
      exact ⟨rfl, (below_drewN hb0 _).trans (hb2.mono (by simp; omega))⟩
  · have h12' : (Dm.sgn c1 != Dm.sgn c2) = true := by simp [h12]
    have hr := hide (unhide hd' h12)
    clear h12
    go_wp2_with fail
    refine (cmpInt_any _ _ _).mono ?_
    rintro e w3 ⟨rfl, rfl⟩
    go_wp2
    go_ret2
    rw [unhide hr]
    exact ⟨rfl, below_drewN hb0 _⟩

theorem cmp_ok (c1 x1 c2 x2 : Int) (w : World) (h1 : Dm.wrongN c1 x1 = 0) (h2 : Dm.wrongN c2 x2 = 0) :
    Calls Tryz.prog 163 #[.agg #[.int .i64 c1, .int .i64 x1], .agg #[.int .i64 c2, .int .i64 x2]] w fun e w' => e = .returned (.tuple #[.int .i64 (Dm.sgn (Dm.V c1 x1 - Dm.V c2 x2)), .int .i64 0]) ∧ Below w.heap.size w w' := by
  obtain ⟨p1, p2, p3, p4, _⟩ := Dm.wrong_ok h1
  obtain ⟨q1, q2, q3, q4, _⟩ := Dm.wrong_ok h2
  refine cmp_core c1 x1 c2 x2 w (by rw [Dm.wrong2_ok h1, h2]) _ ?_ ?_ ?_
  · exact Dm.cmp_diff x1 x2
  · exact Dm.cmp_zero x1 x2
  · intro h12 h0
    obtain ⟨n1, n2, hr⟩ := Dm.cmp_same x1 x2 h12 h0
    exact ⟨_, (Dm.sgn_bd _).1, (Dm.sgn_bd _).2, hr, fun wx => compareSizes_any c1 x1 c2 x2 wx p1 p2 n1 p3 p4 q1 q2 n2 q3 q4⟩
end Go.Proofs.YtnegjbkbfgkkjaaGreatDoor

/- Walks: what is known of a value (isTrue, isFalse, truth, null, Not, And, Or). -/
namespace Go.Proofs.YtnegjbkbfgkkjaaGreatDoor
open Go.RowKit


/-- yes 2, not known 1, no 0 -/
def tv (k : Int) (y : Bool) : Nat := if k = 2 then (if y then 2 else 0) else 1
def kd (h : Nat) : Int := if h = 1 then 1 else 2
def yd (h : Nat) : Bool := h == 2
/-- what is told of halves -/
abbrev told (h : Nat) : Value := .agg #[.int .i64 (kd h), .bool (yd h), .int .i64 0, .int .i64 0, .string ⟨#[]⟩, .slice none 0 0]

/-- a block of a value's six cells that is carried along -/
structure Box (w : World) (b : Nat) (v : Array Value) : Prop where
  low : b < w.heap.size
  at0 : w.cell? ⟨b, 0, none⟩ = some (v.getD 0 (.bool false))
  at1 : w.cell? ⟨b, 1, none⟩ = some (v.getD 1 (.bool false))
  at2 : w.cell? ⟨b, 2, none⟩ = some (v.getD 2 (.bool false))
  at3 : w.cell? ⟨b, 3, none⟩ = some (v.getD 3 (.bool false))
  at4 : w.cell? ⟨b, 4, none⟩ = some (v.getD 4 (.bool false))
  at5 : w.cell? ⟨b, 5, none⟩ = some (v.getD 5 (.bool false))
  free : ∀ o, w.frozen? ⟨b, o, none⟩ = false
theorem Box.keep {w w' : World} {b n : Nat} {v : Array Value} (h : Box w b v) (hb : Below n w w') (l : b < n) : Box w' b v := by
  have c : ∀ o, w'.cell? ⟨b, o, none⟩ = w.cell? ⟨b, o, none⟩ := fun o => hb.cell (p := ⟨b, o, none⟩) l
  exact ⟨Nat.lt_of_lt_of_le h.low hb.size, by rw [c]; exact h.at0, by rw [c]; exact h.at1, by rw [c]; exact h.at2, by rw [c]; exact h.at3, by rw [c]; exact h.at4, by rw [c]; exact h.at5, fun o => by rw [hb.frozen (p := ⟨b, o, none⟩) l]; exact h.free o⟩
theorem Box.tell {w : World} {b : Nat} {a0 a1 a2 a3 a4 a5 : Value} (h : Box w b #[a0, a1, a2, a3, a4, a5]) :
    w.cell? ⟨b, 0, none⟩ = some a0 ∧ w.cell? ⟨b, 1, none⟩ = some a1 ∧ w.cell? ⟨b, 2, none⟩ = some a2 ∧ w.cell? ⟨b, 3, none⟩ = some a3 ∧ w.cell? ⟨b, 4, none⟩ = some a4 ∧ w.cell? ⟨b, 5, none⟩ = some a5 :=
  ⟨h.at0, h.at1, h.at2, h.at3, h.at4, h.at5⟩
theorem Box.thaw {w : World} {b : Nat} {v : Array Value} (h : Box w b v) :
    w.frozen? ⟨b, 0, none⟩ = false ∧ w.frozen? ⟨b, 1, none⟩ = false ∧ w.frozen? ⟨b, 2, none⟩ = false ∧ w.frozen? ⟨b, 3, none⟩ = false ∧ w.frozen? ⟨b, 4, none⟩ = false ∧ w.frozen? ⟨b, 5, none⟩ = false :=
  ⟨h.free 0, h.free 1, h.free 2, h.free 3, h.free 4, h.free 5⟩
theorem Box.new {w : World} {t : TypeId} {a0 a1 a2 a3 a4 a5 : Value} : Box (w.alloc (.cells #[a0, a1, a2, a3, a4, a5] t)) w.heap.size #[a0, a1, a2, a3, a4, a5] := by
  constructor <;> simp [go_sem]
theorem Box.over {w : World} {b : Nat} {v : Array Value} {o : Obj} (h : Box w b v) : Box (w.alloc o) b v :=
  h.keep ((Below.refl _ _).alloc (Nat.le_refl _) _) h.low
theorem vbelow_new (w : World) (o : Obj) : Below w.heap.size w (w.alloc o) := (Below.refl _ _).alloc (Nat.le_refl _) _
end Go.Proofs.YtnegjbkbfgkkjaaGreatDoor

/- Walks: Same and finer of what is told; alive. -/
namespace Go.Proofs.YtnegjbkbfgkkjaaGreatDoor
open Go.RowKit

/-- a value stored whole -/
abbrev put6 (w : World) (b : Nat) (v0 v1 v2 v3 v4 v5 : Value) : World :=
  (((((w.setCell ⟨b, 0, none⟩ v0).setCell ⟨b, 1, none⟩ v1).setCell ⟨b, 2, none⟩ v2).setCell ⟨b, 3, none⟩ v3).setCell ⟨b, 4, none⟩ v4).setCell ⟨b, 5, none⟩ v5
theorem Box.put {w : World} {b : Nat} {a0 a1 a2 a3 a4 a5 : Value} (h : Box w b #[a0, a1, a2, a3, a4, a5]) (v0 v1 v2 v3 v4 v5 : Value) : Box (put6 w b v0 v1 v2 v3 v4 v5) b #[v0, v1, v2, v3, v4, v5] := by
  obtain ⟨h0, h1, h2, h3, h4, h5⟩ := h.tell
  have fr := h.free
  refine ⟨by simp [put6, World.setCell]; exact h.low, ?_, ?_, ?_, ?_, ?_, ?_, ?_⟩
  · simp [put6, go_sem, h0]
  · simp [put6, go_sem, h1]
  · simp [put6, go_sem, h2]
  · simp [put6, go_sem, h3]
  · simp [put6, go_sem, h4]
  · simp [put6, go_sem, h5]
  · intro o
    simp [put6, go_sem, fr]
end Go.Proofs.YtnegjbkbfgkkjaaGreatDoor

/- Values as trees: how one lies in memory. -/
namespace Go.Proofs.YtnegjbkbfgkkjaaGreatDoor
open Go.RowKit

inductive Tree where
  | mk (k : Int) (y : Bool) (c x : Int) (t : ByteArray) (ks : List Tree)

/-- six cells in a row -/
def Six (w : World) (b o : Nat) (u : Array Value) : Prop := ∃ u0 u1 u2 u3 u4 u5, u = #[u0, u1, u2, u3, u4, u5] ∧ w.cell? ⟨b, o, none⟩ = some u0 ∧ w.cell? ⟨b, o + 1, none⟩ = some u1 ∧ w.cell? ⟨b, o + 2, none⟩ = some u2 ∧ w.cell? ⟨b, o + 3, none⟩ = some u3 ∧ w.cell? ⟨b, o + 4, none⟩ = some u4 ∧ w.cell? ⟨b, o + 5, none⟩ = some u5
theorem Six.below {B : Nat} {w w' : World} {b o : Nat} {u : Array Value} (h : Six w b o u) (hb : Below B w w') (l : b < B) : Six w' b o u := by
  have c : ∀ o, w'.cell? ⟨b, o, none⟩ = w.cell? ⟨b, o, none⟩ := fun o => hb.cell (p := ⟨b, o, none⟩) l
  obtain ⟨u0, u1, u2, u3, u4, u5, hu, h0, h1, h2, h3, h4, h5⟩ := h
  exact ⟨u0, u1, u2, u3, u4, u5, hu, by rw [c, h0], by rw [c, h1], by rw [c, h2], by rw [c, h3], by rw [c, h4], by rw [c, h5]⟩

mutual
/-- a tree in memory, below B -/
def Mem (B : Nat) (w : World) : Tree → Array Value → Prop
  | .mk k y c x t ks, v => t.size ≤ 9223372036854775807 ∧ ks.length ≤ 9223372036854775807 ∧
    ∃ (a : Option Addr) (cap : Nat), v = #[.int .i64 k, .bool y, .int .i64 c, .int .i64 x, .string t, .slice a ks.length cap] ∧ (ks ≠ [] → ∃ b off, a = some ⟨b, off, none⟩ ∧ b < B ∧ MemL B w ks b off)
def MemL (B : Nat) (w : World) : List Tree → Nat → Nat → Prop
  | [], _, _ => True
  | u :: us, b, off => (∃ cs, Six w b off cs ∧ Mem B w u cs) ∧ MemL B w us b (off + 6)
end

mutual
theorem Mem.below {B : Nat} {w w' : World} (hb : Below B w w') : ∀ {T : Tree} {v : Array Value}, Mem B w T v → Mem B w' T v
  | .mk k y c x t ks, v, h => by
    rw [Mem] at h ⊢
    obtain ⟨h1, h2, a, cap, hv, hk⟩ := h
    refine ⟨h1, h2, a, cap, hv, fun hne => ?_⟩
    obtain ⟨b, off, ha, hlt, hm⟩ := hk hne
    exact ⟨b, off, ha, hlt, MemL.below hb hlt hm⟩
theorem MemL.below {B : Nat} {w w' : World} (hb : Below B w w') : ∀ {ks : List Tree} {b off : Nat}, b < B → MemL B w ks b off → MemL B w' ks b off
  | [], _, _, _, _ => by rw [MemL]; trivial
  | u :: us, b, off, hlt, h => by
    rw [MemL] at h ⊢
    obtain ⟨⟨cs, h6, hm⟩, hr⟩ := h
    exact ⟨⟨cs, h6.below hb hlt, Mem.below hb hm⟩, MemL.below hb hlt hr⟩
end
theorem MemL.at {B : Nat} {w : World} : ∀ {ks : List Tree} {b off : Nat}, MemL B w ks b off → ∀ (i : Nat) (u : Tree), ks[i]? = some u → ∃ cs, Six w b (off + i * 6) cs ∧ Mem B w u cs
  | [], b, off, _, i, u, hi => by simp at hi
  | v :: vs, b, off, h, 0, u, hi => by
    rw [MemL] at h
    simp only [List.getElem?_cons_zero, Option.some.injEq] at hi
    subst hi
    simpa using h.1
  | v :: vs, b, off, h, i + 1, u, hi => by
    rw [MemL] at h
    obtain ⟨cs, h6, hm⟩ := MemL.at h.2 i u (by simpa using hi)
    exact ⟨cs, by rw [show off + (i + 1) * 6 = off + 6 + i * 6 by omega]; exact h6, hm⟩

mutual
theorem Mem.mono {B B' : Nat} {w : World} (hB : B ≤ B') : ∀ {T : Tree} {v : Array Value}, Mem B w T v → Mem B' w T v
  | .mk k y c x t ks, v, h => by
    rw [Mem] at h ⊢
    obtain ⟨h1, h2, a, cap, hv, hk⟩ := h
    refine ⟨h1, h2, a, cap, hv, fun hne => ?_⟩
    obtain ⟨b, off, ha, hlt, hm⟩ := hk hne
    exact ⟨b, off, ha, Nat.lt_of_lt_of_le hlt hB, MemL.mono hB hm⟩
theorem MemL.mono {B B' : Nat} {w : World} (hB : B ≤ B') : ∀ {ks : List Tree} {b off : Nat}, MemL B w ks b off → MemL B' w ks b off
  | [], _, _, _ => by rw [MemL]; trivial
  | u :: us, b, off, h => by
    rw [MemL] at h ⊢
    obtain ⟨⟨cs, h6, hm⟩, hr⟩ := h
    exact ⟨⟨cs, h6, Mem.mono hB hm⟩, MemL.mono hB hr⟩
end

/-- the counter -/
def St (w : World) (p s : Nat) : Prop := w.cell? ⟨p, 0, none⟩ = some (.int .i64 (s : Int)) ∧ w.frozen? ⟨p, 0, none⟩ = false ∧ p < w.heap.size
theorem St.below {n : Nat} {w w' : World} {p s : Nat} (h : St w p s) (hb : Below n w w') (l : p < n) : St w' p s :=
  ⟨(hb.cell (p := ⟨p, 0, none⟩) l).trans h.1, (hb.frozen (p := ⟨p, 0, none⟩) l).trans h.2.1, Nat.lt_of_lt_of_le h.2.2 hb.size⟩

end Go.Proofs.YtnegjbkbfgkkjaaGreatDoor

/- Expressions as trees in memory: nine cells a node. -/
namespace Go.Proofs.YtnegjbkbfgkkjaaGreatDoor
open Go.RowKit

/-- an expression: kind, value, name, kids -/
inductive XT where
  | mk (k : Int) (v : Tree) (s : ByteArray) (ks : List XT)

/-- nine cells in a row -/
def Nine (w : World) (b o : Nat) (u : Array Value) : Prop := ∃ u0 u1 u2 u3 u4 u5 u6 u7 u8, u = #[u0, u1, u2, u3, u4, u5, u6, u7, u8] ∧ w.cell? ⟨b, o, none⟩ = some u0 ∧ w.cell? ⟨b, o + 1, none⟩ = some u1 ∧ w.cell? ⟨b, o + 2, none⟩ = some u2 ∧ w.cell? ⟨b, o + 3, none⟩ = some u3 ∧ w.cell? ⟨b, o + 4, none⟩ = some u4 ∧ w.cell? ⟨b, o + 5, none⟩ = some u5 ∧ w.cell? ⟨b, o + 6, none⟩ = some u6 ∧ w.cell? ⟨b, o + 7, none⟩ = some u7 ∧ w.cell? ⟨b, o + 8, none⟩ = some u8
theorem Nine.below {B : Nat} {w w' : World} {b o : Nat} {u : Array Value} (h : Nine w b o u) (hb : Below B w w') (l : b < B) : Nine w' b o u := by
  have c : ∀ o, w'.cell? ⟨b, o, none⟩ = w.cell? ⟨b, o, none⟩ := fun o => hb.cell (p := ⟨b, o, none⟩) l
  obtain ⟨u0, u1, u2, u3, u4, u5, u6, u7, u8, hu, h0, h1, h2, h3, h4, h5, h6, h7, h8⟩ := h
  exact ⟨u0, u1, u2, u3, u4, u5, u6, u7, u8, hu, by rw [c, h0], by rw [c, h1], by rw [c, h2], by rw [c, h3], by rw [c, h4], by rw [c, h5], by rw [c, h6], by rw [c, h7], by rw [c, h8]⟩

mutual
/-- an expression in memory, below B -/
def XMem (B : Nat) (w : World) : XT → Array Value → Prop
  | .mk k v s ks, x => s.size ≤ 9223372036854775807 ∧ ks.length ≤ 9223372036854775807 ∧
    ∃ (vk : Int) (vy : Bool) (vc vx : Int) (vt : ByteArray) (va : Option Addr) (vn vp : Nat) (a : Option Addr) (cap : Nat),
      x = #[.int .i64 k, .int .i64 vk, .bool vy, .int .i64 vc, .int .i64 vx, .string vt, .slice va vn vp, .string s, .slice a ks.length cap] ∧ Mem B w v #[.int .i64 vk, .bool vy, .int .i64 vc, .int .i64 vx, .string vt, .slice va vn vp] ∧
      (ks ≠ [] → ∃ b off, a = some ⟨b, off, none⟩ ∧ b < B ∧ XMemL B w ks b off)
def XMemL (B : Nat) (w : World) : List XT → Nat → Nat → Prop
  | [], _, _ => True
  | u :: us, b, off => (∃ cs, Nine w b off cs ∧ XMem B w u cs) ∧ XMemL B w us b (off + 9)
end

mutual
theorem XMem.below {B : Nat} {w w' : World} (hb : Below B w w') : ∀ {X : XT} {x : Array Value}, XMem B w X x → XMem B w' X x
  | .mk k v s ks, x, h => by
    rw [XMem] at h ⊢
    obtain ⟨h1, h2, vk, vy, vc, vx, vt, va, vn, vp, a, cap, hx, hm, hk⟩ := h
    refine ⟨h1, h2, vk, vy, vc, vx, vt, va, vn, vp, a, cap, hx, Mem.below hb hm, fun hne => ?_⟩
    obtain ⟨b, off, ha, hlt, hm⟩ := hk hne
    exact ⟨b, off, ha, hlt, XMemL.below hb hlt hm⟩
theorem XMemL.below {B : Nat} {w w' : World} (hb : Below B w w') : ∀ {ks : List XT} {b off : Nat}, b < B → XMemL B w ks b off → XMemL B w' ks b off
  | [], _, _, _, _ => by rw [XMemL]; trivial
  | u :: us, b, off, hlt, h => by
    rw [XMemL] at h ⊢
    obtain ⟨⟨cs, h6, hm⟩, hr⟩ := h
    exact ⟨⟨cs, h6.below hb hlt, XMem.below hb hm⟩, XMemL.below hb hlt hr⟩
end
mutual
theorem XMem.mono {B B' : Nat} {w : World} (hB : B ≤ B') : ∀ {X : XT} {x : Array Value}, XMem B w X x → XMem B' w X x
  | .mk k v s ks, x, h => by
    rw [XMem] at h ⊢
    obtain ⟨h1, h2, vk, vy, vc, vx, vt, va, vn, vp, a, cap, hx, hm, hk⟩ := h
    refine ⟨h1, h2, vk, vy, vc, vx, vt, va, vn, vp, a, cap, hx, Mem.mono hB hm, fun hne => ?_⟩
    obtain ⟨b, off, ha, hlt, hm⟩ := hk hne
    exact ⟨b, off, ha, Nat.lt_of_lt_of_le hlt hB, XMemL.mono hB hm⟩
theorem XMemL.mono {B B' : Nat} {w : World} (hB : B ≤ B') : ∀ {ks : List XT} {b off : Nat}, XMemL B w ks b off → XMemL B' w ks b off
  | [], _, _, _ => by rw [XMemL]; trivial
  | u :: us, b, off, h => by
    rw [XMemL] at h ⊢
    obtain ⟨⟨cs, h6, hm⟩, hr⟩ := h
    exact ⟨⟨cs, h6, XMem.mono hB hm⟩, XMemL.mono hB hr⟩
end
theorem XMemL.at {B : Nat} {w : World} : ∀ {ks : List XT} {b off : Nat}, XMemL B w ks b off → ∀ (i : Nat) (u : XT), ks[i]? = some u → ∃ cs, Nine w b (off + i * 9) cs ∧ XMem B w u cs
  | [], b, off, _, i, u, hi => by simp at hi
  | v :: vs, b, off, h, 0, u, hi => by
    rw [XMemL] at h
    simp only [List.getElem?_cons_zero, Option.some.injEq] at hi
    subst hi
    simpa using h.1
  | v :: vs, b, off, h, i + 1, u, hi => by
    rw [XMemL] at h
    obtain ⟨cs, h6, hm⟩ := XMemL.at h.2 i u (by simpa using hi)
    exact ⟨cs, by rw [show off + (i + 1) * 9 = off + 9 + i * 9 by omega]; exact h6, hm⟩
theorem XMem.grow {w w' : World} {X : XT} {x : Array Value} (h : XMem w.heap.size w X x) (hb : Below w.heap.size w w') : XMem w'.heap.size w' X x := XMem.mono hb.size (XMem.below hb h)
end Go.Proofs.YtnegjbkbfgkkjaaGreatDoor

/- What is wrong with an expression, out of what is a name and what is wrong with a value. -/
namespace Go.Proofs.YtnegjbkbfgkkjaaGreatDoor
open Go.RowKit

def hasNm (k : Int) : Bool := decide (k = 2 ∨ k = 18 ∨ k = 20 ∨ k = 21 ∨ k = 22)
def leastK (k : Int) : Int := if k = 1 ∨ k = 2 then 0 else if k = 3 then 1 else if k = 17 then 3 else if k = 18 then 0 else if k = 19 then 0 else 2
def mostK (k : Int) : Int := if k = 1 ∨ k = 2 then 0 else if k = 3 then 1 else if k = 17 then 3 else if k = 18 then 8 else if k = 19 then 200 else 2

set_option maxHeartbeats 8000000 in
theorem hasName_any (k : Int) (w : World) : Calls Tryz.prog 181 #[.int .i64 k] w fun e w' => e = .returned (.bool (hasNm k)) ∧ w' = w := by
  unfold hasNm
  by_cases h : k = 2 ∨ k = 18 ∨ k = 20 ∨ k = 21 ∨ k = 22
  · rw [decide_eq_true h]
    rcases h with rfl | rfl | rfl | rfl | rfl
    all_goals
      go_enter Tryz.func181, Tryz.ntmps181
      go_wp2
      go_ret
      exact ⟨rfl, rfl⟩
  · rw [decide_eq_false h]
    have h1 : (k == 2) = false := by simp; omega
    have h2 : (k == 18) = false := by simp; omega
    have h3 : (k == 20) = false := by simp; omega
    have h4 : (k == 21) = false := by simp; omega
    have h5 : (k == 22) = false := by simp; omega
    clear h
    go_enter Tryz.func181, Tryz.ntmps181
    go_wp2
    go_ret
    exact ⟨rfl, rfl⟩

set_option maxHeartbeats 8000000 in
theorem kidsOf_any (k : Int) (w : World) : Calls Tryz.prog 182 #[.int .i64 k] w fun e w' => e = .returned (.tuple #[.int .i64 (leastK k), .int .i64 (mostK k)]) ∧ w' = w := by
  by_cases h : k = 1 ∨ k = 2 ∨ k = 3 ∨ k = 17 ∨ k = 18 ∨ k = 19
  · rcases h with rfl | rfl | rfl | rfl | rfl | rfl
    all_goals
      go_enter Tryz.func182, Tryz.ntmps182
      go_wp2
      refine bodyPost_ret (v := .tuple #[.int .i64 _, .int .i64 _]) (by simp [results, Tryz.results182, go_sem]; exact ⟨rfl, rfl⟩) rfl ⟨rfl, rfl⟩
  · have e1 : leastK k = 2 := by unfold leastK; rw [if_neg (by omega), if_neg (by omega), if_neg (by omega), if_neg (by omega), if_neg (by omega)]
    have e2 : mostK k = 2 := by unfold mostK; rw [if_neg (by omega), if_neg (by omega), if_neg (by omega), if_neg (by omega), if_neg (by omega)]
    rw [e1, e2]
    have h1 : (k == 1) = false := by simp; omega
    have h2 : (k == 2) = false := by simp; omega
    have h3 : (k == 3) = false := by simp; omega
    have h4 : (k == 17) = false := by simp; omega
    have h5 : (k == 18) = false := by simp; omega
    have h6 : (k == 19) = false := by simp; omega
    clear h e1 e2
    go_enter Tryz.func182, Tryz.ntmps182
    go_wp2
    exact bodyPost_ret (v := .tuple #[.int .i64 2, .int .i64 2]) (by simp [results, Tryz.results182, go_sem]) rfl ⟨rfl, rfl⟩

/-- what is known of names and values -/
structure EnvX (B : Nat) (Gd : World → Prop) (nB : ByteArray → Bool) (vW : Tree → Int) : Prop where
  keep : ∀ w w', Gd w → Below B w w' → Gd w'
  named : ∀ (s : ByteArray) (w : World), s.size ≤ 9223372036854775807 → B ≤ w.heap.size → Gd w → Calls Tryz.prog 46 #[.string s] w fun e w' => e = .returned (.bool (nB s)) ∧ Below w.heap.size w w'
  val : ∀ (T : Tree) (v : Array Value) (w : World), Mem B w T v → B ≤ w.heap.size → Gd w → Calls Tryz.prog 78 #[.agg v] w fun e w' => e = .returned (.int .i64 (vW T)) ∧ Below w.heap.size w w'

def litF (r vk vc : Int) : Int := if r ≠ 0 then r else if vk = 5 ∨ (vk = 3 ∧ vc < 0) then 8 else 0
set_option maxHeartbeats 8000000 in
theorem wrongLiteral_any {B : Nat} {Gd : World → Prop} {nB : ByteArray → Bool} {vW : Tree → Int} (E : EnvX B Gd nB vW) (T : Tree) (vk : Int) (vy : Bool) (vc vx : Int) (vt : ByteArray) (va : Option Addr) (vn vp : Nat) (w : World) (hv : Mem B w T #[.int .i64 vk, .bool vy, .int .i64 vc, .int .i64 vx, .string vt, .slice va vn vp]) (hB : B ≤ w.heap.size) (hG : Gd w) :
    Calls Tryz.prog 180 #[.agg #[.int .i64 vk, .bool vy, .int .i64 vc, .int .i64 vx, .string vt, .slice va vn vp]] w fun e w' => e = .returned (.int .i64 (litF (vW T) vk vc)) ∧ Below w.heap.size w w' := by
  have B0 := (Below.refl w.heap.size w).alloc (Nat.le_refl _) (.cells #[.int .i64 vk, .bool vy, .int .i64 vc, .int .i64 vx, .string vt, .slice va vn vp] 81)
  have C := hide (E.val T _ _ (Mem.below (B0.mono hB) hv) (Nat.le_trans hB B0.size) (E.keep _ _ hG (B0.mono hB)))
  have X0 := hide (V6.new w 81 (.int .i64 vk) (.bool vy) (.int .i64 vc) (.int .i64 vx) (.string vt) (.slice va vn vp))
  have HB0 := hide B0
  clear B0 hv hG E
  generalize vW T = r at *
  go_enter Tryz.func180, Tryz.ntmps180
  go_wp2_with fail
  refine (unhide C).mono ?_
  rintro e w1 ⟨rfl, hb⟩
  obtain ⟨c0, c1, c2, c3, c4, c5⟩ := ((unhide X0).keep hb (unhide X0).low).tell
  have HB1 := hide (below_via (unhide HB0) hb)
  clear hb C X0 HB0
  by_cases hr : r = 0
  · subst hr
    by_cases h5 : vk = 5
    · subst h5
      go_wp2
      go_ret
      exact ⟨by simp [litF], unhide HB1⟩
    have h5' : (vk == 5) = false := by simpa using h5
    by_cases h3 : vk = 3
    · subst h3
      by_cases hc : vc < 0
      · go_wp2
        go_ret
        exact ⟨by simp [litF, hc], unhide HB1⟩
      · go_wp2
        go_ret
        exact ⟨by simp [litF, hc], unhide HB1⟩
    have h3' : (vk == 3) = false := by simpa using h3
    go_wp2
    go_ret
    exact ⟨by simp [litF, h5, h3], unhide HB1⟩
  · have hr' : (r != 0) = true := by simpa using hr
    go_wp2
    go_ret
    exact ⟨by simp [litF, hr], unhide HB1⟩
end Go.Proofs.YtnegjbkbfgkkjaaGreatDoor

/- What is wrong with an expression's node, and with all of it. -/
namespace Go.Proofs.YtnegjbkbfgkkjaaGreatDoor
open Go.RowKit

/-- an expression's nine cells in a block -/
structure V9 (w : World) (b : Nat) (v0 v1 v2 v3 v4 v5 v6 v7 v8 : Value) : Prop where
  low : b < w.heap.size
  tell : w.cell? ⟨b, 0, none⟩ = some v0 ∧ w.cell? ⟨b, 1, none⟩ = some v1 ∧ w.cell? ⟨b, 2, none⟩ = some v2 ∧ w.cell? ⟨b, 3, none⟩ = some v3 ∧ w.cell? ⟨b, 4, none⟩ = some v4 ∧ w.cell? ⟨b, 5, none⟩ = some v5 ∧ w.cell? ⟨b, 6, none⟩ = some v6 ∧ w.cell? ⟨b, 7, none⟩ = some v7 ∧ w.cell? ⟨b, 8, none⟩ = some v8
theorem V9.keep {w w' : World} {b : Nat} {v0 v1 v2 v3 v4 v5 v6 v7 v8 : Value} (h : V9 w b v0 v1 v2 v3 v4 v5 v6 v7 v8) {B : Nat} (hb : Below B w w') (l : b < B) : V9 w' b v0 v1 v2 v3 v4 v5 v6 v7 v8 := by
  have c : ∀ o, w'.cell? ⟨b, o, none⟩ = w.cell? ⟨b, o, none⟩ := fun o => hb.cell (p := ⟨b, o, none⟩) l
  refine ⟨Nat.lt_of_lt_of_le h.low hb.size, ?_⟩
  simp only [c]
  exact h.tell
theorem V9.but {w w' : World} {p b : Nat} {v0 v1 v2 v3 v4 v5 v6 v7 v8 : Value} (h : V9 w b v0 v1 v2 v3 v4 v5 v6 v7 v8) (hb : But p w w') (ne : b ≠ p) : V9 w' b v0 v1 v2 v3 v4 v5 v6 v7 v8 := by
  have c : ∀ o, w'.cell? ⟨b, o, none⟩ = w.cell? ⟨b, o, none⟩ := fun o => hb.cell (q := ⟨b, o, none⟩) h.low ne
  refine ⟨Nat.lt_of_lt_of_le h.low hb.size, ?_⟩
  simp only [c]
  exact h.tell
theorem V9.new (w : World) (t : TypeId) (v0 v1 v2 v3 v4 v5 v6 v7 v8 : Value) : V9 (w.alloc (.cells #[v0, v1, v2, v3, v4, v5, v6, v7, v8] t)) w.heap.size v0 v1 v2 v3 v4 v5 v6 v7 v8 := ⟨by simp, by go_simp, by go_simp, by go_simp, by go_simp, by go_simp, by go_simp, by go_simp, by go_simp, by go_simp⟩

def nodeF (lit : Int) (nb : Bool) (k len : Int) : Int := if k < 1 ∨ 22 < k then 1 else if k = 1 ∧ lit ≠ 0 then lit else if hasNm k = true ∧ nb = false then 7 else if len < leastK k ∨ mostK k < len then 5 else 0

set_option maxHeartbeats 8000000 in
theorem wrongNode_any {B : Nat} {Gd : World → Prop} {nB : ByteArray → Bool} {vW : Tree → Int} (E : EnvX B Gd nB vW) (k : Int) (T : Tree) (vk : Int) (vy : Bool) (vc vx : Int) (vt : ByteArray) (va : Option Addr) (vn vp : Nat) (s : ByteArray) (a : Option Addr) (n cap : Nat) (w : World)
    (hs : s.size ≤ 9223372036854775807) (_hn : n ≤ 9223372036854775807) (hv : Mem B w T #[.int .i64 vk, .bool vy, .int .i64 vc, .int .i64 vx, .string vt, .slice va vn vp]) (hB : B ≤ w.heap.size) (hG : Gd w) :
    Calls Tryz.prog 164 #[.agg #[.int .i64 k, .int .i64 vk, .bool vy, .int .i64 vc, .int .i64 vx, .string vt, .slice va vn vp, .string s, .slice a n cap]] w fun e w' => e = .returned (.int .i64 (nodeF (litF (vW T) vk vc) (nB s) k n)) ∧ Below w.heap.size w w' := by
  have X0 := hide (V9.new w 86 (.int .i64 k) (.int .i64 vk) (.bool vy) (.int .i64 vc) (.int .i64 vx) (.string vt) (.slice va vn vp) (.string s) (.slice a n cap))
  have B0 := hide ((Below.refl w.heap.size w).alloc (Nat.le_refl _) (.cells #[.int .i64 k, .int .i64 vk, .bool vy, .int .i64 vc, .int .i64 vx, .string vt, .slice va vn vp, .string s, .slice a n cap] 86))
  have CL := hide (fun wx (h : Below w.heap.size w wx) => wrongLiteral_any E T vk vy vc vx vt va vn vp wx (Mem.below (h.mono hB) hv) (Nat.le_trans hB h.size) (E.keep _ _ hG (h.mono hB)))
  have CN := hide (fun wx (h : Below w.heap.size w wx) => E.named s wx hs (Nat.le_trans hB h.size) (E.keep _ _ hG (h.mono hB)))
  have CH := hide (fun wx => hasName_any k wx)
  have CK := hide (fun wx => kidsOf_any k wx)
  have HF : Hid (∀ lit nb, nodeF lit nb k n = if k < 1 ∨ 22 < k then 1 else if k = 1 ∧ lit ≠ 0 then lit else if hasNm k = true ∧ nb = false then 7 else if (n : Int) < leastK k ∨ mostK k < (n : Int) then 5 else 0) := hide (fun _ _ => rfl)
  clear hv hG E
  generalize litF (vW T) vk vc = lit at *
  generalize nB s = nb at *
  have hn1 : hasNm k = true → k ≠ 1 := fun q => by unfold hasNm at q; simp at q; omega
  generalize hasNm k = hk at *
  generalize leastK k = lk at *
  generalize mostK k = mk at *
  by_cases h0 : k < 1 ∨ 22 < k
  · rcases Int.lt_or_le k 1 with h1 | h1
    · go_enter Tryz.func164, Tryz.ntmps164
      go_wp2
      go_ret
      exact ⟨by rw [unhide HF, if_pos h0]; rfl, unhide B0⟩
    · have h2 : 22 < k := by omega
      have h3 : ¬ k < 1 := by omega
      go_enter Tryz.func164, Tryz.ntmps164
      go_wp2
      go_ret
      exact ⟨by rw [unhide HF, if_pos h0]; rfl, unhide B0⟩
  have h1 : ¬ k < 1 := by omega
  have h2 : ¬ 22 < k := by omega
  by_cases hk1 : k = 1
  · subst hk1
    go_enter Tryz.func164, Tryz.ntmps164
    go_wp2_with fail
    refine (unhide CL _ (unhide B0)).mono ?_
    rintro e w1 ⟨rfl, hb⟩
    have X1 := hide ((unhide X0).keep hb (unhide X0).low)
    have B1 := hide (below_via (unhide B0) hb)
    clear hb X0 B0 CL CN
    by_cases hl : lit = 0
    · subst hl
      obtain ⟨c0, c1, c2, c3, c4, c5, c6, c7, c8⟩ := (unhide X1).tell
      have hkf : hk = false := by
        cases hk with
        | false => rfl
        | true => exact absurd rfl (hn1 rfl)
      subst hkf
      go_wp2_with fail
      refine (unhide CH _).mono ?_
      rintro e w2 ⟨rfl, rfl⟩
      go_wp2_with fail
      refine (unhide CK _).mono ?_
      rintro e w3 ⟨rfl, rfl⟩
      by_cases q1 : (n : Int) < lk
      · go_wp2
        go_ret
        exact ⟨by rw [unhide HF, if_neg h0, if_neg (by simp), if_neg (by simp), if_pos (.inl q1)]; rfl, unhide B1⟩
      · by_cases q2 : mk < (n : Int)
        · go_wp2
          go_ret
          exact ⟨by rw [unhide HF, if_neg h0, if_neg (by simp), if_neg (by simp), if_pos (.inr q2)]; rfl, unhide B1⟩
        · go_wp2
          go_ret
          exact ⟨by rw [unhide HF, if_neg h0, if_neg (by simp), if_neg (by simp), if_neg (by omega)]; rfl, unhide B1⟩
    · have hl' : (lit != 0) = true := by simpa using hl
      go_wp2
      go_ret
      exact ⟨by rw [unhide HF, if_neg h0, if_pos (by simp [hl])]; rfl, unhide B1⟩
  have hk1' : (k == 1) = false := by simpa using hk1
  clear CL
  cases hk with
  | false =>
    go_enter Tryz.func164, Tryz.ntmps164
    go_wp2_with fail
    refine (unhide CH _).mono ?_
    rintro e w2 ⟨rfl, rfl⟩
    go_wp2_with fail
    refine (unhide CK _).mono ?_
    rintro e w3 ⟨rfl, rfl⟩
    by_cases q1 : (n : Int) < lk
    · go_wp2
      go_ret
      exact ⟨by rw [unhide HF, if_neg h0, if_neg (fun q => hk1 q.1), if_neg (by simp), if_pos (.inl q1)]; rfl, unhide B0⟩
    · by_cases q2 : mk < (n : Int)
      · go_wp2
        go_ret
        exact ⟨by rw [unhide HF, if_neg h0, if_neg (fun q => hk1 q.1), if_neg (by simp), if_pos (.inr q2)]; rfl, unhide B0⟩
      · go_wp2
        go_ret
        exact ⟨by rw [unhide HF, if_neg h0, if_neg (fun q => hk1 q.1), if_neg (by simp), if_neg (by omega)]; rfl, unhide B0⟩
  | true =>
    go_enter Tryz.func164, Tryz.ntmps164
    go_wp2_with fail
    refine (unhide CH _).mono ?_
    rintro e w2 ⟨rfl, rfl⟩
    go_wp2_with fail
    refine (unhide CN _ (unhide B0)).mono ?_
    rintro e w3 ⟨rfl, hb⟩
    have X1 := hide ((unhide X0).keep hb (unhide X0).low)
    have B1 := hide (below_via (unhide B0) hb)
    clear hb X0 B0 CN
    cases nb with
    | false =>
      go_wp2
      go_ret
      exact ⟨by rw [unhide HF, if_neg h0, if_neg (fun q => hk1 q.1), if_pos (by simp)]; rfl, unhide B1⟩
    | true =>
      obtain ⟨c0, c1, c2, c3, c4, c5, c6, c7, c8⟩ := (unhide X1).tell
      go_wp2_with fail
      refine (unhide CK _).mono ?_
      rintro e w4 ⟨rfl, rfl⟩
      by_cases q1 : (n : Int) < lk
      · go_wp2
        go_ret
        exact ⟨by rw [unhide HF, if_neg h0, if_neg (fun q => hk1 q.1), if_neg (by simp), if_pos (.inl q1)]; rfl, unhide B1⟩
      · by_cases q2 : mk < (n : Int)
        · go_wp2
          go_ret
          exact ⟨by rw [unhide HF, if_neg h0, if_neg (fun q => hk1 q.1), if_neg (by simp), if_pos (.inr q2)]; rfl, unhide B1⟩
        · go_wp2
          go_ret
          exact ⟨by rw [unhide HF, if_neg h0, if_neg (fun q => hk1 q.1), if_neg (by simp), if_neg (by omega)]; rfl, unhide B1⟩
end Go.Proofs.YtnegjbkbfgkkjaaGreatDoor

/- Expressions with which nothing is wrong; how many nodes. -/
namespace Go.Proofs.YtnegjbkbfgkkjaaGreatDoor
open Go.RowKit

mutual
def XT.size : XT → Nat
  | .mk _ _ _ ks => 1 + sizeL ks
def sizeL : List XT → Nat
  | [] => 0
  | x :: xs => x.size + sizeL xs
end

mutual
/-- each kind has as many kids as it has -/
def XT.ok : XT → Prop
  | .mk k _ _ ks => 1 ≤ k ∧ k ≤ 22 ∧ leastK k ≤ (ks.length : Int) ∧ (ks.length : Int) ≤ mostK k ∧ okL ks
def okL : List XT → Prop
  | [] => True
  | x :: xs => x.ok ∧ okL xs
end
theorem len_sizeL : ∀ ks : List XT, ks.length ≤ sizeL ks
  | [] => Nat.zero_le _
  | .mk _ _ _ ks' :: xs => by
    have := len_sizeL xs
    rw [sizeL, XT.size, List.length_cons]
    omega
theorem okL_at : ∀ {ks : List XT} {i : Nat} {u : XT}, okL ks → ks[i]? = some u → u.ok
  | [], i, u, _, h => by simp at h
  | x :: xs, 0, u, ho, h => by
    rw [okL] at ho
    simp only [List.getElem?_cons_zero, Option.some.injEq] at h
    rw [← h]; exact ho.1
  | x :: xs, i + 1, u, ho, h => by
    rw [okL] at ho
    exact okL_at ho.2 (by simpa using h)
theorem size_at : ∀ {ks : List XT} {i : Nat} {u : XT}, ks[i]? = some u → u.size ≤ sizeL ks
  | [], i, u, h => by simp at h
  | x :: xs, 0, u, h => by
    simp only [List.getElem?_cons_zero, Option.some.injEq] at h
    rw [sizeL, ← h]; omega
  | x :: xs, i + 1, u, h => by
    have := size_at (ks := xs) (i := i) (u := u) (by simpa using h)
    rw [sizeL]; omega

theorem XMem.form {B : Nat} {w : World} {x : XT} {cs : Array Value} (h : XMem B w x cs) : ∃ (k vk : Int) (vy : Bool) (vc vx : Int) (vt : ByteArray) (va : Option Addr) (vn vp : Nat) (s : ByteArray) (a : Option Addr) (n cap : Nat), cs = #[.int .i64 k, .int .i64 vk, .bool vy, .int .i64 vc, .int .i64 vx, .string vt, .slice va vn vp, .string s, .slice a n cap] := by
  cases x with
  | mk k v s ks =>
    rw [XMem] at h
    obtain ⟨_, _, vk, vy, vc, vx, vt, va, vn, vp, a, cap, hx, _⟩ := h
    exact ⟨_, _, _, _, _, _, _, _, _, _, _, _, _, hx⟩
def Tree.kind : Tree → Int
  | .mk k _ _ _ _ _ => k
theorem dropX {α : Type} {l : List α} {m : Nat} {u : α} (hu : l[m]? = some u) : l.drop m = u :: l.drop (m + 1) := by
  have hlt := (List.getElem?_eq_some_iff.1 hu).1
  rw [List.drop_eq_getElem_cons hlt]
  congr 1
  rw [List.getElem?_eq_getElem hlt] at hu
  exact Option.some.inj hu
end Go.Proofs.YtnegjbkbfgkkjaaGreatDoor

/- The types of expressions in plain words. -/
namespace Go.Proofs.YtnegjbkbfgkkjaaGreatDoor

def Sp.isB (a : Sp) (k : Int) : Bool := if k = 5 then decide (0 < a.n) else decide (a.n = 0 ∧ a.k = k)
def Sp.openB (a : Sp) : Bool := decide (a.n = 0 ∧ a.k = 1) || decide (a.n = 0 ∧ a.k = 6)
def Sp.mayB (a : Sp) (k : Int) : Bool := a.isB k || a.openB
def Sp.listed (a : Sp) : Sp := ⟨a.n + 1, a.k⟩
def Sp.elem (a : Sp) : Sp := if a.n = 0 then a else ⟨a.n - 1, a.k⟩
def Sp.meetB (a b : Sp) : Bool := Sp.openB ⟨a.n - min a.n b.n, a.k⟩ || (Sp.openB ⟨b.n - min a.n b.n, b.k⟩ || decide (a.n = b.n ∧ a.k = b.k))
def allB (l : List Sp) (k : Int) : Bool := l.all (fun a => a.mayB k)
def ordB (l : List Sp) : Bool := allB l 3 || allB l 4
def joinA (a : Sp) : List Sp → Sp
  | [] => a
  | b :: l => joinA (a.join b) l
def joinL (l : List Sp) : Sp := joinA ⟨0, 1⟩ l
def addF (a b : Sp) : Sp × Bool :=
  if (a.mayB 3 && b.mayB 3) && (a.isB 3 || b.isB 3) then (⟨0, 3⟩, true)
  else if (a.mayB 4 && b.mayB 4) && (a.isB 4 || b.isB 4) then (⟨0, 4⟩, true) else (⟨0, 6⟩, a.openB && b.openB)
def ofNodeF (k : Int) (l : List Sp) : Sp × Bool :=
  if k = 4 then addF (l.getD 0 ⟨0, 0⟩) (l.getD 1 ⟨0, 0⟩)
  else if k = 3 ∨ k = 5 ∨ k = 6 ∨ k = 7 then (⟨0, 3⟩, allB l 3)
  else if k = 8 ∨ k = 9 then (⟨0, 2⟩, (l.getD 0 ⟨0, 0⟩).meetB (l.getD 1 ⟨0, 0⟩))
  else if k = 10 ∨ k = 11 ∨ k = 12 ∨ k = 13 then (⟨0, 2⟩, ordB l)
  else if k = 14 then (⟨0, 2⟩, (l.getD 1 ⟨0, 0⟩).mayB 5 && (l.getD 0 ⟨0, 0⟩).meetB (l.getD 1 ⟨0, 0⟩).elem)
  else if k = 15 ∨ k = 16 then (⟨0, 2⟩, allB l 2)
  else if k = 17 then ((l.getD 1 ⟨0, 0⟩).join (l.getD 2 ⟨0, 0⟩), (l.getD 0 ⟨0, 0⟩).mayB 2)
  else if k = 19 then ((joinL l).listed, true) else (⟨0, 0⟩, false)


/-- what a function tells -/
inductive Tl where
  | always (k : Int)
  | elem
  | elems
  | sum
  | between
def tellF : Tl → List Sp → Sp × Bool
  | .always k, _ => (⟨0, k⟩, true)
  | .elem, l => ((l.getD 0 ⟨0, 0⟩).elem, true)
  | .elems, l => ((joinL (l.map Sp.elem)).listed, true)
  | .sum, l => (⟨0, 3⟩, (l.getD 0 ⟨0, 0⟩).elem.mayB 3)
  | .between, l => (⟨0, 2⟩, ordB l)
def goesB : List Int → List Sp → Bool
  | k :: ks, a :: l => (k == 0 || a.mayB k) && goesB ks l
  | _, _ => true
def ofF (tk : List Int) (t : Tl) (l : List Sp) : Sp × Bool := if goesB tk l then tellF t l else (⟨0, 0⟩, false)
/-- the functions, the last one first -/
def fnTab : List (List UInt8 × List Int × Tl) :=
  [([98, 101, 116, 119, 101, 101, 110], [0, 0, 0], .between),
   ([101, 110, 100, 115], [4, 4], .always 2),
   ([115, 116, 97, 114, 116, 115], [4, 4], .always 2),
   ([99, 111, 110, 116, 97, 105, 110, 115], [4, 4], .always 2),
   ([115, 117, 98, 115, 116, 114, 105, 110, 103], [4, 3, 3], .always 4),
   ([108, 111, 119, 101, 114], [4], .always 4),
   ([117, 112, 112, 101, 114], [4], .always 4),
   ([108, 101, 110, 103, 116, 104], [4], .always 3),
   ([99, 111, 110, 99, 97, 116], [5, 5], .elems),
   ([115, 111, 114, 116], [5], .elems),
   ([100, 105, 115, 116, 105, 110, 99, 116], [5], .elems),
   ([114, 101, 118, 101, 114, 115, 101], [5], .elems),
   ([99, 111, 117, 110, 116], [5], .always 3),
   ([115, 117, 109], [5], .sum),
   ([105, 116, 101, 109], [5, 3], .elem),
   ([109, 97, 120], [5], .elem),
   ([109, 105, 110], [5], .elem),
   ([114, 111, 117, 110, 100], [3, 3], .always 3),
   ([97, 98, 115], [3], .always 3),
   ([99, 101, 105, 108, 105, 110, 103], [3], .always 3),
   ([102, 108, 111, 111, 114], [3], .always 3),
   ([110, 111, 116], [2], .always 2)]
def fnIn : List (List UInt8 × List Int × Tl) → List UInt8 → Option (List Int × Tl)
  | [], _ => none
  | e :: tab, s => if e.1 = s then some e.2 else fnIn tab s

def orW (p : Sp × Bool) : Int × Sp := if p.2 then (0, p.1) else (9, ⟨0, 0⟩)
def litTy (k : Int) : Sp := if k = 2 then ⟨0, 2⟩ else if k = 3 then ⟨0, 3⟩ else if k = 4 then ⟨0, 4⟩ else ⟨0, 1⟩
def nameF : Option Sp → Int × Sp
  | some a => (0, a)
  | none => (7, ⟨0, 0⟩)
def callF (f : Option (List Int × Tl)) (n : Nat) (r : Int × List Sp) : Int × Sp :=
  match f with
  | none => (7, ⟨0, 0⟩)
  | some q => if n ≠ q.1.length then (5, ⟨0, 0⟩) else if r.1 ≠ 0 then (r.1, ⟨0, 0⟩) else orW (ofF q.1 q.2 r.2)
def nodeT (k : Int) (r : Int × List Sp) : Int × Sp := if r.1 ≠ 0 then (r.1, ⟨0, 0⟩) else orW (ofNodeF k r.2)
def lastF (k : Int) (q : Int × Sp) : Int × Sp := if q.1 ≠ 0 then (q.1, ⟨0, 0⟩) else if k = 20 then (0, q.2.listed) else orW (⟨0, 2⟩, q.2.mayB 2)
/-- names and their types -/
abbrev Ev := ByteArray → Option Sp
def Ev.upd (E : Ev) (s : ByteArray) (a : Option Sp) : Ev := fun x => if x = s then a else E x
theorem Ev.back (E : Ev) (s : ByteArray) (a : Option Sp) : (E.upd s a).upd s (E s) = E := by
  funext x
  unfold Ev.upd
  split
  · rename_i h; rw [h]
  · rfl

mutual
/-- an expression's type, or what is wrong -/
def tyF : XT → Ev → Int × Sp
  | .mk k v s ks, E =>
    if k = 1 then (0, litTy v.kind)
    else if k = 2 then nameF (E s)
    else if k = 18 then callF (fnIn fnTab s.data.toList) ks.length (tyL ks E)
    else if k = 20 ∨ k = 21 ∨ k = 22 then tyE k s ks E
    else nodeT k (tyL ks E)
def tyL : List XT → Ev → Int × List Sp
  | [], _ => (0, [])
  | x :: xs, E => if (tyF x E).1 ≠ 0 then ((tyF x E).1, []) else if (tyL xs E).1 ≠ 0 then ((tyL xs E).1, []) else (0, (tyF x E).2 :: (tyL xs E).2)
def tyE (k : Int) (s : ByteArray) : List XT → Ev → Int × Sp
  | [], _ => (0, ⟨0, 0⟩)
  | x :: xs, E => if (tyF x E).1 ≠ 0 then ((tyF x E).1, ⟨0, 0⟩) else if (tyF x E).2.mayB 5 = false then (9, ⟨0, 0⟩) else tyE2 k xs (E.upd s (some (tyF x E).2.elem))
def tyE2 (k : Int) : List XT → Ev → Int × Sp
  | [], _ => (0, ⟨0, 0⟩)
  | y :: _, E => lastF k (tyF y E)
end

/-- who knows of more names is not told otherwise -/
def Ev.le (E F : Ev) : Prop := ∀ s a, E s = some a → F s = some a
theorem Ev.le.upd {E F : Ev} (h : E.le F) (s : ByteArray) (a : Option Sp) : (E.upd s a).le (F.upd s a) := by
  intro x b
  unfold Ev.upd
  split
  · exact id
  · exact h x b
mutual
theorem tyF_le : ∀ (x : XT) (E F : Ev), E.le F → (tyF x E).1 = 0 → tyF x F = tyF x E
  | .mk k v s ks, E, F, hl, h => by
    rw [tyF] at h
    rw [tyF, tyF]
    split
    · rfl
    rename_i h1
    rw [if_neg h1] at h
    split
    · rename_i h2
      rw [if_pos h2] at h
      cases he : E s with
      | none => rw [he] at h; exact absurd h (by decide : ¬ (7 : Int) = 0)
      | some a => rw [hl s a he]
    rename_i h2
    rw [if_neg h2] at h
    split
    · rename_i h3
      rw [if_pos h3] at h
      unfold callF at *
      cases hf : fnIn fnTab s.data.toList with
      | none => rfl
      | some q =>
        rw [hf] at h
        simp only at h ⊢
        split
        · rfl
        rename_i hn
        rw [if_neg hn] at h
        by_cases hr : (tyL ks E).1 = 0
        · rw [tyL_le ks E F hl hr]
        · rw [if_pos hr] at h
          exact absurd h hr
    rename_i h3
    rw [if_neg h3] at h
    split
    · rename_i h4
      rw [if_pos h4] at h
      exact tyE_le k s ks E F hl h
    · rename_i h4
      rw [if_neg h4] at h
      unfold nodeT at *
      by_cases hr : (tyL ks E).1 = 0
      · rw [tyL_le ks E F hl hr]
      · rw [if_pos hr] at h
        exact absurd h hr
theorem tyL_le : ∀ (ks : List XT) (E F : Ev), E.le F → (tyL ks E).1 = 0 → tyL ks F = tyL ks E
  | [], E, F, hl, h => by rw [tyL, tyL]
  | x :: xs, E, F, hl, h => by
    rw [tyL] at h
    by_cases h1 : (tyF x E).1 = 0
    · rw [if_neg (by simp [h1])] at h
      by_cases h2 : (tyL xs E).1 = 0
      · rw [tyL, tyL, tyF_le x E F hl h1, tyL_le xs E F hl h2]
      · rw [if_pos h2] at h; exact absurd h h2
    · rw [if_pos h1] at h; exact absurd h h1
theorem tyE_le : ∀ (k : Int) (s : ByteArray) (ks : List XT) (E F : Ev), E.le F → (tyE k s ks E).1 = 0 → tyE k s ks F = tyE k s ks E
  | k, s, [], E, F, hl, h => by rw [tyE, tyE]
  | k, s, x :: xs, E, F, hl, h => by
    rw [tyE] at h
    by_cases h1 : (tyF x E).1 = 0
    · rw [if_neg (by simp [h1])] at h
      have hn : ¬ (tyF x E).1 ≠ 0 := fun q => q h1
      rw [tyE, tyE, tyF_le x E F hl h1, if_neg hn, if_neg hn]
      by_cases h2 : (tyF x E).2.mayB 5 = false
      · rw [if_pos h2, if_pos h2]
      · rw [if_neg h2] at h
        rw [if_neg h2, if_neg h2]
        exact tyE2_le k xs _ _ (hl.upd _ _) h
    · rw [if_pos h1] at h; exact absurd h h1
theorem tyE2_le : ∀ (k : Int) (ks : List XT) (E F : Ev), E.le F → (tyE2 k ks E).1 = 0 → tyE2 k ks F = tyE2 k ks E
  | k, [], E, F, hl, h => by rw [tyE2, tyE2]
  | k, y :: ys, E, F, hl, h => by
    rw [tyE2] at h
    rw [tyE2, tyE2]
    by_cases h1 : (tyF y E).1 = 0
    · rw [tyF_le y E F hl h1]
    · unfold lastF at h
      rw [if_pos h1] at h
      exact absurd h h1
end

/-- how many lists are around what names stand for -/
def Ev.bd (E : Ev) (M : Nat) : Prop := ∀ s a, E s = some a → a.n ≤ M
theorem Ev.bd.upd {E : Ev} {M : Nat} (h : E.bd M) (s : ByteArray) (a : Option Sp) (ha : ∀ b, a = some b → b.n ≤ M) : (E.upd s a).bd M := by
  intro x b
  unfold Ev.upd
  split
  · exact ha b
  · exact h x b
theorem Ev.bd.mono {E : Ev} {M N : Nat} (h : E.bd M) (l : M ≤ N) : E.bd N := fun s a e => Nat.le_trans (h s a e) l
theorem join_bd {a b : Sp} {N : Nat} (ha : a.n ≤ N) (hb : b.n ≤ N) : (a.join b).n ≤ N := by
  unfold Sp.join
  split
  · exact hb
  · split
    · exact ha
    · show min a.n b.n ≤ N
      omega
theorem joinA_bd {N : Nat} : ∀ (l : List Sp) (a : Sp), a.n ≤ N → (∀ b ∈ l, b.n ≤ N) → (joinA a l).n ≤ N
  | [], _, ha, _ => ha
  | b :: l, _, ha, h => joinA_bd l _ (join_bd ha (h b (List.mem_cons_self ..))) (fun c hc => h c (List.mem_cons_of_mem _ hc))
theorem elem_bd (a : Sp) : a.elem.n ≤ a.n := by
  unfold Sp.elem
  split
  · exact Nat.le_refl _
  · show a.n - 1 ≤ a.n
    omega
theorem getD_bd {l : List Sp} {N : Nat} (h : ∀ a ∈ l, a.n ≤ N) (i : Nat) : (l.getD i ⟨0, 0⟩).n ≤ N := by
  rw [List.getD_eq_getElem?_getD]
  cases hi : l[i]? with
  | none => simp
  | some a => simpa using h a (List.mem_of_getElem? hi)
theorem addF_bd (a b : Sp) (N : Nat) : (addF a b).1.n ≤ N := by
  unfold addF
  split
  · simp
  · split <;> simp
theorem ofNodeF_bd {l : List Sp} {N : Nat} (h : ∀ a ∈ l, a.n ≤ N) (k : Int) : (ofNodeF k l).1.n ≤ N + 1 := by
  unfold ofNodeF
  split
  · exact addF_bd _ _ _
  split
  · simp
  split
  · simp
  split
  · simp
  split
  · simp
  split
  · simp
  split
  · exact Nat.le_trans (join_bd (getD_bd h 1) (getD_bd h 2)) (Nat.le_succ _)
  split
  · show (joinL l).n + 1 ≤ N + 1
    have := joinA_bd l ⟨0, 1⟩ (Nat.zero_le N) h
    unfold joinL
    omega
  · simp
theorem tellF_bd {l : List Sp} {N : Nat} (h : ∀ a ∈ l, a.n ≤ N) (t : Tl) : (tellF t l).1.n ≤ N + 1 := by
  cases t with
  | always k => simp [tellF]
  | elem => exact Nat.le_trans (elem_bd _) (Nat.le_trans (getD_bd h 0) (Nat.le_succ _))
  | elems =>
    show (joinL (l.map Sp.elem)).n + 1 ≤ N + 1
    have := joinA_bd (l.map Sp.elem) ⟨0, 1⟩ (Nat.zero_le N) (fun b hb => by
      obtain ⟨a, ha, rfl⟩ := List.mem_map.1 hb
      exact Nat.le_trans (elem_bd a) (h a ha))
    unfold joinL
    omega
  | sum => simp [tellF]
  | between => simp [tellF]
theorem orW_bd {p : Sp × Bool} {N : Nat} (h : p.1.n ≤ N) : (orW p).2.n ≤ N := by
  unfold orW
  split
  · exact h
  · simp
theorem ofF_bd {l : List Sp} {N : Nat} (h : ∀ a ∈ l, a.n ≤ N) (tk : List Int) (t : Tl) : (ofF tk t l).1.n ≤ N + 1 := by
  unfold ofF
  split
  · exact tellF_bd h t
  · simp
theorem callF_bd {r : Int × List Sp} {N : Nat} (h : ∀ a ∈ r.2, a.n ≤ N) (f : Option (List Int × Tl)) (n : Nat) : (callF f n r).2.n ≤ N + 1 := by
  unfold callF
  cases f with
  | none => simp
  | some q =>
    simp only
    split
    · simp
    · split
      · simp
      · exact orW_bd (ofF_bd h _ _)
theorem nodeT_bd {r : Int × List Sp} {N : Nat} (h : ∀ a ∈ r.2, a.n ≤ N) (k : Int) : (nodeT k r).2.n ≤ N + 1 := by
  unfold nodeT
  split
  · simp
  · exact orW_bd (ofNodeF_bd h k)
theorem lastF_bd {q : Int × Sp} {N : Nat} (h : q.2.n ≤ N) (k : Int) : (lastF k q).2.n ≤ N + 1 := by
  unfold lastF
  split
  · simp
  · split
    · show q.2.n + 1 ≤ N + 1
      omega
    · exact orW_bd (by simp)

mutual
theorem tyF_bd : ∀ (x : XT) (E : Ev) (M : Nat), E.bd M → (tyF x E).2.n ≤ M + x.size
  | .mk k v s ks, E, M, hE => by
    rw [tyF, XT.size]
    split
    · show (litTy v.kind).n ≤ _
      unfold litTy
      split
      · simp
      split
      · simp
      split <;> simp
    split
    · cases he : E s with
      | none => simp [nameF]
      | some a => have := hE s a he; show a.n ≤ _; omega
    have hL := tyL_bd ks E M hE
    split
    · have := callF_bd hL (fnIn fnTab s.data.toList) ks.length
      omega
    split
    · have := tyE_bd k s ks E M hE
      omega
    · have := nodeT_bd hL k
      omega
theorem tyL_bd : ∀ (ks : List XT) (E : Ev) (M : Nat), E.bd M → ∀ a ∈ (tyL ks E).2, a.n ≤ M + sizeL ks
  | [], E, M, _ => by rw [tyL]; simp
  | x :: xs, E, M, hE => by
    rw [tyL, sizeL]
    split
    · simp
    split
    · simp
    · intro a ha
      rcases List.mem_cons.1 ha with rfl | ha
      · have := tyF_bd x E M hE; omega
      · have := tyL_bd xs E M hE a ha; omega
theorem tyE_bd : ∀ (k : Int) (s : ByteArray) (ks : List XT) (E : Ev) (M : Nat), E.bd M → (tyE k s ks E).2.n ≤ M + sizeL ks + 1
  | k, s, [], E, M, _ => by rw [tyE]; simp
  | k, s, x :: xs, E, M, hE => by
    rw [tyE, sizeL]
    have hx := tyF_bd x E M hE
    split
    · simp
    split
    · simp
    · have := tyE2_bd k xs (E.upd s (some (tyF x E).2.elem)) (M + x.size) ((hE.mono (by omega)).upd _ _ (fun b hb => by cases hb; exact Nat.le_trans (elem_bd _) hx))
      omega
theorem tyE2_bd : ∀ (k : Int) (ks : List XT) (E : Ev) (M : Nat), E.bd M → (tyE2 k ks E).2.n ≤ M + sizeL ks + 1
  | k, [], E, M, _ => by rw [tyE2]; simp
  | k, y :: ys, E, M, hE => by
    rw [tyE2, sizeL]
    have := lastF_bd (tyF_bd y E M hE) k
    omega
end
theorem tyL_len : ∀ (ks : List XT) (E : Ev), (tyL ks E).1 = 0 → (tyL ks E).2.length = ks.length
  | [], E, _ => by rw [tyL]; rfl
  | x :: xs, E, h => by
    rw [tyL] at h ⊢
    by_cases h1 : (tyF x E).1 ≠ 0
    · rw [if_pos h1] at h; exact absurd h h1
    · rw [if_neg h1] at h ⊢
      by_cases h2 : (tyL xs E).1 ≠ 0
      · rw [if_pos h2] at h; exact absurd h h2
      · rw [if_neg h2]
        simp [tyL_len xs E (by simpa using h2)]

/-- names by their types, the later one hides the one ahead -/
def envA (E : Ev) : List (ByteArray × Sp) → Ev
  | [] => E
  | v :: vs => envA (E.upd v.1 (some v.2)) vs
def envOf (l : List (ByteArray × Sp)) : Ev := envA (fun _ => none) l
theorem envA_bd {M : Nat} : ∀ (l : List (ByteArray × Sp)) (E : Ev), E.bd M → (∀ v ∈ l, v.2.n ≤ M) → (envA E l).bd M
  | [], _, h, _ => h
  | v :: vs, _, h, hl => envA_bd vs _ (h.upd _ _ (fun b hb => by cases hb; exact hl v (List.mem_cons_self ..))) (fun u hu => hl u (List.mem_cons_of_mem _ hu))
end Go.Proofs.YtnegjbkbfgkkjaaGreatDoor

/- A frame behind a region that draws: what was, with what came up put in; runs of what reads a value. -/
namespace Go.Proofs.YtnegjbkbfgkkjaaGreatDoor
open Go.RowKit

theorem frame_name {P : Program} {code : Code} {Q : Exit → Act → World → Prop} {a : Act} {w : World} (k : ∀ a0, a0 = a → Code.wp P code Q a0 w) : Code.wp P code Q a w := k a rfl

section
variable {a : Act} {w : World} {d : Option Nat} {t : TypeId} {p : String} {af : Array Edge} {g : Option (Nat × Bool)}
end
end Go.Proofs.YtnegjbkbfgkkjaaGreatDoor
