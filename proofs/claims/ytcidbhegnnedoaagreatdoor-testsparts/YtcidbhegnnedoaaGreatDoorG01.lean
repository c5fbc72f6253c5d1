/- Plain facts on whole numbers that the walks over package dec want: no Go in sight. -/
import Derived.Test.YtcidbhegnnedoaaGreatDoorProg
import Derived.WalkKit
import Derived.WalkSpells
import Derived.WalkLawsBesides
import Derived.Deep.QuietTactic
import Derived.BigQuiet
import Derived.Outline
import Derived.Deep.RegionWith
import Derived.Deep.Cut
import Derived.Deep.CutRange
import Derived.Deep.LoopGhost
namespace Dm

def bnd : Int := 999999999999999999
def wrongN (c e : Int) : Int := if c < -999999999999999999 ∨ 999999999999999999 < c ∨ e < -40 ∨ 40 < e then 3 else if c.tmod 10 = 0 ∧ ¬ (c = 0 ∧ e = 0) then 2 else 0

def sgn (x : Int) : Int := if x < 0 then -1 else if x = 0 then 0 else 1

def wrong2 (c1 x1 c2 x2 : Int) : Int := if wrongN c1 x1 = 0 then wrongN c2 x2 else wrongN c1 x1
theorem wrong2_ok {c1 x1 : Int} (h : wrongN c1 x1 = 0) (c2 x2 : Int) : wrong2 c1 x1 c2 x2 = wrongN c2 x2 := by unfold wrong2; rw [if_pos h]
theorem wrong2_no {c1 x1 : Int} (h : ¬ wrongN c1 x1 = 0) (c2 x2 : Int) : wrong2 c1 x1 c2 x2 = wrongN c1 x1 := by unfold wrong2; rw [if_neg h]

def okB (c e : Int) : Bool := decide (wrongN c e = 0)

def tens (n : Int) : Nat → Int
  | 0 => n
  | k + 1 => tens n k * 10
theorem tens_eq (n : Int) (k : Nat) : tens n k = n * 10 ^ k := by
  induction k with
  | zero => simp [tens]
  | succ k ih => rw [tens, ih, Int.pow_succ, Int.mul_assoc]
theorem tens_pos {n : Int} (h : 1 ≤ n) (k : Nat) : 1 ≤ tens n k := by
  induction k with
  | zero => exact h
  | succ k ih => rw [tens]; omega
theorem tens_mono {n : Int} (h : 1 ≤ n) {j k : Nat} (hjk : j ≤ k) : tens n j ≤ tens n k := by
  induction hjk with
  | refl => exact Int.le_refl _
  | step _ ih => have := tens_pos h; rw [tens]; rename_i m _; have := this m; omega
theorem tens_1_17 : tens 1 17 = 100000000000000000 := by decide
theorem tens_le {n : Int} (h : 1 ≤ n) (k : Nat) : tens 1 k ≤ tens n k := by
  induction k with
  | zero => exact h
  | succ k ih => rw [tens, tens]; omega
theorem tens_lt {n m : Int} {k : Nat} (e : m = tens n k) (h : 1 ≤ n) (hl : m < 100000000000000000) : k < 17 := by
  rcases Nat.lt_or_ge k 17 with g | g
  · exact g
  · have a := tens_mono (n := 1) (by omega) g
    have b := tens_le h k
    rw [tens_1_17] at a
    omega

/-- a number as a whole multiple of 10^-40 -/
def V (c e : Int) : Int := tens c (e + 40).toNat

theorem tens_add (n : Int) (j k : Nat) : tens (tens n j) k = tens n (j + k) := by
  rw [tens_eq, tens_eq, tens_eq, Int.mul_assoc, Int.pow_add]
theorem tens_mul (a b : Int) (k : Nat) : tens (a * b) k = a * tens b k := by
  rw [tens_eq, tens_eq, Int.mul_assoc]
theorem tens_sub (a b : Int) (k : Nat) : tens (a - b) k = tens a k - tens b k := by
  rw [tens_eq, tens_eq, tens_eq, Int.sub_mul]
theorem tens_lt_tens {a b : Int} (h : a < b) (k : Nat) : tens a k < tens b k := by
  induction k with
  | zero => exact h
  | succ k ih => rw [tens, tens]; omega
theorem tens_le_tens {a b : Int} (h : a ≤ b) (k : Nat) : tens a k ≤ tens b k := by
  induction k with
  | zero => exact h
  | succ k ih => rw [tens, tens]; omega
theorem sgn_tens {a b : Int} (k : Nat) : sgn (tens a k - tens b k) = sgn (a - b) := by
  have h1 := @tens_lt_tens a b
  have h2 := @tens_lt_tens b a
  unfold sgn
  rcases Int.lt_trichotomy a b with h | h | h
  · have := h1 h k; rw [if_pos (by omega), if_pos (by omega)]
  · subst h; simp
  · have := h2 h k; rw [if_neg (by omega), if_neg (by omega), if_neg (by omega), if_neg (by omega)]
theorem sgn_lt {a : Int} (h : a < 0) : sgn a = -1 := by unfold sgn; rw [if_pos h]
theorem sgn_gt {a : Int} (h : 0 < a) : sgn a = 1 := by unfold sgn; rw [if_neg (by omega), if_neg (by omega)]

/-- the digits stretched to eighteen: what stands at 10^-57 -/
theorem V_stretch {n m x : Int} {k : Nat} (hx : -40 ≤ x) (e : m = tens n k) (hk : k ≤ 17) : tens (V n x) 17 = tens m (x - k + 57).toNat := by
  unfold V
  rw [e, tens_add, tens_add]
  congr 1
  omega
theorem cmp_sizes {n1 n2 m1 m2 x1 x2 : Int} {k1 k2 : Nat} (hx1 : -40 ≤ x1) (hx2 : -40 ≤ x2) (e1 : m1 = tens n1 k1) (e2 : m2 = tens n2 k2)
    (l1 : 100000000000000000 ≤ m1) (u1 : m1 < 1000000000000000000) (l2 : 100000000000000000 ≤ m2) (u2 : m2 < 1000000000000000000) (hk1 : k1 ≤ 17) (hk2 : k2 ≤ 17) :
    (x1 - (k1 : Int) = x2 - (k2 : Int) → sgn (V n1 x1 - V n2 x2) = sgn (m1 - m2)) ∧ (¬ x1 - (k1 : Int) = x2 - (k2 : Int) → sgn (V n1 x1 - V n2 x2) = sgn (x1 - k1 - (x2 - k2))) := by
  rw [← sgn_tens 17, V_stretch hx1 e1 hk1, V_stretch hx2 e2 hk2]
  have key : ∀ {a b : Int} {i j : Nat}, 100000000000000000 ≤ a → b < 1000000000000000000 → j < i → tens b j < tens a i := by
    intro a b i j ha hb hij
    have h1 : tens b j < tens 1000000000000000000 j := tens_lt_tens hb j
    have h2 : tens 1000000000000000000 j = tens 100000000000000000 (1 + j) := by rw [← tens_add]; rfl
    have h3 : tens 100000000000000000 (1 + j) ≤ tens 100000000000000000 i := tens_mono (by omega) (by omega)
    have h4 : tens 100000000000000000 i ≤ tens a i := tens_le_tens ha i
    omega
  refine ⟨fun h => ?_, fun h => ?_⟩
  · rw [h, sgn_tens]
  · rcases Int.lt_trichotomy (x1 - (k1 : Int)) (x2 - (k2 : Int)) with g | g | g
    · have := key (a := m2) (b := m1) (i := (x2 - k2 + 57).toNat) (j := (x1 - k1 + 57).toNat) l2 u1 (by omega)
      rw [sgn_lt (by omega), sgn_lt (by omega)]
    · exact absurd g h
    · have := key (a := m1) (b := m2) (i := (x1 - k1 + 57).toNat) (j := (x2 - k2 + 57).toNat) l1 u2 (by omega)
      rw [sgn_gt (by omega), sgn_gt (by omega)]

theorem wrong_ok {c x : Int} (h : wrongN c x = 0) : -1000000000000000000 < c ∧ c < 1000000000000000000 ∧ -40 ≤ x ∧ x ≤ 40 ∧ (c.tmod 10 = 0 → c = 0 ∧ x = 0) := by
  unfold wrongN at h
  split at h
  · omega
  · split at h
    · omega
    · rename_i h1 h2
      refine ⟨by omega, by omega, by omega, by omega, fun g => ?_⟩
      rcases Classical.em (c = 0 ∧ x = 0) with q | q
      · exact q
      · exact absurd ⟨g, q⟩ h2
theorem tens_neg (n : Int) (k : Nat) : tens (-n) k = - tens n k := by
  rw [tens_eq, tens_eq, Int.neg_mul]
theorem tens_zero (k : Nat) : tens 0 k = 0 := by
  induction k with
  | zero => rfl
  | succ k ih => rw [tens, ih]; rfl
theorem V_pos {c : Int} (h : 0 < c) (x : Int) : 0 < V c x := by
  have := tens_pos (n := c) (by omega) (x + 40).toNat
  unfold V; omega
theorem V_neg {c : Int} (h : c < 0) (x : Int) : V c x < 0 := by
  have := tens_pos (n := -c) (by omega) (x + 40).toNat
  rw [tens_neg] at this
  unfold V; omega
theorem V_zero (x : Int) : V 0 x = 0 := tens_zero _
theorem V_opp (c x : Int) : V (-c) x = - V c x := tens_neg _ _
theorem sgn_pos {a : Int} (h : 0 < a) : sgn a = 1 := sgn_gt h
theorem sgn_zero : sgn 0 = 0 := rfl
theorem sgn_opp (a : Int) : sgn (-a) = - sgn a := by
  unfold sgn; (repeat' split) <;> omega
theorem sgn_bd (a : Int) : -1 ≤ sgn a ∧ sgn a ≤ 1 := by
  unfold sgn; (repeat' split) <;> omega

theorem sgn_cases (c : Int) : (c < 0 ∧ sgn c = -1) ∨ (c = 0 ∧ sgn c = 0) ∨ (0 < c ∧ sgn c = 1) := by
  unfold sgn; (repeat' split) <;> omega
theorem cmp_diff {c1 c2 : Int} (x1 x2 : Int) (h : sgn c1 ≠ sgn c2) : sgn (V c1 x1 - V c2 x2) = sgn (sgn c1 - sgn c2) := by
  have hv : ∀ {c : Int} (x : Int), (c < 0 → V c x < 0) ∧ (c = 0 → V c x = 0) ∧ (0 < c → 0 < V c x) := fun x => ⟨fun h => V_neg h x, fun h => by rw [h]; exact V_zero x, fun h => V_pos h x⟩
  have v1 := @hv c1 x1
  have v2 := @hv c2 x2
  rcases sgn_cases c1 with ⟨a, b⟩ | ⟨a, b⟩ | ⟨a, b⟩ <;> rcases sgn_cases c2 with ⟨c, d⟩ | ⟨c, d⟩ | ⟨c, d⟩ <;> rw [b, d] at h ⊢ <;> first
    | exact absurd rfl h
    | (have := v1.1 a; have := v2.2.1 c; rw [sgn_lt (by omega)]; rfl)
    | (have := v1.1 a; have := v2.2.2 c; rw [sgn_lt (by omega)]; rfl)
    | (have := v1.2.1 a; have := v2.1 c; rw [sgn_gt (by omega)]; rfl)
    | (have := v1.2.1 a; have := v2.2.2 c; rw [sgn_lt (by omega)]; rfl)
    | (have := v1.2.2 a; have := v2.1 c; rw [sgn_gt (by omega)]; rfl)
    | (have := v1.2.2 a; have := v2.2.1 c; rw [sgn_gt (by omega)]; rfl)
theorem cmp_zero {c1 c2 : Int} (x1 x2 : Int) (h : sgn c1 = sgn c2) (h0 : sgn c1 = 0) : sgn (V c1 x1 - V c2 x2) = 0 := by
  have a : c1 = 0 := by rcases sgn_cases c1 with ⟨a, b⟩ | ⟨a, b⟩ | ⟨a, b⟩ <;> omega
  have b : c2 = 0 := by rcases sgn_cases c2 with ⟨a, b⟩ | ⟨a, b⟩ | ⟨a, b⟩ <;> omega
  rw [a, b, V_zero, V_zero]; rfl
theorem cmp_same {c1 c2 : Int} (x1 x2 : Int) (h : sgn c1 = sgn c2) (h0 : sgn c1 ≠ 0) : 1 ≤ (c1.natAbs : Int) ∧ 1 ≤ (c2.natAbs : Int) ∧ sgn (V c1 x1 - V c2 x2) = sgn c1 * sgn (V (c1.natAbs : Int) x1 - V (c2.natAbs : Int) x2) := by
  rcases sgn_cases c1 with ⟨a, b⟩ | ⟨a, b⟩ | ⟨a, b⟩
  · have c : c2 < 0 := by rcases sgn_cases c2 with ⟨a, b⟩ | ⟨a, b⟩ | ⟨a, b⟩ <;> omega
    refine ⟨by omega, by omega, ?_⟩
    rw [b, show (c1.natAbs : Int) = -c1 by omega, show (c2.natAbs : Int) = -c2 by omega, V_opp, V_opp, show -V c1 x1 - -V c2 x2 = -(V c1 x1 - V c2 x2) by omega, sgn_opp]
    omega
  · exact absurd b h0
  · have c : 0 < c2 := by rcases sgn_cases c2 with ⟨a, b⟩ | ⟨a, b⟩ | ⟨a, b⟩ <;> omega
    refine ⟨by omega, by omega, ?_⟩
    rw [b, show (c1.natAbs : Int) = c1 by omega, show (c2.natAbs : Int) = c2 by omega]
    omega

end Dm

/- Walks: Wrong. -/
namespace Go.Proofs.YtcidbhegnnedoaaGreatDoor
open Go.RowKit

theorem hide {p : Prop} (h : p) : Hid p := h
theorem unhide {p : Prop} (h : Hid p) : p := h
theorem ret_int {k : IntKind} {a b : Int} (h : a = b) : Ending.returned (.int k a) = .returned (.int k b) := by rw [h]

set_option maxHeartbeats 400000 in
theorem wrong_any (c x : Int) (w : World) :
    Calls Tryz.prog 28 #[.agg #[.int .i64 c, .int .i64 x]] w fun e w' => e = .returned (.int .i64 (Dm.wrongN c x)) ∧ Below w.heap.size w w' := by
  go_enter Tryz.func28, Tryz.ntmps28
  go_wp2
  all_goals
    go_ret
    refine ⟨ret_int ?_, (Below.refl _ _).alloc (Nat.le_refl _) _⟩
    unfold Dm.wrongN
    (repeat' split) <;> first | rfl | (exfalso; omega) | (simp_all; done)
end Go.Proofs.YtcidbhegnnedoaaGreatDoor

/- Walks: wrongOf, size, cmp.Compare, stretched, compareSizes, Cmp. -/
namespace Go.Proofs.YtcidbhegnnedoaaGreatDoor
open Go.RowKit

theorem bcell {W w1 : World} (hb : Below W.heap.size W w1) : (∀ b o, b < W.heap.size → w1.cell? ⟨b, o, none⟩ = W.cell? ⟨b, o, none⟩) ∧ (∀ b o, b < W.heap.size → w1.frozen? ⟨b, o, none⟩ = W.frozen? ⟨b, o, none⟩) :=
  ⟨fun b o h => hb.cell (p := ⟨b, o, none⟩) h, fun b o h => hb.frozen (p := ⟨b, o, none⟩) h⟩

set_option maxHeartbeats 400000 in
theorem wrongOf_any (c1 x1 c2 x2 : Int) (w : World) :
    Calls Tryz.prog 74 #[.agg #[.int .i64 c1, .int .i64 x1], .agg #[.int .i64 c2, .int .i64 x2]] w fun e w' => e = .returned (.int .i64 (Dm.wrong2 c1 x1 c2 x2)) ∧ Below w.heap.size w w' := by
  go_enter Tryz.func74, Tryz.ntmps74
  go_wp2_with fail
  refine (wrong_any c1 x1 _).mono ?_
  rintro e w1 ⟨rfl, hb⟩
  obtain ⟨hc, hf⟩ := bcell hb
  have hz : w.heap.size + 2 ≤ w1.heap.size := by have := hb.size; simp at this; omega
  have hb0 : Below w.heap.size w w1 := (((Below.refl _ _).alloc (Nat.le_refl _) _).alloc (by simp) _).trans (hb.mono (by simp; omega))
  by_cases h : Dm.wrongN c1 x1 = 0
  · have H := hide (Dm.wrong2_ok h c2 x2)
    have h' : (Dm.wrongN c1 x1 != 0) = false := by simp [h]
    clear h
    go_wp2_with fail
    refine (wrong_any c2 x2 _).mono ?_
    rintro e w2 ⟨rfl, hb2⟩
    go_wp2
    go_ret
    exact ⟨ret_int (unhide H).symm, hb0.trans (hb2.mono (by omega))⟩
  · have H := hide (Dm.wrong2_no h c2 x2)
    have h' : (Dm.wrongN c1 x1 != 0) = true := by simp [h]
    clear h
    go_wp2
    go_ret
    exact ⟨ret_int (unhide H).symm, hb0⟩

set_option maxHeartbeats 400000 in
theorem size_any (c x : Int) (w : World) (h1 : -1000000000000000000 < c) (h2 : c < 1000000000000000000) :
    Calls Tryz.prog 107 #[.agg #[.int .i64 c, .int .i64 x]] w fun e w' => e = .returned (.int .u64 (c.natAbs : Int)) ∧ Below w.heap.size w w' := by
  by_cases h : c < 0
  all_goals
    go_enter Tryz.func107, Tryz.ntmps107
    go_wp2
    go_ret
    refine ⟨ret_int ?_, (Below.refl _ _).alloc (Nat.le_refl _) _⟩
    omega

set_option maxHeartbeats 400000 in
theorem cmpI64_any (a b : Int) (w : World) :
    Calls Tryz.prog 75 #[.int .i64 a, .int .i64 b] w fun e w' => e = .returned (.int .i64 (Dm.sgn (a - b))) ∧ w' = w := by
  go_enter Tryz.func75, Tryz.ntmps75
  go_wp2
  all_goals
    go_ret
    refine ⟨ret_int ?_, rfl⟩
    unfold Dm.sgn
    (repeat' split) <;> omega

set_option maxHeartbeats 400000 in
theorem cmpInt_any (a b : Int) (w : World) :
    Calls Tryz.prog 76 #[.int .i64 a, .int .i64 b] w fun e w' => e = .returned (.int .i64 (Dm.sgn (a - b))) ∧ w' = w := by
  go_enter Tryz.func76, Tryz.ntmps76
  go_wp2
  all_goals
    go_ret
    refine ⟨ret_int ?_, rfl⟩
    unfold Dm.sgn
    (repeat' split) <;> omega

set_option maxHeartbeats 400000 in
theorem cmpU64_any (a b : Int) (w : World) :
    Calls Tryz.prog 98 #[.int .u64 a, .int .u64 b] w fun e w' => e = .returned (.int .i64 (Dm.sgn (a - b))) ∧ w' = w := by
  go_enter Tryz.func98, Tryz.ntmps98
  go_wp2
  all_goals
    go_ret
    refine ⟨ret_int ?_, rfl⟩
    unfold Dm.sgn
    (repeat' split) <;> omega
end Go.Proofs.YtcidbhegnnedoaaGreatDoor

/- Walks: stretched, compareSizes, Cmp. -/
namespace Go.Proofs.YtcidbhegnnedoaaGreatDoor
open Go.RowKit

set_option maxHeartbeats 400000 in
theorem stretched_any (c x : Int) (w : World) (h1 : -1000000000000000000 < c) (h2 : c < 1000000000000000000) (h0 : 1 ≤ (c.natAbs : Int)) (hx1 : -40 ≤ x) (hx2 : x ≤ 40) :
    Calls Tryz.prog 97 #[.agg #[.int .i64 c, .int .i64 x]] w fun e w' => ∃ (m : Int) (k : Nat), e = .returned (.tuple #[.int .u64 m, .int .i64 (x - k)]) ∧ m = Dm.tens (c.natAbs : Int) k ∧ 100000000000000000 ≤ m ∧ m < 1000000000000000000 ∧ k ≤ 17 ∧ Below w.heap.size w w' := by
  have h9 : (c.natAbs : Int) < 1000000000000000000 := by omega
  go_enter Tryz.func97, Tryz.ntmps97
  go_upto_region 1 with fail
  go_cut [4, 5] from 6 (fun a b wc => a = .int .u64 (c.natAbs : Int) ∧ b = .int .i64 x ∧ Below w.heap.size w wc)
  case first =>
    go_region_with (go_at_call 107; refine (size_any c x _ h1 h2).mono ?_; rintro e w1 ⟨rfl, hb⟩; obtain ⟨hc, hf⟩ := bcell hb)
    all_goals
      go_wp2_with fail
      go_meet
      case rel => exact ⟨rfl, rfl, (((Below.refl _ _).alloc (Nat.le_refl _) _).drew).trans (hb.mono (by simp))⟩
  case rest =>
    obtain ⟨rfl, rfl, hbel⟩ := hcut
    go_wp2
    go_loop [4, 5] (fun a b => ∃ (m : Int) (k : Nat), a = .int .u64 m ∧ b = .int .i64 (x - k) ∧ Hid (m = Dm.tens (c.natAbs : Int) k) ∧ 1 ≤ m ∧ m < 1000000000000000000 ∧ k ≤ 17) (fun a _ => (1000000000000000000 - intOf a).toNat)
    case atStart => exact ⟨_, 0, rfl, by simp, hide rfl, h0, h9, by omega⟩
    case round =>
      obtain ⟨m, k, rfl, rfl, H, hm1, hm2, hk⟩ := hrel
      by_cases hlt : m < 100000000000000000
      · have hk' := Dm.tens_lt (unhide H) h0 hlt
        go_wp2
        go_round
        case rel => exact ⟨_, k + 1, rfl, by go_num, hide (by rw [unhide H]; rfl), by omega, by omega, by omega⟩
        case measure => simp [intOf]; omega
      · go_wp2
        go_ret2
        exact ⟨m, k, rfl, unhide H, by omega, hm2, hk, hbel⟩

set_option maxHeartbeats 400000 in
theorem compareSizes_any (c1 x1 c2 x2 : Int) (w : World) (a1 : -1000000000000000000 < c1) (a2 : c1 < 1000000000000000000) (a0 : 1 ≤ (c1.natAbs : Int)) (a3 : -40 ≤ x1) (a4 : x1 ≤ 40)
    (b1 : -1000000000000000000 < c2) (b2 : c2 < 1000000000000000000) (b0 : 1 ≤ (c2.natAbs : Int)) (b3 : -40 ≤ x2) (b4 : x2 ≤ 40) :
    Calls Tryz.prog 77 #[.agg #[.int .i64 c1, .int .i64 x1], .agg #[.int .i64 c2, .int .i64 x2]] w fun e w' => e = .returned (.int .i64 (Dm.sgn (Dm.V (c1.natAbs : Int) x1 - Dm.V (c2.natAbs : Int) x2))) ∧ Below w.heap.size w w' := by
  go_enter Tryz.func77, Tryz.ntmps77
  go_wp2_with fail
  refine (stretched_any c1 x1 _ a1 a2 a0 a3 a4).mono ?_
  rintro e w1 ⟨m1, k1, rfl, e1, l1, u1, t1, hb⟩
  obtain ⟨hc, hf⟩ := bcell hb
  have hz : w.heap.size + 2 ≤ w1.heap.size := by have := hb.size; simp at this; omega
  have hb0 : Below w.heap.size w w1 := (((Below.refl _ _).alloc (Nat.le_refl _) _).alloc (by simp) _).trans (hb.mono (by simp; omega))
  have E1 := hide e1
  clear e1
  go_wp2_with fail
  refine (stretched_any c2 x2 _ b1 b2 b0 b3 b4).mono ?_
  rintro e w2 ⟨m2, k2, rfl, e2, l2, u2, t2, hb2⟩
  have hb9 : Below w.heap.size w w2 := hb0.trans (hb2.mono (by omega))
  have E2 := hide e2
  clear e2 hc hf hz hb0
  have HV := hide (Dm.cmp_sizes a3 b3 (unhide E1) (unhide E2) l1 u1 l2 u2 t1 t2)
  by_cases h : x1 - (k1 : Int) = x2 - (k2 : Int)
  · have h' : (x1 - (k1 : Int) != x2 - (k2 : Int)) = false := by simp [h]
    have h2 := hide h
    clear h
    go_wp2_with fail
    refine (cmpU64_any m1 m2 _).mono ?_
    rintro e w3 ⟨rfl, rfl⟩
    go_wp2
    go_ret
    exact ⟨ret_int ((unhide HV).1 (unhide h2)).symm, hb9⟩
  · have h' : (x1 - (k1 : Int) != x2 - (k2 : Int)) = true := by simp [h]
    have h2 := hide h
    clear h
    go_wp2_with fail
    refine (cmpInt_any _ _ _).mono ?_
    rintro e w3 ⟨rfl, rfl⟩
    go_wp2
    go_ret
    exact ⟨ret_int ((unhide HV).2 (unhide h2)).symm, hb9⟩

end Go.Proofs.YtcidbhegnnedoaaGreatDoor

/- Walks: Cmp. -/
namespace Go.Proofs.YtcidbhegnnedoaaGreatDoor
open Go.RowKit

set_option maxHeartbeats 400000 in
theorem cmp_no (c1 x1 c2 x2 : Int) (w : World) (h : (Dm.wrong2 c1 x1 c2 x2 != 0) = true) :
    Calls Tryz.prog 58 #[.agg #[.int .i64 c1, .int .i64 x1], .agg #[.int .i64 c2, .int .i64 x2]] w fun e w' => e = .returned (.tuple #[.int .i64 0, .int .i64 (Dm.wrong2 c1 x1 c2 x2)]) ∧ Below w.heap.size w w' := by
  go_enter Tryz.func58, Tryz.ntmps58
  go_wp2_with fail
  refine (wrongOf_any c1 x1 c2 x2 _).mono ?_
  rintro e w1 ⟨rfl, hb⟩
  go_wp2
  go_ret2
  exact ⟨rfl, (((Below.refl _ _).alloc (Nat.le_refl _) _).alloc (by simp) _).trans (hb.mono (by simp; omega))⟩

/-- Cmp of two right numbers, out of what its callees come to. -/
theorem cmp_core (c1 x1 c2 x2 : Int) (w : World) (h : Dm.wrong2 c1 x1 c2 x2 = 0) (r : Int)
    (hd : Dm.sgn c1 ≠ Dm.sgn c2 → r = Dm.sgn (Dm.sgn c1 - Dm.sgn c2)) (hz : Dm.sgn c1 = Dm.sgn c2 → Dm.sgn c1 = 0 → r = 0)
    (hs : Dm.sgn c1 = Dm.sgn c2 → Dm.sgn c1 ≠ 0 → ∃ s, -1 ≤ s ∧ s ≤ 1 ∧ r = Dm.sgn c1 * s ∧ ∀ wx, Calls Tryz.prog 77 #[.agg #[.int .i64 c1, .int .i64 x1], .agg #[.int .i64 c2, .int .i64 x2]] wx fun e w' => e = .returned (.int .i64 s) ∧ Below wx.heap.size wx w') :
    Calls Tryz.prog 58 #[.agg #[.int .i64 c1, .int .i64 x1], .agg #[.int .i64 c2, .int .i64 x2]] w fun e w' => e = .returned (.tuple #[.int .i64 r, .int .i64 0]) ∧ Below w.heap.size w w' := by
  have hd' := hide hd
  have hz' := hide hz
  have hs' := hide hs
  clear hd hz hs
  have sb := Dm.sgn_bd c1
  go_enter Tryz.func58, Tryz.ntmps58
  go_wp2_with fail
  refine (wrongOf_any c1 x1 c2 x2 _).mono ?_
  rintro e w1 ⟨rfl, hb⟩
  obtain ⟨hc, hf⟩ := bcell hb
  have hz1 : w.heap.size + 2 ≤ w1.heap.size := by have := hb.size; simp at this; omega
  have hb0 : Below w.heap.size w w1 := (((Below.refl _ _).alloc (Nat.le_refl _) _).alloc (by simp) _).trans (hb.mono (by simp; omega))
  rw [h]
  clear h
  go_wp2_with fail
  go_quiet ((go_at_call 75; exact Calls.quiet_of_same (cmpI64_any _ _ _)))
  by_cases h12 : Dm.sgn c1 = Dm.sgn c2
  · have h12' : (Dm.sgn c1 != Dm.sgn c2) = false := by simp [h12]
    have e12 := hide h12
    clear h12
    by_cases h0 : Dm.sgn c1 = 0
    · have h0' : (Dm.sgn c1 == 0) = true := by simp [h0]
      have e0 := hide h0
      clear h0
      go_wp2
      go_ret2
      rw [unhide hz' (unhide e12) (unhide e0)]
      exact ⟨rfl, below_drewN hb0 _⟩
    · have h0' : (Dm.sgn c1 == 0) = false := by simp [h0]
      obtain ⟨s, l1, l2, er, hcalls⟩ := unhide hs' (unhide e12) h0
      have hcalls' := hide hcalls
      have er' := hide er
      have em : -1 ≤ Dm.sgn c1 * s ∧ Dm.sgn c1 * s ≤ 1 := by
        rcases (show Dm.sgn c1 = -1 ∨ Dm.sgn c1 = 1 by omega) with q | q <;> rw [q] <;> omega
      obtain ⟨em1, em2⟩ := em
      clear hcalls er h0
      go_wp2_with fail
      refine (unhide hcalls' _).mono ?_
      rintro e w2 ⟨rfl, hb2⟩
      go_wp2
      go_ret2
      rw [unhide er']
      exact ⟨rfl, (below_drewN hb0 _).trans (hb2.mono (by simp; omega))⟩
  · have h12' : (Dm.sgn c1 != Dm.sgn c2) = true := by simp [h12]
    have hr := hide (unhide hd' h12)
    clear h12
    go_wp2_with fail
    refine (cmpInt_any _ _ _).mono ?_
    rintro e w3 ⟨rfl, rfl⟩
    go_wp2
    go_ret2
    rw [unhide hr]
    exact ⟨rfl, below_drewN hb0 _⟩

theorem cmp_ok (c1 x1 c2 x2 : Int) (w : World) (h1 : Dm.wrongN c1 x1 = 0) (h2 : Dm.wrongN c2 x2 = 0) :
    Calls Tryz.prog 58 #[.agg #[.int .i64 c1, .int .i64 x1], .agg #[.int .i64 c2, .int .i64 x2]] w fun e w' => e = .returned (.tuple #[.int .i64 (Dm.sgn (Dm.V c1 x1 - Dm.V c2 x2)), .int .i64 0]) ∧ Below w.heap.size w w' := by
  obtain ⟨p1, p2, p3, p4, _⟩ := Dm.wrong_ok h1
  obtain ⟨q1, q2, q3, q4, _⟩ := Dm.wrong_ok h2
  refine cmp_core c1 x1 c2 x2 w (by rw [Dm.wrong2_ok h1, h2]) _ ?_ ?_ ?_
  · exact Dm.cmp_diff x1 x2
  · exact Dm.cmp_zero x1 x2
  · intro h12 h0
    obtain ⟨n1, n2, hr⟩ := Dm.cmp_same x1 x2 h12 h0
    exact ⟨_, (Dm.sgn_bd _).1, (Dm.sgn_bd _).2, hr, fun wx => compareSizes_any c1 x1 c2 x2 wx p1 p2 n1 p3 p4 q1 q2 n2 q3 q4⟩
end Go.Proofs.YtcidbhegnnedoaaGreatDoor
