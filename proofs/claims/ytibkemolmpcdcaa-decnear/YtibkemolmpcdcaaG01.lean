/- Plain facts on whole numbers that the walks over package dec want: no Go in sight. -/
import Derived.Test.YtibkemolmpcdcaaProg
import Derived.WalkKit
import Derived.WalkSpells
import Derived.WalkLawsBesides
import Derived.Deep.QuietTactic
import Derived.BigQuiet
import Derived.Outline
import Derived.Below
import Derived.Deep.Cut
import Derived.Deep.RegionWith
import Derived.Deep.CutRange
import Derived.Deep.LoopGhost
import Derived.RowKit
namespace Dm

def bnd : Int := 999999999999999999
def wrongN (c e : Int) : Int := if c < -999999999999999999 ∨ 999999999999999999 < c ∨ e < -40 ∨ 40 < e then 3 else if c.tmod 10 = 0 ∧ ¬ (c = 0 ∧ e = 0) then 2 else 0

def sgn (x : Int) : Int := if x < 0 then -1 else if x = 0 then 0 else 1

def wrong2 (c1 x1 c2 x2 : Int) : Int := if wrongN c1 x1 = 0 then wrongN c2 x2 else wrongN c1 x1
theorem wrong2_ok {c1 x1 : Int} (h : wrongN c1 x1 = 0) (c2 x2 : Int) : wrong2 c1 x1 c2 x2 = wrongN c2 x2 := by unfold wrong2; rw [if_pos h]
theorem wrong2_no {c1 x1 : Int} (h : ¬ wrongN c1 x1 = 0) (c2 x2 : Int) : wrong2 c1 x1 c2 x2 = wrongN c1 x1 := by unfold wrong2; rw [if_neg h]

def okB (c e : Int) : Bool := decide (wrongN c e = 0)

def tens (n : Int) : Nat → Int
  | 0 => n
  | k + 1 => tens n k * 10
theorem tens_eq (n : Int) (k : Nat) : tens n k = n * 10 ^ k := by
  induction k with
  | zero => simp [tens]
  | succ k ih => rw [tens, ih, Int.pow_succ, Int.mul_assoc]
theorem tens_pos {n : Int} (h : 1 ≤ n) (k : Nat) : 1 ≤ tens n k := by
  induction k with
  | zero => exact h
  | succ k ih => rw [tens]; omega
theorem tens_mono {n : Int} (h : 1 ≤ n) {j k : Nat} (hjk : j ≤ k) : tens n j ≤ tens n k := by
  induction hjk with
  | refl => exact Int.le_refl _
  | step _ ih => have := tens_pos h; rw [tens]; rename_i m _; have := this m; omega
theorem tens_1_17 : tens 1 17 = 100000000000000000 := by decide
theorem tens_le {n : Int} (h : 1 ≤ n) (k : Nat) : tens 1 k ≤ tens n k := by
  induction k with
  | zero => exact h
  | succ k ih => rw [tens, tens]; omega
theorem tens_lt {n m : Int} {k : Nat} (e : m = tens n k) (h : 1 ≤ n) (hl : m < 100000000000000000) : k < 17 := by
  rcases Nat.lt_or_ge k 17 with g | g
  · exact g
  · have a := tens_mono (n := 1) (by omega) g
    have b := tens_le h k
    rw [tens_1_17] at a
    omega

/-- a number as a whole multiple of 10^-40 -/
def V (c e : Int) : Int := tens c (e + 40).toNat

theorem tens_add (n : Int) (j k : Nat) : tens (tens n j) k = tens n (j + k) := by
  rw [tens_eq, tens_eq, tens_eq, Int.mul_assoc, Int.pow_add]
theorem tens_mul (a b : Int) (k : Nat) : tens (a * b) k = a * tens b k := by
  rw [tens_eq, tens_eq, Int.mul_assoc]
theorem tens_sub (a b : Int) (k : Nat) : tens (a - b) k = tens a k - tens b k := by
  rw [tens_eq, tens_eq, tens_eq, Int.sub_mul]
theorem tens_lt_tens {a b : Int} (h : a < b) (k : Nat) : tens a k < tens b k := by
  induction k with
  | zero => exact h
  | succ k ih => rw [tens, tens]; omega
theorem tens_le_tens {a b : Int} (h : a ≤ b) (k : Nat) : tens a k ≤ tens b k := by
  induction k with
  | zero => exact h
  | succ k ih => rw [tens, tens]; omega
theorem sgn_tens {a b : Int} (k : Nat) : sgn (tens a k - tens b k) = sgn (a - b) := by
  have h1 := @tens_lt_tens a b
  have h2 := @tens_lt_tens b a
  unfold sgn
  rcases Int.lt_trichotomy a b with h | h | h
  · have := h1 h k; rw [if_pos (by omega), if_pos (by omega)]
  · subst h; simp
  · have := h2 h k; rw [if_neg (by omega), if_neg (by omega), if_neg (by omega), if_neg (by omega)]
theorem sgn_lt {a : Int} (h : a < 0) : sgn a = -1 := by unfold sgn; rw [if_pos h]
theorem sgn_gt {a : Int} (h : 0 < a) : sgn a = 1 := by unfold sgn; rw [if_neg (by omega), if_neg (by omega)]

/-- the digits stretched to eighteen: what stands at 10^-57 -/
theorem V_stretch {n m x : Int} {k : Nat} (hx : -40 ≤ x) (e : m = tens n k) (hk : k ≤ 17) : tens (V n x) 17 = tens m (x - k + 57).toNat := by
  unfold V
  rw [e, tens_add, tens_add]
  congr 1
  omega
theorem cmp_sizes {n1 n2 m1 m2 x1 x2 : Int} {k1 k2 : Nat} (hx1 : -40 ≤ x1) (hx2 : -40 ≤ x2) (e1 : m1 = tens n1 k1) (e2 : m2 = tens n2 k2)
    (l1 : 100000000000000000 ≤ m1) (u1 : m1 < 1000000000000000000) (l2 : 100000000000000000 ≤ m2) (u2 : m2 < 1000000000000000000) (hk1 : k1 ≤ 17) (hk2 : k2 ≤ 17) :
    (x1 - (k1 : Int) = x2 - (k2 : Int) → sgn (V n1 x1 - V n2 x2) = sgn (m1 - m2)) ∧ (¬ x1 - (k1 : Int) = x2 - (k2 : Int) → sgn (V n1 x1 - V n2 x2) = sgn (x1 - k1 - (x2 - k2))) := by
  rw [← sgn_tens 17, V_stretch hx1 e1 hk1, V_stretch hx2 e2 hk2]
  have key : ∀ {a b : Int} {i j : Nat}, 100000000000000000 ≤ a → b < 1000000000000000000 → j < i → tens b j < tens a i := by
    intro a b i j ha hb hij
    have h1 : tens b j < tens 1000000000000000000 j := tens_lt_tens hb j
    have h2 : tens 1000000000000000000 j = tens 100000000000000000 (1 + j) := by rw [← tens_add]; rfl
    have h3 : tens 100000000000000000 (1 + j) ≤ tens 100000000000000000 i := tens_mono (by omega) (by omega)
    have h4 : tens 100000000000000000 i ≤ tens a i := tens_le_tens ha i
    omega
  refine ⟨fun h => ?_, fun h => ?_⟩
  · rw [h, sgn_tens]
  · rcases Int.lt_trichotomy (x1 - (k1 : Int)) (x2 - (k2 : Int)) with g | g | g
    · have := key (a := m2) (b := m1) (i := (x2 - k2 + 57).toNat) (j := (x1 - k1 + 57).toNat) l2 u1 (by omega)
      rw [sgn_lt (by omega), sgn_lt (by omega)]
    · exact absurd g h
    · have := key (a := m1) (b := m2) (i := (x1 - k1 + 57).toNat) (j := (x2 - k2 + 57).toNat) l1 u2 (by omega)
      rw [sgn_gt (by omega), sgn_gt (by omega)]

theorem wrong_ok {c x : Int} (h : wrongN c x = 0) : -1000000000000000000 < c ∧ c < 1000000000000000000 ∧ -40 ≤ x ∧ x ≤ 40 ∧ (c.tmod 10 = 0 → c = 0 ∧ x = 0) := by
  unfold wrongN at h
  split at h
  · omega
  · split at h
    · omega
    · rename_i h1 h2
      refine ⟨by omega, by omega, by omega, by omega, fun g => ?_⟩
      rcases Classical.em (c = 0 ∧ x = 0) with q | q
      · exact q
      · exact absurd ⟨g, q⟩ h2
theorem tens_neg (n : Int) (k : Nat) : tens (-n) k = - tens n k := by
  rw [tens_eq, tens_eq, Int.neg_mul]
theorem tens_zero (k : Nat) : tens 0 k = 0 := by
  induction k with
  | zero => rfl
  | succ k ih => rw [tens, ih]; rfl
theorem V_pos {c : Int} (h : 0 < c) (x : Int) : 0 < V c x := by
  have := tens_pos (n := c) (by omega) (x + 40).toNat
  unfold V; omega
theorem V_neg {c : Int} (h : c < 0) (x : Int) : V c x < 0 := by
  have := tens_pos (n := -c) (by omega) (x + 40).toNat
  rw [tens_neg] at this
  unfold V; omega
theorem V_zero (x : Int) : V 0 x = 0 := tens_zero _
theorem V_opp (c x : Int) : V (-c) x = - V c x := tens_neg _ _
theorem sgn_pos {a : Int} (h : 0 < a) : sgn a = 1 := sgn_gt h
theorem sgn_zero : sgn 0 = 0 := rfl
theorem sgn_opp (a : Int) : sgn (-a) = - sgn a := by
  unfold sgn; (repeat' split) <;> omega
theorem sgn_bd (a : Int) : -1 ≤ sgn a ∧ sgn a ≤ 1 := by
  unfold sgn; (repeat' split) <;> omega

theorem sgn_cases (c : Int) : (c < 0 ∧ sgn c = -1) ∨ (c = 0 ∧ sgn c = 0) ∨ (0 < c ∧ sgn c = 1) := by
  unfold sgn; (repeat' split) <;> omega
theorem cmp_diff {c1 c2 : Int} (x1 x2 : Int) (h : sgn c1 ≠ sgn c2) : sgn (V c1 x1 - V c2 x2) = sgn (sgn c1 - sgn c2) := by
  have hv : ∀ {c : Int} (x : Int), (c < 0 → V c x < 0) ∧ (c = 0 → V c x = 0) ∧ (0 < c → 0 < V c x) := fun x => ⟨fun h => V_neg h x, fun h => by rw [h]; exact V_zero x, fun h => V_pos h x⟩
  have v1 := @hv c1 x1
  have v2 := @hv c2 x2
  rcases sgn_cases c1 with ⟨a, b⟩ | ⟨a, b⟩ | ⟨a, b⟩ <;> rcases sgn_cases c2 with ⟨c, d⟩ | ⟨c, d⟩ | ⟨c, d⟩ <;> rw [b, d] at h ⊢ <;> first
    | exact absurd rfl h
    | (have := v1.1 a; have := v2.2.1 c; rw [sgn_lt (by omega)]; rfl)
    | (have := v1.1 a; have := v2.2.2 c; rw [sgn_lt (by omega)]; rfl)
    | (have := v1.2.1 a; have := v2.1 c; rw [sgn_gt (by omega)]; rfl)
    | (have := v1.2.1 a; have := v2.2.2 c; rw [sgn_lt (by omega)]; rfl)
    | (have := v1.2.2 a; have := v2.1 c; rw [sgn_gt (by omega)]; rfl)
    | (have := v1.2.2 a; have := v2.2.1 c; rw [sgn_gt (by omega)]; rfl)
theorem cmp_zero {c1 c2 : Int} (x1 x2 : Int) (h : sgn c1 = sgn c2) (h0 : sgn c1 = 0) : sgn (V c1 x1 - V c2 x2) = 0 := by
  have a : c1 = 0 := by rcases sgn_cases c1 with ⟨a, b⟩ | ⟨a, b⟩ | ⟨a, b⟩ <;> omega
  have b : c2 = 0 := by rcases sgn_cases c2 with ⟨a, b⟩ | ⟨a, b⟩ | ⟨a, b⟩ <;> omega
  rw [a, b, V_zero, V_zero]; rfl
theorem cmp_same {c1 c2 : Int} (x1 x2 : Int) (h : sgn c1 = sgn c2) (h0 : sgn c1 ≠ 0) : 1 ≤ (c1.natAbs : Int) ∧ 1 ≤ (c2.natAbs : Int) ∧ sgn (V c1 x1 - V c2 x2) = sgn c1 * sgn (V (c1.natAbs : Int) x1 - V (c2.natAbs : Int) x2) := by
  rcases sgn_cases c1 with ⟨a, b⟩ | ⟨a, b⟩ | ⟨a, b⟩
  · have c : c2 < 0 := by rcases sgn_cases c2 with ⟨a, b⟩ | ⟨a, b⟩ | ⟨a, b⟩ <;> omega
    refine ⟨by omega, by omega, ?_⟩
    rw [b, show (c1.natAbs : Int) = -c1 by omega, show (c2.natAbs : Int) = -c2 by omega, V_opp, V_opp, show -V c1 x1 - -V c2 x2 = -(V c1 x1 - V c2 x2) by omega, sgn_opp]
    omega
  · exact absurd b h0
  · have c : 0 < c2 := by rcases sgn_cases c2 with ⟨a, b⟩ | ⟨a, b⟩ | ⟨a, b⟩ <;> omega
    refine ⟨by omega, by omega, ?_⟩
    rw [b, show (c1.natAbs : Int) = c1 by omega, show (c2.natAbs : Int) = c2 by omega]
    omega

end Dm

/- Walks: Wrong. -/
namespace Go.Proofs.Ytibkemolmpcdcaa
open Go.RowKit

theorem hide {p : Prop} (h : p) : Hid p := h
theorem unhide {p : Prop} (h : Hid p) : p := h
theorem ret_int {k : IntKind} {a b : Int} (h : a = b) : Ending.returned (.int k a) = .returned (.int k b) := by rw [h]

set_option maxHeartbeats 400000 in
theorem wrong_any (c x : Int) (w : World) :
    Calls Try.prog 13 #[.agg #[.int .i64 c, .int .i64 x]] w fun e w' => e = .returned (.int .i64 (Dm.wrongN c x)) ∧ Below w.heap.size w w' := by
  go_enter Try.func13, Try.ntmps13
  go_wp2
  all_goals
    go_ret
    refine ⟨ret_int ?_, (Below.refl _ _).alloc (Nat.le_refl _) _⟩
    unfold Dm.wrongN
    (repeat' split) <;> first | rfl | (exfalso; omega) | (simp_all; done)
end Go.Proofs.Ytibkemolmpcdcaa

/- A region that draws its order, walked in whatever order by an invariant on what has come up, slot by slot (as stage 2's Q0d, Q2d, RA, without their values); and such an invariant by a list that says what each slot holds. -/
namespace Go.Proofs.Ytibkemolmpcdcaa
open Go.RowKit Go.BigFrame

/-- what a slot holds -/
def G (a : Act) (i : Nat) : Value := a.tmps.getD i undef
theorem eval_G {a : Act} {i : Nat} {v : Value} (h : G a i = v) : a.eval (.tmp i) = v := h
/-- the frame behind one operation -/
structure Upd (a : Act) (d : Nat) (v : Value) (a' : Act) : Prop where
  size : a'.tmps.size = a.tmps.size
  got : G a' d = v
  rest : ∀ i, i ≠ d → G a' i = G a i
  defs : a'.defers = a.defers
theorem upd_put {a : Act} {d : Nat} {v : Value} (h : d < a.tmps.size) : Upd a d v (a.put (some d) v) := by
  refine ⟨by simp [Act.put], by simp [G, Act.put, h], fun i hi => ?_, rfl⟩
  simp [G, Act.put, Array.getD_eq_getD_getElem?, Ne.symm hi]

section
variable {P : Program} {ops : Array Oper} {Q : Exit → Act → World → Prop} {md : Region.Mode}

theorem countP_less {α : Type} {p p' : α → Bool} (hle : ∀ x, p' x = true → p x = true) {i : α} (h1 : p i = true) (h2 : p' i = false) : ∀ {l : List α}, i ∈ l → l.countP p' < l.countP p
  | x :: l, h => by
    have mono : ∀ l : List α, l.countP p' ≤ l.countP p := fun l => List.countP_mono_left fun x _ => hle x
    rcases List.mem_cons.1 h with rfl | h
    · simp only [List.countP_cons, h1, h2, if_true]
      have := mono l
      simp
      omega
    · have := countP_less hle h1 h2 h
      have hx := hle x
      simp only [List.countP_cons]
      by_cases e : p' x = true
      · simp [e, hx e]; omega
      · simp [e]; omega

/-- what has come up, closed under what it waited for -/
def Closed (md : Region.Mode) (ops : Array Oper) (L : Nat → Bool) : Prop := ∀ (j : Nat) (o : Oper), ops[j]? = some o → L j = true → ∀ e ∈ o.after, Region.binds md e = true → L e.on = true

theorem any_of (I : (Nat → Bool) → Act → World → Prop)
    (wait : ∀ (k : Nat) (o : Oper), ops[k]? = some o → ∀ e ∈ o.after, Region.binds md e = true → e.on < k)
    (step : ∀ (i : Nat) (o : Oper), ops[i]? = some o → ∀ (L : Nat → Bool) (a : Act) (w : World), I L a w → Closed md ops L → L i = false → (∀ e ∈ o.after, Region.binds md e = true → L e.on = true) →
      wpOp P ops Q i (fun a' w' => I (fun j => j == i || L j) a' w') a w)
    (done : ∀ (L : Nat → Bool) (a : Act) (w : World), I L a w → (∀ i, i < ops.size → L i = true) → Q .normal a w) :
    ∀ (fuel : Nat) (listed : Array Bool) (a : Act) (w : World), listed.size = ops.size → Closed md ops (fun i => listed.getD i false) → I (fun i => listed.getD i false) a w →
      (List.range ops.size).countP (fun i => !listed.getD i false) ≤ fuel → wpAny P md ops Q fuel listed a w := by
  intro fuel
  induction fuel with
  | zero =>
    intro listed a w hsz hcl hI hc
    have all : ∀ i, i < ops.size → listed.getD i false = true := fun i hi => by
      have := List.countP_eq_zero.1 (Nat.le_zero.1 hc) i (List.mem_range.2 hi)
      simpa using this
    refine ⟨?_, done _ a w hI all⟩
    simp only [Region.ready, List.filter_eq_nil_iff, List.mem_range]
    intro i hi
    have e : listed.getD i true = listed.getD i false := by simp [Array.getD_eq_getD_getElem?, Array.getElem?_eq_getElem (show i < listed.size by omega)]
    rw [e, all i hi]
    simp
  | succ fuel ih =>
    intro listed a w hsz hcl hI hc
    have e : ∀ i, i < ops.size → listed.getD i true = listed.getD i false := fun i hi => by simp [Array.getD_eq_getD_getElem?, Array.getElem?_eq_getElem (show i < listed.size by omega)]
    refine ⟨fun hr => ?_, fun i hi => ?_⟩
    · refine done _ a w hI ?_
      intro i
      induction i using Nat.strongRecOn with
      | _ i ihi =>
        intro hlt
        by_cases hL : listed.getD i false = true
        · exact hL
        · exfalso
          obtain ⟨o, ho⟩ : ∃ o, ops[i]? = some o := ⟨_, Array.getElem?_eq_getElem hlt⟩
          have : i ∈ Region.ready md ops listed := by
            simp only [Region.ready, List.mem_filter, List.mem_range, Bool.and_eq_true]
            refine ⟨hlt, by rw [e i hlt]; simpa using hL, ?_⟩
            rw [ho]
            simp only [Option.map_some, Option.getD_some]
            rw [Array.all_eq_true_iff_forall_mem]
            intro x hx
            by_cases hb : Region.binds md x = true
            · have hlt' := wait i o ho x hx hb
              have := ihi x.on hlt' (by omega)
              simp [this]
            · simp [hb]
          rw [hr] at this
          cases this
    · simp only [Region.ready, List.mem_filter, List.mem_range, Bool.and_eq_true] at hi
      obtain ⟨hlt, hun, hall⟩ := hi
      obtain ⟨o, ho⟩ : ∃ o, ops[i]? = some o := ⟨_, Array.getElem?_eq_getElem hlt⟩
      rw [e i hlt] at hun
      rw [ho] at hall
      simp only [Option.map_some, Option.getD_some] at hall
      rw [Array.all_eq_true_iff_forall_mem] at hall
      have hun' : listed.getD i false = false := by simpa using hun
      have hw : ∀ x ∈ o.after, Region.binds md x = true → listed.getD x.on false = true := fun x hx hb => by
        have := hall x hx
        simpa [hb] using this
      have hset : (fun j => (listed.setIfInBounds i true).getD j false) = fun j => j == i || listed.getD j false := funext fun j => by
        simp only [Array.getD_eq_getD_getElem?, Array.getElem?_setIfInBounds]
        by_cases hji : i = j
        · subst hji; simp [show i < listed.size by omega]
        · simp [hji, Ne.symm hji]
      refine wpOp_mono (fun a' w' hI' => ih _ a' w' (by simp [hsz]) ?_ (by rw [hset]; exact hI') ?_) (step i o ho _ a w hI hcl hun' hw)
      · rw [hset]
        intro j oj hoj hj x hx hb
        simp only [Bool.or_eq_true, beq_iff_eq] at hj ⊢
        rcases hj with rfl | hj
        · right
          rw [ho] at hoj
          cases hoj
          exact hw x hx hb
        · right
          exact hcl j oj hoj hj x hx hb
      · have hset' : ∀ j, (listed.setIfInBounds i true).getD j false = (j == i || listed.getD j false) := fun j => congrFun hset j
        have := countP_less (p := fun j => !listed.getD j false) (p' := fun j => !(listed.setIfInBounds i true).getD j false) (i := i) (fun x hx => by
          rw [hset'] at hx
          simp at hx ⊢
          exact hx.2) (by simpa using hun) (by rw [hset']; simp) (List.mem_range.2 hlt)
        omega

/-- a fact of each operation, by its place -/
def AllIx (S : Nat → Oper → Prop) : List Oper → Nat → Prop
  | [], _ => True
  | o :: l, k => S k o ∧ AllIx S l (k + 1)
theorem allIx_at {S : Nat → Oper → Prop} (l : List Oper) : ∀ (k : Nat), AllIx S l k → ∀ (i : Nat) (o : Oper), l[i]? = some o → S (k + i) o := by
  induction l with
  | nil => intro k h i o hi; simp at hi
  | cons o l ih =>
    intro k h i o' hi
    cases i with
    | zero =>
      simp only [List.getElem?_cons_zero, Option.some.injEq] at hi
      rw [← hi]
      exact h.1
    | succ i =>
      have := ih (k + 1) h.2 i o' (by simpa using hi)
      rwa [show k + 1 + i = k + (i + 1) by omega] at this

theorem region_any {I : (Nat → Bool) → Act → World → Prop} {id : Nat} {l : List Oper} {a : Act} {w : World} (hm : P.follows .mixedOrders = true)
    (wait : AllIx (fun k o => ∀ e ∈ o.after, Region.binds .any e = true → e.on < k) l 0)
    (step : AllIx (fun i o => ∀ (L : Nat → Bool) (a : Act) (w : World), I L a w → Closed .any l.toArray L → L i = false → (∀ e ∈ o.after, Region.binds .any e = true → L e.on = true) →
      wpOp P l.toArray Q i (fun a' w' => I (fun j => j == i || L j) a' w') a w) l 0)
    (done : ∀ (L : Nat → Bool) (a : Act) (w : World), I L a w → (∀ i, i < l.length → L i = true) → Q .normal a w)
    (start : I (fun _ => false) a w.drew) : (Code.region id l.toArray true).wp P Q a w := by
  have e0 : (fun i => (Array.replicate l.toArray.size false).getD i false) = fun _ => false := funext fun i => by
    simp only [Array.getD_eq_getD_getElem?, Array.getElem?_replicate]
    split <;> rfl
  refine wp_region_any hm (any_of I ?_ ?_ ?_ _ _ _ _ (by simp) ?_ (by rw [e0]; exact start) ?_)
  · intro k o ho
    have := allIx_at l 0 wait k o (by simpa using ho)
    rwa [Nat.zero_add] at this
  · intro i o ho
    have := allIx_at l 0 step i o (by simpa using ho)
    rwa [Nat.zero_add] at this
  · intro L a w hI hall
    exact done L a w hI (by simpa using hall)
  · rw [e0]
    intro j o _ hj
    cases hj
  · exact Nat.le_trans (List.countP_le_length) (by simp)
end

section
variable {ops : Array Oper} {Q : Exit → Act → World → Prop} {i d : Nat} {a : Act} {w : World} {K : Act → World → Prop} {t : TypeId} {p : String} {af : Array Edge}
theorem o_val {o : Oper} {v : Value} {w' : World} (hi : ops[i]? = some o) (hd : o.dst = some d) (hw : Region.wanted o (yielded ops a.tmps) = true) (hs : d < a.tmps.size) (r : (execOp a.eval o).run Try.prog w = .ok (.value v) w')
    (h : ∀ a', Upd a d v a' → a'.defers = a.defers → K a' w') : wpOp Try.prog ops Q i K a w := by
  unfold wpOp
  rw [hi]
  simp only [hw, if_true]
  left
  unfold Oper.wp
  rw [r]
  have q : K (a.put o.dst v) w' := by rw [hd]; exact h _ (upd_put hs) rfl
  exact q
theorem o_skip {o : Oper} (hi : ops[i]? = some o) (hd : o.dst = some d) (hw : Region.wanted o (yielded ops a.tmps) = false) (hs : d < a.tmps.size)
    (h : ∀ a', Upd a d undef a' → a'.defers = a.defers → K a' w) : wpOp Try.prog ops Q i K a w := by
  unfold wpOp
  rw [hi]
  simp only [hw, Bool.false_eq_true, if_false]
  rw [hd]
  exact h _ (upd_put hs) rfl
theorem o_enter {o : Oper} {n : Nat} {args : Array Value} {R : Value → World → Prop} (hi : ops[i]? = some o) (hd : o.dst = some d) (hw : Region.wanted o (yielded ops a.tmps) = true) (hs : d < a.tmps.size) (r : (execOp a.eval o).run Try.prog w = .ok (.enter n args) w)
    (hc : Calls Try.prog n args w fun e w' => ∃ v, e = .returned v ∧ R v w') (h : ∀ v a' w', R v w' → Upd a d v a' → a'.defers = a.defers → K a' w') : wpOp Try.prog ops Q i K a w := by
  unfold wpOp
  rw [hi]
  simp only [hw, if_true]
  left
  unfold Oper.wp
  rw [r]
  refine hc.mono ?_
  rintro e w' ⟨v, rfl, hR⟩
  have q : K (a.put o.dst v) w' := by rw [hd]; exact h v _ _ hR (upd_put hs) rfl
  exact q
theorem wanted_is {ops : Array Oper} {a : Act} {o : Oper} {j dj : Nat} {b c : Bool} (h : o.guard = some (j, c)) (D : (ops[j]?).bind (·.dst) = some dj) (hs : dj < a.tmps.size) (hg : G a dj = .bool b) : Region.wanted o (yielded ops a.tmps) = (b == c) := by
  have e : a.tmps[dj]? = some (.bool b) := by
    simp only [G, Array.getD_eq_getD_getElem?] at hg
    rw [Array.getElem?_eq_getElem hs] at hg ⊢
    simpa using hg
  simp [Region.wanted, h, yielded, D, e]
end

/-- what has come up, slot by slot -/
structure RI (w0 : World) (a0 : Act) (N : Nat) (D : List Nat) (Ok : Nat → Value → World → Prop) (Un : Nat → Bool) (L : Nat → Bool) (a : Act) (w : World) : Prop where
  size : a.tmps.size = N
  defs : a.defers = []
  rest : ∀ j, (∀ i d, L i = true → D[i]? = some d → d ≠ j) → G a j = G a0 j
  got : ∀ i d, L i = true → D[i]? = some d → Ok i (G a d) w
  uniq : ∀ i j d e, L i = true → L j = true → Un i = true → Un j = true → i ≠ j → D[i]? = some d → D[j]? = some e → G a d ≠ G a e
  old : Below w0.heap.size w0 w
theorem RI.keep {w0 : World} {a0 : Act} {N : Nat} {D : List Nat} {Ok : Nat → Value → World → Prop} {Un L : Nat → Bool} {a : Act} {w : World} (h : RI w0 a0 N D Ok Un L a w) {s : Nat} (hs : s ∉ D) : G a s = G a0 s :=
  h.rest s (fun _ _ _ hd e => hs (e ▸ List.mem_of_getElem? hd))
theorem RI.start {w0 : World} {a0 : Act} {N : Nat} {D : List Nat} {Ok : Nat → Value → World → Prop} {Un : Nat → Bool} {w : World} (h1 : a0.tmps.size = N) (h2 : a0.defers = []) (h3 : Below w0.heap.size w0 w) : RI w0 a0 N D Ok Un (fun _ => false) a0 w :=
  ⟨h1, h2, fun _ _ => rfl, fun _ _ h => (by cases h), fun _ _ _ _ h => (by cases h), h3⟩
theorem RI.step {w0 : World} {a0 : Act} {N : Nat} {D : List Nat} {Ok : Nat → Value → World → Prop} {Un L : Nat → Bool} {a a' : Act} {w w' : World} (h : RI w0 a0 N D Ok Un L a w) (hD : D.Nodup) (mono : ∀ i v w w', Below w.heap.size w w' → Ok i v w → Ok i v w')
    (i : Nat) {d : Nat} {v : Value} (hi : D[i]? = some d) (U : Upd a d v a') (hd : a'.defers = a.defers) (hb : Below w.heap.size w w') (ok : Ok i v w') (un : Un i = true → ∀ j e, L j = true → Un j = true → D[j]? = some e → v ≠ G a e) : RI w0 a0 N D Ok Un (fun j => j == i || L j) a' w' := by
  have inj : ∀ j, D[j]? = some d → j = i := by
    intro j hj
    have h1 := (List.getElem?_eq_some_iff.1 hi)
    have h2 := (List.getElem?_eq_some_iff.1 hj)
    obtain ⟨l1, e1⟩ := h1
    obtain ⟨l2, e2⟩ := h2
    exact (List.getElem_inj hD).1 (e2.trans e1.symm)
  refine ⟨U.size.trans h.size, hd.trans h.defs, fun j hj => ?_, fun j e hj he => ?_, fun j k e f hj hk uj uk ne he hf => ?_, h.old.trans (hb.mono h.old.size)⟩
  · have hne : j ≠ d := fun e => hj i d (by simp) hi e.symm
    rw [U.rest j hne]
    exact h.rest j (fun i' d' hi' hd' => hj i' d' (by simp [hi']) hd')
  · by_cases e1 : j = i
    · subst e1
      rw [hi] at he
      cases he
      rw [U.got]
      exact ok
    · have hL : L j = true := by simpa [e1] using hj
      have hne : e ≠ d := fun q => e1 (inj j (q ▸ he))
      rw [U.rest e hne]
      exact mono _ _ _ _ hb (h.got j e hL he)
  · by_cases e1 : j = i
    · subst e1
      rw [hi] at he
      cases he
      have hL : L k = true := by simpa [Ne.symm ne] using hk
      have hne : f ≠ d := fun q => ne (inj k (q ▸ hf)).symm
      rw [U.got, U.rest f hne]
      exact un uj k f hL uk hf
    · have hLj : L j = true := by simpa [e1] using hj
      have hne : e ≠ d := fun q => e1 (inj j (q ▸ he))
      rw [U.rest e hne]
      by_cases e2 : k = i
      · subst e2
        rw [hi] at hf
        cases hf
        rw [U.got]
        exact fun q => un uk j e hLj uj he q.symm
      · have hLk : L k = true := by simpa [e2] using hk
        have hne2 : f ≠ d := fun q => e2 (inj k (q ▸ hf))
        rw [U.rest f hne2]
        exact h.uniq j k e f hLj hLk uj uk ne he hf
/-- a frame, slot by slot -/
theorem frame_eqs {a : Act} {N : Nat} (h : a.tmps.size = N) : a.tmps = ((List.range N).map (G a)).toArray := by
  apply Array.ext
  · simp [h]
  · intro i h1 h2
    simp [G, Array.getD_eq_getD_getElem?, Array.getElem?_eq_getElem h1]
theorem frame_intro {P : Program} {code : Code} {Q : Exit → Act → World → Prop} {a0 : Act} {w : World} (S : Act → Prop) (h : S a0) (k : ∀ a, S a → Code.wp P code Q a w) : Code.wp P code Q a0 w := k a0 h
theorem frame_is {a : Act} {N : Nat} (hs : a.tmps.size = N) (hd : a.defers = []) : a = { tmps := ((List.range N).map (G a)).toArray, defers := [] } := by
  cases a with
  | mk t d =>
    simp only at hs hd
    subst hd
    congr 1
    exact frame_eqs (a := ⟨t, []⟩) hs
end Go.Proofs.Ytibkemolmpcdcaa

/- A region that draws, by a list that says what each slot holds when it has come up. -/
namespace Go.Proofs.Ytibkemolmpcdcaa
open Go.RowKit

/-- what a slot holds: a value; one of which something is known that stays; anything -/
inductive Ds where
  | lit (v : Value)
  | mem (P : Value → World → Prop) (keep : ∀ (v : Value) (w w' : World), Below w.heap.size w w' → P v w → P v w')
  | any
def Ds.ok : Ds → Value → World → Prop
  | .lit v, x, _ => x = v
  | .mem P _, x, w => P x w
  | .any, _, _ => True
def OkL (l : List Ds) (i : Nat) (v : Value) (w : World) : Prop := ((l[i]?).getD .any).ok v w
theorem OkL.mono (l : List Ds) (i : Nat) (v : Value) (w w' : World) (hb : Below w.heap.size w w') (h : OkL l i v w) : OkL l i v w' := by
  unfold OkL at *
  generalize (l[i]?).getD .any = d at h ⊢
  cases d with
  | lit u => exact h
  | mem P k => exact k v w w' hb h
  | any => trivial
abbrev RL (w0 : World) (a0 : Act) (N : Nat) (D : List Nat) (l : List Ds) (L : Nat → Bool) (a : Act) (w : World) : Prop := RI w0 a0 N D (OkL l) (fun _ => false) L a w

section
variable {w0 w : World} {a0 a : Act} {N : Nat} {D : List Nat} {l : List Ds} {L : Nat → Bool} {ops : Array Oper} {Q : Exit → Act → World → Prop} {i d : Nat} {o : Oper}
theorem rl_val (h : RL w0 a0 N D l L a w) (nd : D.Nodup) (hi : ops[i]? = some o) (hd : o.dst = some d) (hDi : D[i]? = some d) (hN : d < N) (hw : Region.wanted o (yielded ops a.tmps) = true) {v : Value} (r : (execOp a.eval o).run Try.prog w = .ok (.value v) w) (ok : OkL l i v w) :
    wpOp Try.prog ops Q i (fun a' w' => RL w0 a0 N D l (fun j => j == i || L j) a' w') a w :=
  o_val hi hd hw (by rw [h.size]; exact hN) r fun _ U hf => h.step nd (OkL.mono l) i hDi U hf (Below.refl _ _) ok (fun q => by cases q)
theorem rl_skip (h : RL w0 a0 N D l L a w) (nd : D.Nodup) (hi : ops[i]? = some o) (hd : o.dst = some d) (hDi : D[i]? = some d) (hN : d < N) (hw : Region.wanted o (yielded ops a.tmps) = false) (ok : OkL l i undef w) :
    wpOp Try.prog ops Q i (fun a' w' => RL w0 a0 N D l (fun j => j == i || L j) a' w') a w :=
  o_skip hi hd hw (by rw [h.size]; exact hN) fun _ U hf => h.step nd (OkL.mono l) i hDi U hf (Below.refl _ _) ok (fun q => by cases q)
theorem rl_call (h : RL w0 a0 N D l L a w) (nd : D.Nodup) (hi : ops[i]? = some o) (hd : o.dst = some d) (hDi : D[i]? = some d) (hN : d < N) (hw : Region.wanted o (yielded ops a.tmps) = true) {n : Nat} {args : Array Value} (r : (execOp a.eval o).run Try.prog w = .ok (.enter n args) w)
    {R : Value → World → Prop} (hc : Calls Try.prog n args w fun e w' => ∃ v, e = .returned v ∧ R v w' ∧ Below w.heap.size w w') (ok : ∀ v w', R v w' → OkL l i v w') :
    wpOp Try.prog ops Q i (fun a' w' => RL w0 a0 N D l (fun j => j == i || L j) a' w') a w :=
  o_enter (R := fun v w' => R v w' ∧ Below w.heap.size w w') hi hd hw (by rw [h.size]; exact hN) r hc fun _ _ _ hR U hf => h.step nd (OkL.mono l) i hDi U hf hR.2 (ok _ _ hR.1) (fun q => by cases q)
end

section
variable {a : Act} {w : World} {d : Option Nat} {t : TypeId} {p : String} {af : Array Edge} {g : Option (Nat × Bool)}
theorem run_not {x : Operand} {b : Bool} (h : a.eval x = .bool b) : (execOp a.eval ⟨d, .unOp .not 4 x, t, p, af, g⟩).run Try.prog w = .ok (.value (.bool (!b))) w := by
  generalize a.eval = E at h ⊢
  simp [go_sem, h]
theorem run_mv {x : Operand} {v : Value} (h : a.eval x = v) : (execOp a.eval ⟨d, .move x, t, p, af, g⟩).run Try.prog w = .ok (.value v) w := by
  generalize a.eval = E at h ⊢
  simp [go_sem, h]
theorem run_asg {x : Operand} {v : Value} (h : a.eval x = v) : (execOp a.eval ⟨d, .assign x, t, p, af, g⟩).run Try.prog w = .ok (.value v) w := by
  generalize a.eval = E at h ⊢
  simp [go_sem, h]
theorem run_pickT {c x y : Operand} {v : Value} (h : a.eval c = .bool true) (hx : a.eval x = v) : (execOp a.eval ⟨d, .pick c x y, t, p, af, g⟩).run Try.prog w = .ok (.value v) w := by
  generalize a.eval = E at h hx ⊢
  simp [go_sem, h, hx]
theorem run_pickF {c x y : Operand} {v : Value} (h : a.eval c = .bool false) (hy : a.eval y = v) : (execOp a.eval ⟨d, .pick c x y, t, p, af, g⟩).run Try.prog w = .ok (.value v) w := by
  generalize a.eval = E at h hy ⊢
  simp [go_sem, h, hy]
theorem run_call1 {n : Nat} {x : Operand} {vx : Value} {ts : Array TypeId} (hx : a.eval x = vx) (hf : ∀ (zs : Array Value) (w : World), Sem.run Try.prog (callFunc n zs) w = .ok (.enter n zs) w) :
    (execOp a.eval ⟨d, .call { callee := .value (.func n), args := #[x], argTypes := ts }, t, p, af, g⟩).run Try.prog w = .ok (.enter n #[vx]) w := by
  have e1 : a.eval (.func n) = .func (.func n) #[] #[] := rfl
  generalize a.eval = E at hx e1 ⊢
  simp [go_sem, hx, e1, hf]
theorem run_call2 {n : Nat} {x y : Operand} {vx vy : Value} {ts : Array TypeId} (hx : a.eval x = vx) (hy : a.eval y = vy) (hf : ∀ (zs : Array Value) (w : World), Sem.run Try.prog (callFunc n zs) w = .ok (.enter n zs) w) :
    (execOp a.eval ⟨d, .call { callee := .value (.func n), args := #[x, y], argTypes := ts }, t, p, af, g⟩).run Try.prog w = .ok (.enter n #[vx, vy]) w := by
  have e1 : a.eval (.func n) = .func (.func n) #[] #[] := rfl
  generalize a.eval = E at hx hy e1 ⊢
  simp [go_sem, hx, hy, e1, hf]
end
end Go.Proofs.Ytibkemolmpcdcaa

/- Walks: wrongOf, size, cmp.Compare, stretched, compareSizes, Cmp. -/
namespace Go.Proofs.Ytibkemolmpcdcaa
open Go.RowKit

theorem bcell {W w1 : World} (hb : Below W.heap.size W w1) : (∀ b o, b < W.heap.size → w1.cell? ⟨b, o, none⟩ = W.cell? ⟨b, o, none⟩) ∧ (∀ b o, b < W.heap.size → w1.frozen? ⟨b, o, none⟩ = W.frozen? ⟨b, o, none⟩) :=
  ⟨fun b o h => hb.cell (p := ⟨b, o, none⟩) h, fun b o h => hb.frozen (p := ⟨b, o, none⟩) h⟩

set_option maxHeartbeats 400000 in
theorem wrongOf_any (c1 x1 c2 x2 : Int) (w : World) :
    Calls Try.prog 33 #[.agg #[.int .i64 c1, .int .i64 x1], .agg #[.int .i64 c2, .int .i64 x2]] w fun e w' => e = .returned (.int .i64 (Dm.wrong2 c1 x1 c2 x2)) ∧ Below w.heap.size w w' := by
  go_enter Try.func33, Try.ntmps33
  go_wp2_with fail
  refine (wrong_any c1 x1 _).mono ?_
  rintro e w1 ⟨rfl, hb⟩
  obtain ⟨hc, hf⟩ := bcell hb
  have hz : w.heap.size + 2 ≤ w1.heap.size := by have := hb.size; simp at this; omega
  have hb0 : Below w.heap.size w w1 := (((Below.refl _ _).alloc (Nat.le_refl _) _).alloc (by simp) _).trans (hb.mono (by simp; omega))
  by_cases h : Dm.wrongN c1 x1 = 0
  · have H := hide (Dm.wrong2_ok h c2 x2)
    have h' : (Dm.wrongN c1 x1 != 0) = false := by simp [h]
    clear h
    go_wp2_with fail
    refine (wrong_any c2 x2 _).mono ?_
    rintro e w2 ⟨rfl, hb2⟩
    go_wp2
    go_ret
    exact ⟨ret_int (unhide H).symm, hb0.trans (hb2.mono (by omega))⟩
  · have H := hide (Dm.wrong2_no h c2 x2)
    have h' : (Dm.wrongN c1 x1 != 0) = true := by simp [h]
    clear h
    go_wp2
    go_ret
    exact ⟨ret_int (unhide H).symm, hb0⟩

set_option maxHeartbeats 400000 in
theorem size_any (c x : Int) (w : World) (h1 : -1000000000000000000 < c) (h2 : c < 1000000000000000000) :
    Calls Try.prog 44 #[.agg #[.int .i64 c, .int .i64 x]] w fun e w' => e = .returned (.int .u64 (c.natAbs : Int)) ∧ Below w.heap.size w w' := by
  by_cases h : c < 0
  all_goals
    go_enter Try.func44, Try.ntmps44
    go_wp2
    go_ret
    refine ⟨ret_int ?_, (Below.refl _ _).alloc (Nat.le_refl _) _⟩
    omega

set_option maxHeartbeats 400000 in
theorem cmpI64_any (a b : Int) (w : World) :
    Calls Try.prog 40 #[.int .i64 a, .int .i64 b] w fun e w' => e = .returned (.int .i64 (Dm.sgn (a - b))) ∧ w' = w := by
  go_enter Try.func40, Try.ntmps40
  go_wp2
  all_goals
    go_ret
    refine ⟨ret_int ?_, rfl⟩
    unfold Dm.sgn
    (repeat' split) <;> omega

set_option maxHeartbeats 400000 in
theorem cmpInt_any (a b : Int) (w : World) :
    Calls Try.prog 41 #[.int .i64 a, .int .i64 b] w fun e w' => e = .returned (.int .i64 (Dm.sgn (a - b))) ∧ w' = w := by
  go_enter Try.func41, Try.ntmps41
  go_wp2
  all_goals
    go_ret
    refine ⟨ret_int ?_, rfl⟩
    unfold Dm.sgn
    (repeat' split) <;> omega

set_option maxHeartbeats 400000 in
theorem cmpU64_any (a b : Int) (w : World) :
    Calls Try.prog 77 #[.int .u64 a, .int .u64 b] w fun e w' => e = .returned (.int .i64 (Dm.sgn (a - b))) ∧ w' = w := by
  go_enter Try.func77, Try.ntmps77
  go_wp2
  all_goals
    go_ret
    refine ⟨ret_int ?_, rfl⟩
    unfold Dm.sgn
    (repeat' split) <;> omega
end Go.Proofs.Ytibkemolmpcdcaa

/- Words of thirty-two bits, the least first: plain facts. -/
namespace Go.Proofs.Ytibkemolmpcdcaa
namespace Bg

def val : List Nat → Nat
  | [] => 0
  | x :: xs => x + 4294967296 * val xs
def Ok (ws : List Nat) : Prop := ∀ x ∈ ws, x < 4294967296
def wd (n : Nat) : List Nat := if n = 0 then [] else (n % 4294967296) :: wd (n / 4294967296)
termination_by n
decreasing_by omega

theorem wd_zero : wd 0 = [] := by rw [wd, if_pos rfl]
theorem wd_pos {n : Nat} (h : n ≠ 0) : wd n = (n % 4294967296) :: wd (n / 4294967296) := by rw [wd, if_neg h]
theorem wd_nil {n : Nat} : wd n = [] ↔ n = 0 := by
  constructor
  · intro h
    by_cases e : n = 0
    · exact e
    · rw [wd_pos e] at h; cases h
  · rintro rfl; exact wd_zero
theorem wd_ok : ∀ n, Ok (wd n) := by
  intro n
  induction n using Nat.strongRecOn with
  | _ n ih =>
    by_cases e : n = 0
    · rw [e, wd_zero]; intro x hx; cases hx
    · rw [wd_pos e]
      intro x hx
      rcases List.mem_cons.1 hx with rfl | hx
      · omega
      · exact ih (n / 4294967296) (by omega) x hx
theorem val_wd : ∀ n, val (wd n) = n := by
  intro n
  induction n using Nat.strongRecOn with
  | _ n ih =>
    by_cases e : n = 0
    · rw [e, wd_zero]; rfl
    · rw [wd_pos e, val, ih (n / 4294967296) (by omega)]
      omega
theorem val_app : ∀ (xs ys : List Nat), val (xs ++ ys) = val xs + 4294967296 ^ xs.length * val ys
  | [], ys => by simp [val]
  | x :: xs, ys => by
    rw [List.cons_append, val, val, val_app xs ys, List.length_cons, Nat.pow_succ, Nat.mul_add, Nat.mul_comm (4294967296 ^ xs.length) 4294967296, Nat.mul_assoc]
    omega
theorem Ok.tail {x : Nat} {xs : List Nat} (h : Ok (x :: xs)) : Ok xs := fun y hy => h y (List.mem_cons_of_mem _ hy)
theorem Ok.head {x : Nat} {xs : List Nat} (h : Ok (x :: xs)) : x < 4294967296 := h x List.mem_cons_self
theorem Ok.take {xs : List Nat} (h : Ok xs) (i : Nat) : Ok (xs.take i) := fun y hy => h y (List.mem_of_mem_take hy)
theorem Ok.drop {xs : List Nat} (h : Ok xs) (i : Nat) : Ok (xs.drop i) := fun y hy => h y (List.mem_of_mem_drop hy)
theorem Ok.set {xs : List Nat} (h : Ok xs) (i : Nat) {y : Nat} (hy : y < 4294967296) : Ok (xs.set i y) := fun z hz => by
  rcases List.mem_or_eq_of_mem_set hz with hz | rfl
  · exact h z hz
  · exact hy
theorem Ok.zeros (n : Nat) : Ok (List.replicate n 0) := fun y hy => by rw [List.eq_of_mem_replicate hy]; omega
theorem Ok.at {xs : List Nat} (h : Ok xs) {i x : Nat} (hx : xs[i]? = some x) : x < 4294967296 := h x (List.mem_of_getElem? hx)
theorem val_lt : ∀ {ws : List Nat}, Ok ws → val ws < 4294967296 ^ ws.length
  | [], _ => by simp [val]
  | x :: xs, h => by
    have := val_lt h.tail
    have hx := h.head
    rw [val, List.length_cons, Nat.pow_succ]
    have : 4294967296 * (val xs + 1) ≤ 4294967296 * 4294967296 ^ xs.length := Nat.mul_le_mul_left _ this
    rw [Nat.mul_comm (4294967296 ^ xs.length)]
    omega
theorem val_zeros (n : Nat) : val (List.replicate n 0) = 0 := by
  induction n with
  | zero => rfl
  | succ n ih => rw [List.replicate_succ, val, ih]
theorem val_all0 : ∀ {ws : List Nat}, (∀ x ∈ ws, x = 0) → val ws = 0
  | [], _ => rfl
  | x :: xs, h => by rw [val, h x List.mem_cons_self, val_all0 (fun y hy => h y (List.mem_cons_of_mem _ hy))]
theorem wd_val : ∀ {ws : List Nat}, Ok ws → (∀ h : ws ≠ [], ws.getLast h ≠ 0) → wd (val ws) = ws
  | [], _, _ => by rw [val, wd_zero]
  | [x], h, hl => by
    have hx := h.head
    have h0 : x ≠ 0 := hl (by simp)
    rw [val, val, Nat.mul_zero, Nat.add_zero, wd_pos h0, Nat.mod_eq_of_lt hx, Nat.div_eq_of_lt hx, wd_zero]
  | x :: y :: ys, h, hl => by
    have ih := wd_val h.tail (fun hn => by have := hl (by simp); rwa [List.getLast_cons hn] at this)
    have hx := h.head
    have hv : val (y :: ys) ≠ 0 := fun e => by rw [e, wd_zero] at ih; cases ih
    rw [val, wd_pos (by omega), show (x + 4294967296 * val (y :: ys)) % 4294967296 = x by omega, show (x + 4294967296 * val (y :: ys)) / 4294967296 = val (y :: ys) by omega, ih]
theorem val_take_drop (ws : List Nat) (i : Nat) (h : i ≤ ws.length) : val ws = val (ws.take i) + 4294967296 ^ i * val (ws.drop i) := by
  have := val_app (ws.take i) (ws.drop i)
  rwa [List.take_append_drop, List.length_take, Nat.min_eq_left h] at this
theorem wd_trim {ws : List Nat} (ok : Ok ws) {n : Nat} (hn : n ≤ ws.length) (hz : ∀ j x, n ≤ j → ws[j]? = some x → x = 0) (hl : ∀ x, 0 < n → ws[n - 1]? = some x → x ≠ 0) : ws.take n = wd (val ws) := by
  have h0 : val (ws.drop n) = 0 := by
    refine val_all0 fun x hx => ?_
    obtain ⟨i, hi⟩ := List.getElem?_of_mem hx
    rw [List.getElem?_drop] at hi
    exact hz _ x (by omega) hi
  rw [val_take_drop ws n hn, h0, Nat.mul_zero, Nat.add_zero]
  refine (wd_val (ok.take n) fun hne => ?_).symm
  have hn0 : 0 < n := by
    rcases Nat.eq_zero_or_pos n with e | e
    · rw [e] at hne; exact absurd rfl hne
    · exact e
  refine hl _ hn0 ?_
  rw [List.getLast_eq_getElem, List.getElem_take]
  have : (ws.take n).length - 1 = n - 1 := by rw [List.length_take, Nat.min_eq_left hn]
  simp only [this]
  exact List.getElem?_eq_getElem (by omega)
theorem val_succ (ws : List Nat) (i x : Nat) (h : ws[i]? = some x) : val (ws.take (i + 1)) = val (ws.take i) + 4294967296 ^ i * x := by
  have hi := (List.getElem?_eq_some_iff.1 h).1
  rw [List.take_add_one, h, Option.toList_some, val_app, List.length_take, Nat.min_eq_left (by omega)]
  simp [val]
theorem val_split (ws : List Nat) (i x : Nat) (h : ws[i]? = some x) : val ws = val (ws.take i) + 4294967296 ^ i * (x + 4294967296 * val (ws.drop (i + 1))) := by
  have hi := (List.getElem?_eq_some_iff.1 h).1
  rw [val_take_drop ws i (by omega), List.drop_eq_getElem_cons hi, val, show ws[i] = x from (List.getElem?_eq_some_iff.1 h).2]
theorem val_set (ws : List Nat) (i x y : Nat) (h : ws[i]? = some x) : val (ws.set i y) + 4294967296 ^ i * x = val ws + 4294967296 ^ i * y := by
  have hi := (List.getElem?_eq_some_iff.1 h).1
  have e := val_split (ws.set i y) i y (by simp [hi])
  rw [e, val_split ws i x h, List.take_set_of_le (Nat.le_refl _), List.drop_set_of_lt (by omega), Nat.mul_add, Nat.mul_add]
  omega
theorem val_top {us vs : List Nat} {i x y : Nat} (ha : Ok us) (hx : us[i]? = some x) (hy : vs[i]? = some y) (hd : us.drop (i + 1) = vs.drop (i + 1)) (hlt : x < y) : val us < val vs := by
  have hi := (List.getElem?_eq_some_iff.1 hx).1
  rw [val_split us i x hx, val_split vs i y hy, hd]
  have l := val_lt (ha.take i)
  rw [List.length_take, Nat.min_eq_left (by omega)] at l
  have : 4294967296 ^ i * (x + 4294967296 * val (vs.drop (i + 1)) + 1) ≤ 4294967296 ^ i * (y + 4294967296 * val (vs.drop (i + 1))) := Nat.mul_le_mul_left _ (by omega)
  rw [Nat.mul_add, Nat.mul_one] at this
  omega
theorem wd_len_le : ∀ (k n : Nat), n < 4294967296 ^ k → (wd n).length ≤ k
  | 0, n, h => by
    have : n = 0 := by simpa using h
    rw [this, wd_zero]; exact Nat.le_refl _
  | k + 1, n, h => by
    by_cases e : n = 0
    · rw [e, wd_zero]; simp
    · rw [wd_pos e, List.length_cons]
      have := wd_len_le k (n / 4294967296) (by rw [Nat.pow_succ] at h; exact Nat.div_lt_of_lt_mul (by rwa [Nat.mul_comm] at h))
      omega
theorem wd_lt (n : Nat) : n < 4294967296 ^ (wd n).length := by
  have := val_lt (wd_ok n)
  rwa [val_wd] at this
theorem wd_mono {a b : Nat} (h : a ≤ b) : (wd a).length ≤ (wd b).length := wd_len_le _ _ (Nat.lt_of_le_of_lt h (wd_lt b))
theorem lt_of_len {a b : Nat} (h : (wd a).length < (wd b).length) : a < b := by
  rcases Nat.lt_or_ge a b with g | g
  · exact g
  · have := wd_mono g; omega
theorem wd_inj {a b : Nat} (h : wd a = wd b) : a = b := by rw [← val_wd a, h, val_wd]
theorem wd_last {n : Nat} (h : n ≠ 0) : ∃ x, (wd n)[(wd n).length - 1]? = some x ∧ x ≠ 0 ∧ x < 4294967296 := by
  induction n using Nat.strongRecOn with
  | _ n ih =>
    rw [wd_pos h]
    by_cases e : n / 4294967296 = 0
    · rw [e, wd_zero]
      exact ⟨n % 4294967296, rfl, by omega, by omega⟩
    · obtain ⟨x, hx, h0, hb⟩ := ih _ (by omega) e
      refine ⟨x, ?_, h0, hb⟩
      have hp : 0 < (wd (n / 4294967296)).length := by
        rcases Nat.eq_zero_or_pos (wd (n / 4294967296)).length with q | q
        · exact absurd (wd_nil.1 (List.length_eq_zero_iff.1 q)) e
        · exact q
      rw [List.length_cons, Nat.add_sub_cancel]
      obtain ⟨k, hk⟩ : ∃ k, (wd (n / 4294967296)).length = k + 1 := ⟨_, (Nat.succ_pred_eq_of_pos hp).symm⟩
      rw [hk] at hx ⊢
      simpa using hx
theorem wd_one {n : Nat} (h : n < 4294967296) (h0 : n ≠ 0) : wd n = [n] := by rw [wd_pos h0, Nat.mod_eq_of_lt h, Nat.div_eq_of_lt h, wd_zero]
theorem carry (M T : Nat) : M * (T % 4294967296) + T / 4294967296 * (M * 4294967296) = M * T := by
  have h := Nat.div_add_mod T 4294967296
  have e : M * T = M * (4294967296 * (T / 4294967296) + T % 4294967296) := by rw [h]
  rw [e]
  grind
theorem zero_set {rs : List Nat} {m t : Nat} (h : ∀ j x, m ≤ j → rs[j]? = some x → x = 0) : ∀ j x, m + 1 ≤ j → (rs.set m t)[j]? = some x → x = 0 := fun j x hj hx => by
  rw [List.getElem?_set_ne (by omega)] at hx
  exact h j x (by omega) hx
theorem zero_rep (n : Nat) : ∀ j x, 0 ≤ j → (List.replicate n 0)[j]? = some x → x = 0 := fun j x _ hx => by
  rw [List.getElem?_replicate] at hx
  split at hx
  · exact (Option.some.inj hx).symm
  · cases hx
theorem val_set0 {rs : List Nat} {m t : Nat} (h : ∀ j x, m ≤ j → rs[j]? = some x → x = 0) (hm : m < rs.length) : val (rs.set m t) = val rs + 4294967296 ^ m * t := by
  have e := List.getElem?_eq_getElem hm
  rw [h m _ (Nat.le_refl _) e] at e
  have := val_set rs m 0 t e
  omega
theorem take_one (us : List Nat) (m : Nat) : val (us.take (m + 1)) = val (us.take m) + 4294967296 ^ m * (us[m]?.getD 0) := by
  cases h : us[m]? with
  | some x => exact val_succ us m x h
  | none =>
    have : us.length ≤ m := List.getElem?_eq_none_iff.1 h
    rw [List.take_of_length_le (by omega), List.take_of_length_le this]
    simp
theorem add_step {R c M a b x y : Nat} (h : R + c * M = a + b) : R + M * ((c + x + y) % 4294967296) + (c + x + y) / 4294967296 * (M * 4294967296) = a + M * x + (b + M * y) := by
  have e := carry M (c + x + y)
  have e2 : M * (c + x + y) = c * M + M * x + M * y := by grind
  omega
theorem borrow {x c y e1 e2 : Nat} (hx : x < 4294967296) (hc : c ≤ 1) (hy : y < 4294967296) (h1 : e1 = (x + 18446744073709551616 - c) % 18446744073709551616) (h2 : e2 = (e1 + 18446744073709551616 - y) % 18446744073709551616) : x + e2 / 9223372036854775808 * 4294967296 = e2 % 4294967296 + c + y ∧ e2 / 9223372036854775808 ≤ 1 := by omega
theorem sub_step {R c c2 M a b x y t : Nat} (h : a + c * M = R + b) (h2 : x + c2 * 4294967296 = t + c + y) : a + M * x + c2 * (M * 4294967296) = R + M * t + (b + M * y) := by
  have e : M * x + c2 * (M * 4294967296) = M * (x + c2 * 4294967296) := by grind
  have e2 : M * (x + c2 * 4294967296) = M * t + c * M + M * y := by rw [h2]; grind
  omega
theorem mul_step {R R2 M c r p T A : Nat} (hs : R2 + M * r = R + M * (T % 4294967296)) (h : R + c * M = A) (hT : T = c + (p + r)) : R2 + T / 4294967296 * (M * 4294967296) = A + M * p := by
  have e := carry M T
  have e2 : M * T = c * M + M * p + M * r := by rw [hT]; grind
  omega
theorem mul_lt {x y c r : Nat} (hx : x < 4294967296) (hy : y < 4294967296) (hc : c < 4294967296) (hr : r < 4294967296) : x * y < 18446744073709551616 ∧ x * y + r < 18446744073709551616 ∧ c + (x * y + r) < 18446744073709551616 := by
  have : x * y ≤ 4294967295 * 4294967295 := Nat.mul_le_mul (by omega) (by omega)
  omega
theorem mul_row {M v x y k : Nat} : x * k * (v + M * y) = x * k * v + k * M * (x * y) := by grind
theorem drop_set {us : List Nat} {k t : Nat} (h : k < us.length) : (us.set k t).drop k = t :: us.drop (k + 1) := by
  rw [List.drop_eq_getElem_cons (by simpa using h), List.getElem_set_self, List.drop_set_of_lt (by omega)]
theorem small_step {V Q d r x h : Nat} (hE : V = Q * d + r) (hh : h = x + 4294967296 * r) : x + 4294967296 * V = (h / d + 4294967296 * Q) * d + h % d := by
  have e := Nat.div_add_mod h d
  have e2 : (h / d + 4294967296 * Q) * d = d * (h / d) + 4294967296 * (Q * d) := by grind
  rw [e2, hE]
  omega
theorem small_lt {d r x h : Nat} (hr : r < d) (hx : x < 4294967296) (hh : h = x + 4294967296 * r) : h / d < 4294967296 := by
  rw [Nat.div_lt_iff_lt_mul (by omega), hh]
  have : 4294967296 * (r + 1) ≤ 4294967296 * d := Nat.mul_le_mul_left _ hr
  omega
theorem left_facts {s x h : Nat} (hs : s < 32) (hx : x < 4294967296) (hh : h < 2 ^ s) : h ||| x * 2 ^ s % 4294967296 = h + x * 2 ^ s % 4294967296 ∧ h + x * 2 ^ s % 4294967296 < 4294967296 ∧ x * 2 ^ s / 4294967296 < 2 ^ s ∧ 2 ^ s ≤ 2147483648 := by
  have e0 : (4294967296 : Nat) = 2 ^ s * 2 ^ (32 - s) := by rw [← Nat.pow_add, show s + (32 - s) = 32 by omega]
  have e1 : x * 2 ^ s % 4294967296 = 2 ^ s * (x % 2 ^ (32 - s)) := by rw [e0, Nat.mul_comm x, Nat.mul_mod_mul_left]
  have l1 : x % 2 ^ (32 - s) < 2 ^ (32 - s) := Nat.mod_lt _ (Nat.pow_pos (by omega))
  have l2 : 2 ^ s * (x % 2 ^ (32 - s) + 1) ≤ 2 ^ s * 2 ^ (32 - s) := Nat.mul_le_mul_left _ l1
  rw [← e0, Nat.mul_add, Nat.mul_one] at l2
  have l3 : 2 ^ s ≤ 2 ^ 31 := Nat.pow_le_pow_right (by omega) (by omega)
  refine ⟨?_, by omega, ?_, by omega⟩
  · rw [e1, Nat.or_comm, ← Nat.two_pow_add_eq_or_of_lt hh, Nat.add_comm]
  · rw [Nat.div_lt_iff_lt_mul (by omega), Nat.mul_comm]
    exact Nat.mul_lt_mul_of_pos_left hx (Nat.pow_pos (by omega))
theorem left_step {R R1 R2 M h T : Nat} (h1 : R1 + M * h = R + M * (h + T % 4294967296)) (h2 : R2 = R1 + M * 4294967296 * (T / 4294967296)) : R2 = R + M * T := by
  have e := carry M T
  have e2 : M * (h + T % 4294967296) = M * h + M * (T % 4294967296) := Nat.mul_add _ _ _
  have e3 : M * 4294967296 * (T / 4294967296) = T / 4294967296 * (M * 4294967296) := Nat.mul_comm _ _
  omega
def cmpN (a b : Nat) : Int := if a < b then -1 else if a = b then 0 else 1
theorem cmpN_lt {a b : Nat} (h : a < b) : cmpN a b = -1 := by rw [cmpN, if_pos h]
theorem cmpN_gt {a b : Nat} (h : b < a) : cmpN a b = 1 := by rw [cmpN, if_neg (by omega), if_neg (by omega)]
theorem cmpN_eq {a b : Nat} (h : a = b) : cmpN a b = 0 := by rw [cmpN, if_neg (by omega), if_pos h]
end Bg
end Go.Proofs.Ytibkemolmpcdcaa

/- Division word by word from above: plain facts. -/
namespace Go.Proofs.Ytibkemolmpcdcaa
namespace Bg

theorem val_div (ws : List Nat) (ok : Ok ws) (i : Nat) (h : i ≤ ws.length) : val ws / 4294967296 ^ i = val (ws.drop i) ∧ val ws % 4294967296 ^ i = val (ws.take i) := by
  have l := val_lt (ok.take i)
  rw [List.length_take, Nat.min_eq_left h] at l
  rw [val_take_drop ws i h]
  have hp : 0 < 4294967296 ^ i := Nat.pow_pos (by omega)
  constructor
  · rw [Nat.add_mul_div_left _ _ hp, Nat.div_eq_of_lt l, Nat.zero_add]
  · rw [Nat.add_mul_mod_self_left, Nat.mod_eq_of_lt l]
theorem val_word {ws : List Nat} (ok : Ok ws) {i x : Nat} (h : ws[i]? = some x) : val ws / 4294967296 ^ i = x + 4294967296 * (val ws / 4294967296 ^ (i + 1)) := by
  have hi := (List.getElem?_eq_some_iff.1 h).1
  rw [(val_div ws ok i (by omega)).1, (val_div ws ok (i + 1) (by omega)).1, List.drop_eq_getElem_cons hi, val, show ws[i] = x from (List.getElem?_eq_some_iff.1 h).2]

theorem val_none {ws : List Nat} (ok : Ok ws) {i : Nat} (h : ws.length ≤ i) : val ws / 4294967296 ^ i = 0 :=
  Nat.div_eq_of_lt (Nat.lt_of_lt_of_le (val_lt ok) (Nat.pow_le_pow_right (by omega) h))
theorem right_dig {X M s x y K : Nat} (hs : s < 32) (h1 : X / M = x + 4294967296 * (y + 4294967296 * K)) : X / 2 ^ s / M % 4294967296 = (x + 4294967296 * y) / 2 ^ s % 4294967296 := by
  have e0 : (18446744073709551616 : Nat) = 2 ^ s * (4294967296 * 2 ^ (32 - s)) := by
    have : (4294967296 : Nat) = 2 ^ s * 2 ^ (32 - s) := by rw [← Nat.pow_add, show s + (32 - s) = 32 by omega]
    have e : 2 ^ s * (4294967296 * 2 ^ (32 - s)) = 4294967296 * (2 ^ s * 2 ^ (32 - s)) := by grind
    rw [e, ← this]
  rw [Nat.div_div_eq_div_mul, Nat.mul_comm, ← Nat.div_div_eq_div_mul, h1]
  have e1 : x + 4294967296 * (y + 4294967296 * K) = x + 4294967296 * y + 2 ^ s * (4294967296 * 2 ^ (32 - s) * K) := by
    rw [← Nat.mul_assoc (2 ^ s), ← e0]
    omega
  rw [e1, Nat.add_mul_div_left _ _ (Nat.pow_pos (by omega)), Nat.mul_assoc, Nat.add_mul_mod_self_left]
theorem mod_step (Y M : Nat) : Y % (M * 4294967296) = Y % M + M * (Y / M % 4294967296) := Nat.mod_mul

/-- a first guess is not too small -/
theorem k_ge {q V U h top P : Nat} (hq : q * V ≤ U) (hU : U < (h + 1) * P) (hV : top * P ≤ V) (ht : 0 < top) : q ≤ h / top := by
  rw [Nat.le_div_iff_mul_le ht]
  have h1 : q * top * P ≤ q * V := by
    have := Nat.mul_le_mul_left q hV
    rwa [← Nat.mul_assoc] at this
  have : q * top * P < (h + 1) * P := by omega
  have := Nat.lt_of_mul_lt_mul_right this
  omega
/-- a guess that the next word shows too great is too great -/
theorem k_dec {V U h top next u2 g r P U2 V2 : Nat} (hU : U = h * (4294967296 * P) + u2 * P + U2) (hU2 : U2 < P) (hV : V = top * (4294967296 * P) + next * P + V2) (hg : g * top + r = h) (hc : r * 4294967296 + u2 < g * next) : U < g * V := by
  have h1 : (r * 4294967296 + u2 + 1) * P ≤ g * next * P := Nat.mul_le_mul_right _ hc
  have e1 : (r * 4294967296 + u2 + 1) * P = r * (4294967296 * P) + u2 * P + P := by grind
  have e2 : h * (4294967296 * P) = g * top * (4294967296 * P) + r * (4294967296 * P) := by rw [← hg]; grind
  have e3 : g * V = g * top * (4294967296 * P) + g * next * P + g * V2 := by rw [hV]; grind
  rw [e3, hU, e2]
  omega
/-- a guess that the next word does not show too great is too great by one at most -/
theorem k_exit {V U h top next u2 g r P U2 V2 : Nat} (hU : U = h * (4294967296 * P) + u2 * P + U2) (hV : V = top * (4294967296 * P) + next * P + V2) (hV2 : V2 < P) (ht : 0 < top) (hg : g * top + r = h) (hb : g < 4294967296) (hc : g * next ≤ r * 4294967296 + u2) : g * V < U + V := by
  have h1 : g * next * P ≤ (r * 4294967296 + u2) * P := Nat.mul_le_mul_right _ hc
  have e1 : (r * 4294967296 + u2) * P = r * (4294967296 * P) + u2 * P := by grind
  have e2 : h * (4294967296 * P) = g * top * (4294967296 * P) + r * (4294967296 * P) := by rw [← hg]; grind
  have e3 : g * V = g * top * (4294967296 * P) + g * next * P + g * V2 := by rw [hV]; grind
  have h2 : g * V2 ≤ 4294967295 * V2 := Nat.mul_le_mul_right _ (by omega)
  have h3 : 1 * (4294967296 * P) ≤ top * (4294967296 * P) := Nat.mul_le_mul_right _ ht
  rw [e3, hU, e2]
  rw [hV]
  omega

/-- one step: what was subtracted once too often is added back -/
theorem k_step {A Q V X q Bj : Nat} (hBj : 0 < Bj) (hA : A = Q * V * (4294967296 * Bj) + X) (hq : q = X / Bj / V) (hV : 0 < V) :
    q * V * Bj ≤ X ∧ A = (Q * 4294967296 + q) * V * Bj + (X - q * V * Bj) ∧ X - q * V * Bj < V * Bj := by
  have h1 : q * V ≤ X / Bj := by rw [hq]; exact Nat.div_mul_le_self _ _
  have h2 : X / Bj < (q + 1) * V := by rw [hq, Nat.mul_comm]; exact Nat.lt_mul_div_succ _ hV
  have h3 : X / Bj * Bj ≤ X := Nat.div_mul_le_self _ _
  have h4 : X < (X / Bj + 1) * Bj := by rw [Nat.mul_comm]; exact Nat.lt_mul_div_succ _ hBj
  have h5 : q * V * Bj ≤ X := Nat.le_trans (Nat.mul_le_mul_right _ h1) h3
  have h6 : (X / Bj + 1) * Bj ≤ (q + 1) * V * Bj := Nat.mul_le_mul_right _ h2
  have e1 : (q + 1) * V * Bj = q * V * Bj + V * Bj := by grind
  have e2 : (Q * 4294967296 + q) * V * Bj = Q * V * (4294967296 * Bj) + q * V * Bj := by grind
  refine ⟨h5, ?_, ?_⟩
  · rw [e2, hA]; omega
  · omega

/-- what is known while a digit is guessed -/
structure Gs (U V h top next u2 P : Nat) : Prop where
  ex : ∃ U2 V2, U = h * (4294967296 * P) + u2 * P + U2 ∧ U2 < P ∧ V = top * (4294967296 * P) + next * P + V2 ∧ V2 < P
  top0 : 0 < top
  next1 : next < 4294967296
  lt : U < V * 4294967296
theorem Gs.pos {U V h top next u2 P : Nat} (G : Gs U V h top next u2 P) : 0 < V := by
  rcases Nat.eq_zero_or_pos V with e | e
  · have := G.lt; rw [e] at this; omega
  · exact e
theorem Gs.start {U V h top next u2 P : Nat} (G : Gs U V h top next u2 P) (hu : u2 < 4294967296) : U / V ≤ h / top := by
  obtain ⟨U2, V2, e1, l1, e2, _⟩ := G.ex
  refine k_ge (V := V) (U := U) (P := 4294967296 * P) (Nat.div_mul_le_self _ _) ?_ (by omega) G.top0
  have : u2 * P ≤ 4294967295 * P := Nat.mul_le_mul_right _ (by omega)
  rw [Nat.add_mul]
  omega
theorem Gs.down {U V h top next u2 P g r : Nat} (G : Gs U V h top next u2 P) (hg : g * top + r = h) (hc : 4294967295 < g ∨ r * 4294967296 + u2 < g * next) : U / V ≤ g - 1 ∧ 0 < g ∧ (g - 1) * top + (r + top) = h := by
  obtain ⟨U2, V2, e1, l1, e2, _⟩ := G.ex
  have h1 : U / V < g := by
    rcases hc with hc | hc
    · have : U / V < 4294967296 := (Nat.div_lt_iff_lt_mul G.pos).2 (by rw [Nat.mul_comm]; exact G.lt)
      omega
    · exact (Nat.div_lt_iff_lt_mul G.pos).2 (k_dec e1 l1 e2 hg hc)
  obtain ⟨k, rfl⟩ : ∃ k, g = k + 1 := ⟨g - 1, (Nat.succ_pred_eq_of_pos (Nat.lt_of_le_of_lt (Nat.zero_le _) h1)).symm⟩
  refine ⟨by simp only [Nat.add_sub_cancel]; exact Nat.lt_succ_iff.1 h1, by simp, ?_⟩
  rw [Nat.add_sub_cancel, ← hg, Nat.add_mul]
  omega
theorem Gs.high {U V h top next u2 P : Nat} (G : Gs U V h top next u2 P) : h ≤ top * 4294967296 + next := by
  obtain ⟨U2, V2, e1, l1, e2, l2⟩ := G.ex
  have h0 := G.lt
  have h1 : V * 4294967296 < (top * 4294967296 + next + 1) * (4294967296 * P) := by
    have : V + 1 ≤ (top * 4294967296 + next + 1) * P := by
      have e : (top * 4294967296 + next + 1) * P = top * (4294967296 * P) + next * P + P := by grind
      omega
    have := Nat.mul_le_mul_right 4294967296 this
    have e : (top * 4294967296 + next + 1) * P * 4294967296 = (top * 4294967296 + next + 1) * (4294967296 * P) := by grind
    omega
  have h2 : h * (4294967296 * P) < (top * 4294967296 + next + 1) * (4294967296 * P) := by omega
  have := Nat.lt_of_mul_lt_mul_right h2
  omega
theorem Gs.stop {U V h top next u2 P g r : Nat} (G : Gs U V h top next u2 P) (hg : g * top + r = h) (hc : (g ≤ 4294967295 ∧ g * next ≤ r * 4294967296 + u2) ∨ 4294967295 < r) : g ≤ 4294967295 ∧ g ≤ U / V + 1 := by
  obtain ⟨U2, V2, e1, l1, e2, l2⟩ := G.ex
  have hb : g ≤ 4294967295 ∧ g * next ≤ r * 4294967296 + u2 := by
    rcases hc with hc | hc
    · exact hc
    · have hh := G.high
      have hn := G.next1
      have h1 : g < 4294967296 := by
        have : g * top < 4294967296 * top := by rw [Nat.mul_comm 4294967296]; omega
        exact Nat.lt_of_mul_lt_mul_right this
      refine ⟨by omega, ?_⟩
      have : g * next ≤ 4294967295 * 4294967295 := Nat.mul_le_mul (by omega) (by omega)
      omega
  refine ⟨hb.1, ?_⟩
  have h1 := k_exit e1 e2 l2 G.top0 hg (by omega) hb.2
  have h2 : U < (U / V + 1) * V := by rw [Nat.mul_comm]; exact Nat.lt_mul_div_succ _ G.pos
  have h3 : g * V < (U / V + 1 + 1) * V := by rw [Nat.add_mul (U / V + 1)]; omega
  have := Nat.lt_of_mul_lt_mul_right h3
  omega

/-- nothing was borrowed: the guess was right -/
theorem k_fine {X Y X' g V Bj M c d un : Nat} (hBj : 0 < Bj) (hV : 0 < V) (hq : X / Bj / V ≤ g) (he : X + (c + d) * M = Y + g * V * Bj) (hs : X' + M * un = Y + M * (un - c - d)) (hu : c + d ≤ un) : g = X / Bj / V ∧ X = X' + g * V * Bj := by
  have e : M * un = M * (un - c - d) + (c + d) * M := by
    rw [Nat.mul_comm (c + d) M, ← Nat.mul_add]
    congr 1
    omega
  have h1 : X = X' + g * V * Bj := by omega
  refine ⟨Nat.le_antisymm ?_ hq, h1⟩
  rw [Nat.le_div_iff_mul_le hV, Nat.le_div_iff_mul_le hBj]
  omega
/-- something was borrowed: the guess was one too great -/
theorem k_over {X Y X' g V Bj M c d un : Nat} (hq : X / Bj / V ≤ g) (hg : g ≤ X / Bj / V + 1) (he : X + (c + d) * M = Y + g * V * Bj) (hs : X' + M * un = Y + M * (un + 4294967296 - c - d)) (hcd : c + d ≤ 4294967296) (hl : X' < 4294967296 * M) :
    g = X / Bj / V + 1 ∧ X + 4294967296 * M = X' + g * V * Bj := by
  have e : M * (un + 4294967296 - c - d) + (c + d) * M = M * un + 4294967296 * M := by
    rw [Nat.mul_comm (c + d) M, ← Nat.mul_add, Nat.mul_comm 4294967296 M, ← Nat.mul_add]
    congr 1
    omega
  have h1 : X + 4294967296 * M = X' + g * V * Bj := by omega
  refine ⟨?_, h1⟩
  rcases Nat.eq_or_lt_of_le hq with q | q
  · exfalso
    have h2 : g * V ≤ X / Bj := by rw [← q]; exact Nat.div_mul_le_self _ _
    have h3 : g * V * Bj ≤ X := Nat.le_trans (Nat.mul_le_mul_right _ h2) (Nat.div_mul_le_self _ _)
    omega
  · omega
/-- added back -/
theorem k_back {X X' Y2 X3 q V Bj M c w1 : Nat} (hBj : 0 < Bj) (hV : 0 < V) (hM : V * Bj ≤ M) (hq : q = X / Bj / V) (h1 : X + 4294967296 * M = X' + (q + 1) * V * Bj) (h2 : Y2 + c * M = X' + V * Bj) (h3 : Y2 / M = w1) (hw : w1 < 4294967296) (hc : c ≤ 1) (hs : X3 + M * w1 = Y2 + M * ((w1 + c) % 4294967296)) : X3 = X - q * V * Bj := by
  have hM0 : 0 < M := Nat.lt_of_lt_of_le (Nat.mul_pos hV hBj) hM
  have g1 := (k_step (A := X) (Q := 0) (X := X) hBj (by simp) hq hV)
  have e1 : (q + 1) * V * Bj = q * V * Bj + V * Bj := by grind
  have l1 := g1.1
  have l2 := g1.2.2
  have h4 : Y2 + c * M = 4294967296 * M + (X - q * V * Bj) := by omega
  have h5 : Y2 = M * w1 + Y2 % M := by rw [← h3]; exact (Nat.div_add_mod _ _).symm
  have h6 := Nat.mod_lt Y2 hM0
  rcases Nat.eq_or_lt_of_le hc with hc1 | hc1
  · subst hc1
    have h7 : w1 = 4294967295 := by
      rcases Nat.lt_or_ge w1 4294967295 with g | g
      · have : M * (w1 + 1 + 1) ≤ M * 4294967296 := Nat.mul_le_mul_left _ (by omega)
        rw [Nat.mul_add, Nat.mul_add] at this
        omega
      · omega
    subst h7
    omega
  · obtain rfl : c = 0 := by omega
    have : M * (w1 + 1) ≤ M * 4294967296 := Nat.mul_le_mul_left _ (by omega)
    rw [Nat.mul_add] at this
    omega
end Bg
end Go.Proofs.Ytibkemolmpcdcaa
