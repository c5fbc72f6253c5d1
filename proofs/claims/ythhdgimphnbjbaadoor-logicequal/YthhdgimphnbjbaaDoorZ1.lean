/- The walk over LogicEqual, whatever the two values. -/
import Derived.Test.YthhdgimphnbjbaaDoorY7
import Derived.Test.YthhdgimphnbjbaaDoorY9
import Derived.Test.YthhdgimphnbjbaaDoorRA
import Derived.Deep.Cut
namespace Go.Proofs.YthhdgimphnbjbaaDoor
open Go.RowKit

abbrev raw (k : Int) (y : Bool) (c x : Int) (t l : Value) : Array Value := #[.int .i64 k, .bool y, .int .i64 c, .int .i64 x, t, l]
abbrev ZV : Array Value := #[.int .i64 0, .bool false, .int .i64 0, .int .i64 0, .string ⟨#[]⟩, .slice none 0 0]
abbrev tda (h : Nat) : Array Value := #[.int .i64 (kd h), .bool (yd h), .int .i64 0, .int .i64 0, .string ⟨#[]⟩, .slice none 0 0]
theorem callEqual (zs : Array Value) (w : World) : Sem.run Tryd.prog (callFunc 6 zs) w = .ok (.enter 6 zs) w := by simp [go_sem]
theorem callBare (zs : Array Value) (w : World) : Sem.run Tryd.prog (callFunc 7 zs) w = .ok (.enter 7 zs) w := by simp [go_sem]
theorem callSame (zs : Array Value) (w : World) : Sem.run Tryd.prog (callFunc 8 zs) w = .ok (.enter 8 zs) w := by simp [go_sem]

section
variable {ops : Array Oper} {Q : Exit → Act → World → Prop} {i d : Nat} {a : Act} {w : World} {K : Act → World → Prop} {t : TypeId} {p : String} {af : Array Edge}
theorem o_callx1 {s n : Nat} {vx : Value} {ts : Array TypeId} {R : Value → World → Prop} (hi : ops[i]? = some ⟨some d, .call { callee := .value (.func n), args := #[.tmp s], argTypes := ts }, t, p, af, none⟩) (hs : d < a.tmps.size) (g0 : G a s = vx)
    (hf : ∀ (zs : Array Value) (w : World), Sem.run Tryd.prog (callFunc n zs) w = .ok (.enter n zs) w) (hc : Calls Tryd.prog n #[vx] w fun e w' => ∃ v, e = .returned v ∧ R v w')
    (h : ∀ v a' w', R v w' → Upd a d v a' → a'.defers = a.defers → K a' w') : wpOp Tryd.prog ops Q i K a w := by
  refine o_enter hi rfl rfl hs ?_ hc h
  have e0 := eval_G g0
  have e1 : a.eval (.func n) = .func (.func n) #[] #[] := rfl
  generalize a.eval = E at e0 e1 ⊢
  simp [go_sem, e0, e1, hf]
theorem o_callx2 {s u n : Nat} {vx vy : Value} {ts : Array TypeId} {R : Value → World → Prop} (hi : ops[i]? = some ⟨some d, .call { callee := .value (.func n), args := #[.tmp s, .tmp u], argTypes := ts }, t, p, af, none⟩) (hs : d < a.tmps.size) (g0 : G a s = vx) (g1 : G a u = vy)
    (hf : ∀ (zs : Array Value) (w : World), Sem.run Tryd.prog (callFunc n zs) w = .ok (.enter n zs) w) (hc : Calls Tryd.prog n #[vx, vy] w fun e w' => ∃ v, e = .returned v ∧ R v w')
    (h : ∀ v a' w', R v w' → Upd a d v a' → a'.defers = a.defers → K a' w') : wpOp Tryd.prog ops Q i K a w := by
  refine o_enter hi rfl rfl hs ?_ hc h
  have e0 := eval_G g0
  have e1 := eval_G g1
  have e2 : a.eval (.func n) = .func (.func n) #[] #[] := rfl
  generalize a.eval = E at e0 e1 e2 ⊢
  simp [go_sem, e0, e1, e2, hf]
theorem o_new (hi : ops[i]? = some ⟨some d, .alloc 26, t, p, af, none⟩) (hs : d < a.tmps.size)
    (h : ∀ a', Upd a d (.pointer (some ⟨w.heap.size, 0, none⟩)) a' → a'.defers = a.defers → K a' (w.alloc (.cells ZV 26))) : wpOp Tryd.prog ops Q i K a w := by
  refine o_val hi rfl rfl hs ?_ h
  generalize a.eval = E
  simp [go_sem]
end

/-- a new block of a value -/
def PZ (w0 : World) (v : Value) (w : World) : Prop := ∃ p, v = .pointer (some ⟨p, 0, none⟩) ∧ w0.heap.size ≤ p ∧ Box w p ZV
theorem PZ.keep {w0 : World} {v : Value} {w w' : World} (h : PZ w0 v w) (hb : Below w.heap.size w w') : PZ w0 v w' := by
  obtain ⟨p, h1, h2, h3⟩ := h
  exact ⟨p, h1, h2, h3.keep hb h3.low⟩
/-- a tree that was made -/
def MT (T : Tree) (v : Value) (w : World) : Prop := ∃ x, v = .agg x ∧ Mem w.heap.size w T x
theorem MT.keep {T : Tree} {v : Value} {w w' : World} (h : MT T v w) (hb : Below w.heap.size w w') : MT T v w' := by
  obtain ⟨x, h1, h2⟩ := h
  exact ⟨x, h1, Mem.mono hb.size (Mem.below hb h2)⟩

def Ok5 (w0 : World) (u1 u2 : Array Value) (T : Tree) (g1 g2 g3 : Nat) : Nat → Value → World → Prop
  | 0, v, _ => v = .agg u1
  | 1, v, _ => v = .agg u2
  | 2, v, _ => v = told g1
  | 3, v, _ => v = .agg u2
  | 4, v, _ => v = .agg u1
  | 5, v, _ => v = told g2
  | 6, v, _ => v = .agg u1
  | 7, v, _ => v = .agg u1
  | 8, v, w => MT T v w
  | 9, v, _ => v = told g3
  | 10, v, w => PZ w0 v w
  | 11, v, w => PZ w0 v w
  | 12, v, w => PZ w0 v w
  | _, _, _ => True
theorem Ok5.mono (w0 : World) (u1 u2 : Array Value) (T : Tree) (g1 g2 g3 : Nat) (i : Nat) (v : Value) (w w' : World) (hb : Below w.heap.size w w') (h : Ok5 w0 u1 u2 T g1 g2 g3 i v w) : Ok5 w0 u1 u2 T g1 g2 g3 i v w' := by
  unfold Ok5 at h
  split at h
  all_goals first | exact MT.keep h hb | exact PZ.keep h hb | exact h | (unfold Ok5; split <;> first | trivial | simp_all)
def Un5 (i : Nat) : Bool := i == 10 || i == 11 || i == 12
abbrev D5 : List Nat := [18, 19, 20, 21, 22, 23, 24, 25, 26, 27, 5, 6, 7]
/-- behind the first store -/
structure S5 (w0 : World) (a0 : Act) (g1 g2 g3 : Nat) (L : Nat → Bool) (p q r : Nat) (a : Act) (w : World) : Prop where
  size : a.tmps.size = 55
  defs : a.defers = []
  s2 : G a 2 = G a0 2
  s3 : G a 3 = G a0 3
  sp : G a 5 = .pointer (some ⟨p, 0, none⟩)
  sq : G a 6 = .pointer (some ⟨q, 0, none⟩)
  sr : G a 7 = .pointer (some ⟨r, 0, none⟩)
  v2 : G a 23 = told g2
  v3 : G a 27 = told g3
  lp : w0.heap.size ≤ p
  lq : w0.heap.size ≤ q
  lr : w0.heap.size ≤ r
  pq : p ≠ q
  pr : p ≠ r
  qr : q ≠ r
  bp : Box w p (tda g1)
  bq0 : L 14 = false → Box w q ZV
  bq1 : L 14 = true → Box w q (tda g2)
  br0 : L 15 = false → Box w r ZV
  br1 : L 15 = true → Box w r (tda g3)
  old : Below w0.heap.size w0 w
def I5 (w0 : World) (a0 : Act) (u1 u2 : Array Value) (T : Tree) (g1 g2 g3 : Nat) (L : Nat → Bool) (a : Act) (w : World) : Prop :=
  (L 13 = false ∧ L 14 = false ∧ L 15 = false ∧ RI w0 a0 55 D5 (Ok5 w0 u1 u2 T g1 g2 g3) Un5 L a w) ∨ (L 13 = true ∧ (∀ i, i < 13 → L i = true) ∧ ∃ p q r, S5 w0 a0 g1 g2 g3 L p q r a w)

def Ok8 (u1 u2 : Array Value) (T1 T2 : Tree) (p : Nat) (kk : Int) (yy sb : Bool) : Nat → Value → World → Prop
  | 0, v, _ => v = .pointer (some ⟨p, 0, none⟩)
  | 1, v, _ => v = .int .i64 kk
  | 2, v, _ => v = .bool (kk == 2)
  | 3, v, _ => v = .bool (kk == 2)
  | 4, v, _ => (kk == 2) = true → v = .pointer (some ⟨p, 1, none⟩)
  | 5, v, _ => (kk == 2) = true → v = .bool yy
  | 6, v, _ => v = .bool ((kk == 2) && yy)
  | 7, v, _ => v = .agg u1
  | 8, v, w => MT T1 v w
  | 9, v, _ => v = .agg u2
  | 10, v, w => MT T2 v w
  | 11, v, _ => v = .bool sb
  | 12, v, _ => v = .bool true
  | 13, v, _ => v = .bool true
  | _, _, _ => True
theorem Ok8.mono (u1 u2 : Array Value) (T1 T2 : Tree) (p : Nat) (kk : Int) (yy sb : Bool) (i : Nat) (v : Value) (w w' : World) (hb : Below w.heap.size w w') (h : Ok8 u1 u2 T1 T2 p kk yy sb i v w) : Ok8 u1 u2 T1 T2 p kk yy sb i v w' := by
  unfold Ok8 at h
  split at h
  all_goals first | exact MT.keep h hb | exact h | (unfold Ok8; split <;> first | trivial | simp_all)
abbrev D8 : List Nat := [42, 43, 44, 45, 46, 47, 48, 49, 50, 51, 52, 53, 54, 4]
end Go.Proofs.YthhdgimphnbjbaaDoor
