/- A region that draws, by a list that says what each slot holds when it has come up. -/
import Derived.Test.YtiplnegiphhdlaaMQ
namespace Go.Proofs.Ytiplnegiphhdlaa
open Go.RowKit

/-- what a slot holds: a value; one of which something is known that stays; anything -/
inductive Ds where
  | lit (v : Value)
  | mem (P : Value → World → Prop) (keep : ∀ (v : Value) (w w' : World), Below w.heap.size w w' → P v w → P v w')
  | any
def Ds.ok : Ds → Value → World → Prop
  | .lit v, x, _ => x = v
  | .mem P _, x, w => P x w
  | .any, _, _ => True
def OkL (l : List Ds) (i : Nat) (v : Value) (w : World) : Prop := ((l[i]?).getD .any).ok v w
theorem OkL.mono (l : List Ds) (i : Nat) (v : Value) (w w' : World) (hb : Below w.heap.size w w') (h : OkL l i v w) : OkL l i v w' := by
  unfold OkL at *
  generalize (l[i]?).getD .any = d at h ⊢
  cases d with
  | lit u => exact h
  | mem P k => exact k v w w' hb h
  | any => trivial
abbrev RL (w0 : World) (a0 : Act) (N : Nat) (D : List Nat) (l : List Ds) (L : Nat → Bool) (a : Act) (w : World) : Prop := RI w0 a0 N D (OkL l) (fun _ => false) L a w

section
variable {w0 w : World} {a0 a : Act} {N : Nat} {D : List Nat} {l : List Ds} {L : Nat → Bool} {ops : Array Oper} {Q : Exit → Act → World → Prop} {i d : Nat} {o : Oper}
theorem rl_val (h : RL w0 a0 N D l L a w) (nd : D.Nodup) (hi : ops[i]? = some o) (hd : o.dst = some d) (hDi : D[i]? = some d) (hN : d < N) (hw : Region.wanted o (yielded ops a.tmps) = true) {v : Value} (r : (execOp a.eval o).run Try.prog w = .ok (.value v) w) (ok : OkL l i v w) :
    wpOp Try.prog ops Q i (fun a' w' => RL w0 a0 N D l (fun j => j == i || L j) a' w') a w :=
  o_val hi hd hw (by rw [h.size]; exact hN) r fun _ U hf => h.step nd (OkL.mono l) i hDi U hf (Below.refl _ _) ok (fun q => by cases q)
theorem rl_skip (h : RL w0 a0 N D l L a w) (nd : D.Nodup) (hi : ops[i]? = some o) (hd : o.dst = some d) (hDi : D[i]? = some d) (hN : d < N) (hw : Region.wanted o (yielded ops a.tmps) = false) (ok : OkL l i undef w) :
    wpOp Try.prog ops Q i (fun a' w' => RL w0 a0 N D l (fun j => j == i || L j) a' w') a w :=
  o_skip hi hd hw (by rw [h.size]; exact hN) fun _ U hf => h.step nd (OkL.mono l) i hDi U hf (Below.refl _ _) ok (fun q => by cases q)
theorem rl_call (h : RL w0 a0 N D l L a w) (nd : D.Nodup) (hi : ops[i]? = some o) (hd : o.dst = some d) (hDi : D[i]? = some d) (hN : d < N) (hw : Region.wanted o (yielded ops a.tmps) = true) {n : Nat} {args : Array Value} (r : (execOp a.eval o).run Try.prog w = .ok (.enter n args) w)
    {R : Value → World → Prop} (hc : Calls Try.prog n args w fun e w' => ∃ v, e = .returned v ∧ R v w' ∧ Below w.heap.size w w') (ok : ∀ v w', R v w' → OkL l i v w') :
    wpOp Try.prog ops Q i (fun a' w' => RL w0 a0 N D l (fun j => j == i || L j) a' w') a w :=
  o_enter (R := fun v w' => R v w' ∧ Below w.heap.size w w') hi hd hw (by rw [h.size]; exact hN) r hc fun _ _ _ hR U hf => h.step nd (OkL.mono l) i hDi U hf hR.2 (ok _ _ hR.1) (fun q => by cases q)
end

section
variable {a : Act} {w : World} {d : Option Nat} {t : TypeId} {p : String} {af : Array Edge} {g : Option (Nat × Bool)}
theorem run_not {x : Operand} {b : Bool} (h : a.eval x = .bool b) : (execOp a.eval ⟨d, .unOp .not 4 x, t, p, af, g⟩).run Try.prog w = .ok (.value (.bool (!b))) w := by
  generalize a.eval = E at h ⊢
  simp [go_sem, h]
theorem run_mv {x : Operand} {v : Value} (h : a.eval x = v) : (execOp a.eval ⟨d, .move x, t, p, af, g⟩).run Try.prog w = .ok (.value v) w := by
  generalize a.eval = E at h ⊢
  simp [go_sem, h]
theorem run_asg {x : Operand} {v : Value} (h : a.eval x = v) : (execOp a.eval ⟨d, .assign x, t, p, af, g⟩).run Try.prog w = .ok (.value v) w := by
  generalize a.eval = E at h ⊢
  simp [go_sem, h]
theorem run_pickT {c x y : Operand} {v : Value} (h : a.eval c = .bool true) (hx : a.eval x = v) : (execOp a.eval ⟨d, .pick c x y, t, p, af, g⟩).run Try.prog w = .ok (.value v) w := by
  generalize a.eval = E at h hx ⊢
  simp [go_sem, h, hx]
theorem run_pickF {c x y : Operand} {v : Value} (h : a.eval c = .bool false) (hy : a.eval y = v) : (execOp a.eval ⟨d, .pick c x y, t, p, af, g⟩).run Try.prog w = .ok (.value v) w := by
  generalize a.eval = E at h hy ⊢
  simp [go_sem, h, hy]
theorem run_call1 {n : Nat} {x : Operand} {vx : Value} {ts : Array TypeId} (hx : a.eval x = vx) (hf : ∀ (zs : Array Value) (w : World), Sem.run Try.prog (callFunc n zs) w = .ok (.enter n zs) w) :
    (execOp a.eval ⟨d, .call { callee := .value (.func n), args := #[x], argTypes := ts }, t, p, af, g⟩).run Try.prog w = .ok (.enter n #[vx]) w := by
  have e1 : a.eval (.func n) = .func (.func n) #[] #[] := rfl
  generalize a.eval = E at hx e1 ⊢
  simp [go_sem, hx, e1, hf]
theorem run_call2 {n : Nat} {x y : Operand} {vx vy : Value} {ts : Array TypeId} (hx : a.eval x = vx) (hy : a.eval y = vy) (hf : ∀ (zs : Array Value) (w : World), Sem.run Try.prog (callFunc n zs) w = .ok (.enter n zs) w) :
    (execOp a.eval ⟨d, .call { callee := .value (.func n), args := #[x, y], argTypes := ts }, t, p, af, g⟩).run Try.prog w = .ok (.enter n #[vx, vy]) w := by
  have e1 : a.eval (.func n) = .func (.func n) #[] #[] := rfl
  generalize a.eval = E at hx hy e1 ⊢
  simp [go_sem, hx, hy, e1, hf]
end

end Go.Proofs.Ytiplnegiphhdlaa
