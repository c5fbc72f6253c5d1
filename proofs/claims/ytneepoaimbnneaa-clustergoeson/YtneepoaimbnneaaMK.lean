/- Walks: all steps of a node (verdictlaw15.all). (Written by gen_mk.py.) -/
import Derived.Test.YtneepoaimbnneaaMJ
import Derived.Deep.Cut
import Derived.Deep.CutRange
namespace Go.Proofs.Ytneepoaimbnneaa
open Go.RowKit

section
variable {w0 w w' : World} {a0 a a' : Act} {N : Nat} {D : List Nat} {Ok : Nat → Value → (Nat → Prop) → World → Prop} {stage : (Nat → Bool) → Option (Nat × List Rf.Msg)} {L : Nat → Bool} {ops : Array Oper} {Q : Exit → Act → World → Prop} {i d : Nat} {o : Oper}
theorem rm_val (h : RM w0 a0 N D Ok stage L a w) (nd : D.Nodup) (mono : ∀ i v P Q w w', (∀ b, P b → Q b ∧ w'.heap[b]? = w.heap[b]?) → Ok i v P w → Ok i v Q w') (hi : ops[i]? = some o) (hd : o.dst = some d) (hDi : D[i]? = some d) (hN : d < N) (hw : Region.wanted o (yielded ops a.tmps) = true) {v : Value} (r : (execOp a.eval o).run Try.prog w = .ok (.value v) w')
    (hb : Below w.heap.size w w') (hst : stage (fun j => j == i || L j) = stage L) (hds : ∀ e ms, stage L = some (e, ms) → e ≠ d) (ok : ∀ sv : Value, (∀ k, sv.ownBlock = some k → w0.heap.size ≤ k ∧ k < w.heap.size) → (∀ i' d', L i' = true → D[i']? = some d' → Ok i' (G a d') (fun b => b < w.heap.size ∧ sv.ownBlock ≠ some b) w) → Ok i v (fun b => b < w'.heap.size ∧ sv.ownBlock ≠ some b) w') :
    wpOp Try.prog ops Q i (fun a' w' => RM w0 a0 N D Ok stage (fun j => j == i || L j) a' w') a w :=
  o_val hi hd hw (by rw [h.size]; exact hN) r fun _ U hf => h.step nd mono i hDi U hf hb hst hds ok
theorem rm_call (h : RM w0 a0 N D Ok stage L a w) (nd : D.Nodup) (mono : ∀ i v P Q w w', (∀ b, P b → Q b ∧ w'.heap[b]? = w.heap[b]?) → Ok i v P w → Ok i v Q w') (hi : ops[i]? = some o) (hd : o.dst = some d) (hDi : D[i]? = some d) (hN : d < N) (hw : Region.wanted o (yielded ops a.tmps) = true) {n : Nat} {args : Array Value} (r : (execOp a.eval o).run Try.prog w = .ok (.enter n args) w)
    {R : Value → World → Prop} (hc : Calls Try.prog n args w fun e w' => ∃ v, e = .returned v ∧ R v w' ∧ Below w.heap.size w w') (hst : stage (fun j => j == i || L j) = stage L) (hds : ∀ e ms, stage L = some (e, ms) → e ≠ d) (ok : ∀ v w', R v w' → Below w.heap.size w w' → ∀ sv : Value, (∀ k, sv.ownBlock = some k → w0.heap.size ≤ k ∧ k < w.heap.size) → Ok i v (fun b => b < w'.heap.size ∧ sv.ownBlock ≠ some b) w') :
    wpOp Try.prog ops Q i (fun a' w' => RM w0 a0 N D Ok stage (fun j => j == i || L j) a' w') a w :=
  o_enter (R := fun v w' => R v w' ∧ Below w.heap.size w w') hi hd hw (by rw [h.size]; exact hN) r hc fun _ _ _ hR U hf => h.step nd mono i hDi U hf hR.2 hst hds (fun sv hk _ => ok _ _ hR.1 hR.2 sv hk)
theorem rm_grow (h : RM w0 a0 N D Ok stage L a w) (nd : D.Nodup) (mono : ∀ i v P Q w w', (∀ b, P b → Q b ∧ w'.heap[b]? = w.heap[b]?) → Ok i v P w → Ok i v Q w') (hi : ops[i]? = some o) (hd : o.dst = some d) (hDi : D[i]? = some d) (hN : d < N) (hw : Region.wanted o (yielded ops a.tmps) = true) {v : Value} (r : (execOp a.eval o).run Try.prog w = .ok (.value v) w')
    {sv : Value} {ms : List Rf.Msg} (r4 : ∀ i d, L i = true → D[i]? = some d → Ok i (G a d) (fun b => b < w.heap.size ∧ sv.ownBlock ≠ some b) w) (hst : stage (fun j => j == i || L j) = some (d, ms)) (hM : MO0 w0.heap.size w' v ms) (hg : w.grownBy w' sv.ownBlock) (hat : v.ownBlock = sv.ownBlock ∨ v.ownBlock = some w.heap.size) (hlow : ∀ k, sv.ownBlock = some k → w0.heap.size ≤ k) (ok : ∀ P w, Ok i v P w) :
    wpOp Try.prog ops Q i (fun a' w' => RM w0 a0 N D Ok stage (fun j => j == i || L j) a' w') a w :=
  o_val hi hd hw (by rw [h.size]; exact hN) r fun _ U hf => h.grow nd mono i hDi U hf r4 hst hM hg hat hlow ok
end
section
variable {a : Act} {w : World} {d : Option Nat} {t : TypeId} {p : String} {af : Array Edge} {g : Option (Nat × Bool)}
theorem run_ldN {x : Operand} {b : Nat} {v0 v1 v2 v3 v4 v5 v6 v7 v8 v9 v10 : Value} (h : a.eval x = .pointer (some ⟨b, 0, none⟩)) (B : NX w b v0 v1 v2 v3 v4 v5 v6 v7 v8 v9 v10) : (execOp a.eval ⟨d, .load 34 x, t, p, af, g⟩).run Try.prog w = .ok (.value (.agg #[v0, v1, v2, v3, v4, v5, v6, v7, v8, v9, v10])) w := by
  obtain ⟨c0, c1, c2, c3, c4, c5, c6, c7, c8, c9, c10⟩ := B.tell
  generalize a.eval = E at h ⊢
  simp [go_sem, h, c0, c1, c2, c3, c4, c5, c6, c7, c8, c9, c10]
theorem run_bldE : (execOp a.eval ⟨d, .buildSlice 25 0 #[], t, p, af, g⟩).run Try.prog w = .ok (.value (.slice (some ⟨w.heap.size, 0, none⟩) 0 0)) (w.alloc (.cells #[] 40)) := by
  generalize a.eval = E
  simp [go_sem]
theorem run_appM {s x : Operand} {v xv v' : Value} {w' : World} (hs : a.eval s = v) (hx : a.eval x = xv) (hr : (Builtin.append_ #[25, 25] t #[v, xv]).run Try.prog w = .ok v' w') : (execOp a.eval ⟨d, .call { callee := .builtin .append, args := #[s, x], argTypes := #[25, 25] }, t, p, af, g⟩).run Try.prog w = .ok (.value v') w' := by
  unfold execOp
  simp only [resolve, invoke, builtin, Sem.run_bind, Sem.run_pure, Result.andThen_ok, List.map_toArray, List.map_cons, List.map_nil, hs, hx, hr]
/-- the cells of five nodes -/
def five (u0 u1 u2 u3 u4 : Array Value) : Array Value := ⟨u0.toList ++ (u1.toList ++ (u2.toList ++ (u3.toList ++ (u4.toList ++ []))))⟩
set_option maxHeartbeats 2000000 in
set_option maxRecDepth 100000 in
theorem run_bldN5 {o0 o1 o2 o3 o4 : Operand} {x0 x1 x2 x3 x4 : Rf.Node} {l0 v0 n0 m0 l1 v1 n1 m1 l2 v2 n2 m2 l3 v3 n3 m3 l4 v4 n4 m4 : Value} (h0 : a.eval o0 = .agg #[.int .i64 x0.id, .int .i64 x0.n, .int .i64 x0.term, .int .i64 x0.vote, l0, .int .i64 x0.commit, .int .i64 x0.role, .int .i64 x0.boss, v0, n0, m0]) (h1 : a.eval o1 = .agg #[.int .i64 x1.id, .int .i64 x1.n, .int .i64 x1.term, .int .i64 x1.vote, l1, .int .i64 x1.commit, .int .i64 x1.role, .int .i64 x1.boss, v1, n1, m1]) (h2 : a.eval o2 = .agg #[.int .i64 x2.id, .int .i64 x2.n, .int .i64 x2.term, .int .i64 x2.vote, l2, .int .i64 x2.commit, .int .i64 x2.role, .int .i64 x2.boss, v2, n2, m2]) (h3 : a.eval o3 = .agg #[.int .i64 x3.id, .int .i64 x3.n, .int .i64 x3.term, .int .i64 x3.vote, l3, .int .i64 x3.commit, .int .i64 x3.role, .int .i64 x3.boss, v3, n3, m3]) (h4 : a.eval o4 = .agg #[.int .i64 x4.id, .int .i64 x4.n, .int .i64 x4.term, .int .i64 x4.vote, l4, .int .i64 x4.commit, .int .i64 x4.role, .int .i64 x4.boss, v4, n4, m4]) :
    (execOp a.eval ⟨d, .buildSlice 24 5 #[(0, o0), (1, o1), (2, o2), (3, o3), (4, o4)], t, p, af, g⟩).run Try.prog w = .ok (.value (.slice (some ⟨w.heap.size, 0, none⟩) 5 5)) (w.alloc (.cells #[.int .i64 x0.id, .int .i64 x0.n, .int .i64 x0.term, .int .i64 x0.vote, l0, .int .i64 x0.commit, .int .i64 x0.role, .int .i64 x0.boss, v0, n0, m0, .int .i64 x1.id, .int .i64 x1.n, .int .i64 x1.term, .int .i64 x1.vote, l1, .int .i64 x1.commit, .int .i64 x1.role, .int .i64 x1.boss, v1, n1, m1, .int .i64 x2.id, .int .i64 x2.n, .int .i64 x2.term, .int .i64 x2.vote, l2, .int .i64 x2.commit, .int .i64 x2.role, .int .i64 x2.boss, v2, n2, m2, .int .i64 x3.id, .int .i64 x3.n, .int .i64 x3.term, .int .i64 x3.vote, l3, .int .i64 x3.commit, .int .i64 x3.role, .int .i64 x3.boss, v3, n3, m3, .int .i64 x4.id, .int .i64 x4.n, .int .i64 x4.term, .int .i64 x4.vote, l4, .int .i64 x4.commit, .int .i64 x4.role, .int .i64 x4.boss, v4, n4, m4] 34)) := by
  generalize a.eval = E at h0 h1 h2 h3 h4 ⊢
  simp [go_sem, h0, h1, h2, h3, h4]
set_option maxHeartbeats 2000000 in
set_option maxRecDepth 100000 in
theorem run_bldF {o0 o1 o2 o3 o4 : Operand} {u0 u1 u2 u3 u4 : Array Value} (h0 : a.eval o0 = .agg u0) (h1 : a.eval o1 = .agg u1) (h2 : a.eval o2 = .agg u2) (h3 : a.eval o3 = .agg u3) (h4 : a.eval o4 = .agg u4) (s0 : ∃ (x : Rf.Node) (l v n m : Value), u0 = #[.int .i64 x.id, .int .i64 x.n, .int .i64 x.term, .int .i64 x.vote, l, .int .i64 x.commit, .int .i64 x.role, .int .i64 x.boss, v, n, m]) (s1 : ∃ (x : Rf.Node) (l v n m : Value), u1 = #[.int .i64 x.id, .int .i64 x.n, .int .i64 x.term, .int .i64 x.vote, l, .int .i64 x.commit, .int .i64 x.role, .int .i64 x.boss, v, n, m]) (s2 : ∃ (x : Rf.Node) (l v n m : Value), u2 = #[.int .i64 x.id, .int .i64 x.n, .int .i64 x.term, .int .i64 x.vote, l, .int .i64 x.commit, .int .i64 x.role, .int .i64 x.boss, v, n, m]) (s3 : ∃ (x : Rf.Node) (l v n m : Value), u3 = #[.int .i64 x.id, .int .i64 x.n, .int .i64 x.term, .int .i64 x.vote, l, .int .i64 x.commit, .int .i64 x.role, .int .i64 x.boss, v, n, m]) (s4 : ∃ (x : Rf.Node) (l v n m : Value), u4 = #[.int .i64 x.id, .int .i64 x.n, .int .i64 x.term, .int .i64 x.vote, l, .int .i64 x.commit, .int .i64 x.role, .int .i64 x.boss, v, n, m]) :
    (execOp a.eval ⟨d, .buildSlice 24 5 #[(0, o0), (1, o1), (2, o2), (3, o3), (4, o4)], t, p, af, g⟩).run Try.prog w = .ok (.value (.slice (some ⟨w.heap.size, 0, none⟩) 5 5)) (w.alloc (.cells (five u0 u1 u2 u3 u4) 34)) := by
  obtain ⟨x0, l0, v0, n0, m0, rfl⟩ := s0
  obtain ⟨x1, l1, v1, n1, m1, rfl⟩ := s1
  obtain ⟨x2, l2, v2, n2, m2, rfl⟩ := s2
  obtain ⟨x3, l3, v3, n3, m3, rfl⟩ := s3
  obtain ⟨x4, l4, v4, n4, m4, rfl⟩ := s4
  rw [run_bldN5 h0 h1 h2 h3 h4]
  rfl
end

end Go.Proofs.Ytneepoaimbnneaa
