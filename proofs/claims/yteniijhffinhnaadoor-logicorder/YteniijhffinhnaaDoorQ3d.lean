/- More of a region in whatever order: calls of two values, a new value's block, a truth stored. -/
import Derived.Test.YteniijhffinhnaaDoorQ2d
namespace Go.Proofs.YteniijhffinhnaaDoor
open Go.RowKit

abbrev tb (g : Bool) : Array Value := #[.int .i64 2, .bool g, .int .i64 0, .int .i64 0, .string ⟨#[]⟩, .slice none 0 0]
theorem size_put6 {w : World} {b n : Nat} {v0 v1 v2 v3 v4 v5 : Value} (h : n < w.heap.size) : n < (put6 w b v0 v1 v2 v3 v4 v5).heap.size := by simpa [put6, World.setCell] using h
theorem size_put6' {w : World} {b n : Nat} {v0 v1 v2 v3 v4 v5 : Value} (h : n ≤ w.heap.size) : n ≤ (put6 w b v0 v1 v2 v3 v4 v5).heap.size := by simpa [put6, World.setCell] using h
section
variable {ops : Array Oper} {Q : Exit → Act → World → Prop} {i d : Nat} {a : Act} {w : World} {K : Act → World → Prop} {t : TypeId} {p : String} {af : Array Edge}
theorem o_call2 {s u n : Nat} {vx vy v : Value} {ts : Array TypeId} {R : World → Prop} (hi : ops[i]? = some ⟨some d, .call { callee := .value (.func n), args := #[.tmp s, .tmp u], argTypes := ts }, t, p, af, none⟩) (hs : d < a.tmps.size) (g0 : G a s = vx) (g1 : G a u = vy)
    (hf : ∀ (zs : Array Value) (w : World), Sem.run Tryd.prog (callFunc n zs) w = .ok (.enter n zs) w) (hc : Calls Tryd.prog n #[vx, vy] w fun e w' => e = .returned v ∧ R w')
    (h : ∀ a' w', R w' → Upd a d v a' → a'.defers = a.defers → K a' w') : wpOp Tryd.prog ops Q i K a w := by
  have r : (execOp a.eval ⟨some d, .call { callee := .value (.func n), args := #[.tmp s, .tmp u], argTypes := ts }, t, p, af, none⟩).run Tryd.prog w = .ok (.enter n #[vx, vy]) w := by
    have e0 := eval_G g0
    have e1 := eval_G g1
    have e2 : a.eval (.func n) = .func (.func n) #[] #[] := rfl
    generalize a.eval = E at e0 e1 e2 ⊢
    simp [go_sem, e0, e1, e2, hf]
  unfold wpOp
  rw [hi]
  simp only [Region.wanted, if_true]
  left
  unfold Oper.wp
  rw [r]
  refine hc.mono ?_
  rintro e w' ⟨rfl, hR⟩
  exact h _ _ hR (upd_put hs) rfl
theorem o_alloc (hi : ops[i]? = some ⟨some d, .alloc 26, t, p, af, none⟩) (hs : d < a.tmps.size)
    (h : ∀ a', Upd a d (.pointer (some ⟨w.heap.size, 0, none⟩)) a' → a'.defers = a.defers → K a' (w.alloc (.cells #[.int .i64 0, .bool false, .int .i64 0, .int .i64 0, .string ⟨#[]⟩, .slice none 0 0] 26))) : wpOp Tryd.prog ops Q i K a w := by
  have r : (execOp a.eval ⟨some d, .alloc 26, t, p, af, none⟩).run Tryd.prog w = .ok (.value (.pointer (some ⟨w.heap.size, 0, none⟩))) (w.alloc (.cells #[.int .i64 0, .bool false, .int .i64 0, .int .i64 0, .string ⟨#[]⟩, .slice none 0 0] 26)) := by
    generalize a.eval = E
    simp [go_sem]
  unfold wpOp
  rw [hi]
  simp only [Region.wanted, if_true]
  left
  unfold Oper.wp
  rw [r]
  exact h _ (upd_put hs) rfl
theorem o_store2 {s x b : Nat} {g : Bool} {v0 v1 v2 v3 v4 v5 : Value} (hi : ops[i]? = some ⟨none, .store 26 (.tmp s) (.tmp x), t, p, af, none⟩) (g0 : G a s = .pointer (some ⟨b, 0, none⟩)) (g1 : G a x = .agg (tb g)) (B : Box w b #[v0, v1, v2, v3, v4, v5])
    (h : K a (put6 w b (.int .i64 2) (.bool g) (.int .i64 0) (.int .i64 0) (.string ⟨#[]⟩) (.slice none 0 0))) : wpOp Tryd.prog ops Q i K a w := by
  have r : (execOp a.eval ⟨none, .store 26 (.tmp s) (.tmp x), t, p, af, none⟩).run Tryd.prog w = .ok .skip (put6 w b (.int .i64 2) (.bool g) (.int .i64 0) (.int .i64 0) (.string ⟨#[]⟩) (.slice none 0 0)) := by
    obtain ⟨c0, c1, c2, c3, c4, c5⟩ := B.tell
    have fr := B.free
    have e0 := eval_G g0
    have e1 := eval_G g1
    unfold tb at e1
    generalize a.eval = E at e0 e1 ⊢
    simp [go_sem, e0, e1, c0, c1, c2, c3, c4, c5, fr]
  unfold wpOp
  rw [hi]
  simp only [Region.wanted, if_true]
  left
  unfold Oper.wp
  rw [r]
  exact h
end
theorem callLess (zs : Array Value) (w : World) : Sem.run Tryd.prog (callFunc 6 zs) w = .ok (.enter 6 zs) w := by simp [go_sem]
theorem callEqual (zs : Array Value) (w : World) : Sem.run Tryd.prog (callFunc 7 zs) w = .ok (.enter 7 zs) w := by simp [go_sem]
/-- a frame, slot by slot -/
theorem frame_eq {a : Act} {N : Nat} (h : a.tmps.size = N) : a.tmps = ((List.range N).map (G a)).toArray := by
  apply Array.ext
  · simp [h]
  · intro i h1 h2
    simp [G, Array.getD_eq_getD_getElem?, Array.getElem?_eq_getElem h1]
end Go.Proofs.YteniijhffinhnaaDoor
