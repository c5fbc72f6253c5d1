/- A region that draws its order, walked once over a frame that stays a variable: what each slot holds is told by one equation. -/
import Derived.Test.YthhdgimphnbjbaaDoorV2d
import Derived.BigQuiet
namespace Go.Proofs.YthhdgimphnbjbaaDoor
open Go.RowKit Go.BigFrame

/-- what a slot holds -/
def G (a : Act) (i : Nat) : Value := a.tmps.getD i undef
theorem eval_G {a : Act} {i : Nat} {v : Value} (h : G a i = v) : a.eval (.tmp i) = v := h
/-- the frame behind one operation -/
structure Upd (a : Act) (d : Nat) (v : Value) (a' : Act) : Prop where
  size : a'.tmps.size = a.tmps.size
  got : G a' d = v
  rest : ∀ i, i ≠ d → G a' i = G a i
  defs : a'.defers = a.defers
theorem upd_put {a : Act} {d : Nat} {v : Value} (h : d < a.tmps.size) : Upd a d v (a.put (some d) v) := by
  refine ⟨by simp [Act.put], by simp [G, Act.put, h], fun i hi => ?_, rfl⟩
  simp [G, Act.put, Array.getD_eq_getD_getElem?, Ne.symm hi]

section
variable {P : Program} {ops : Array Oper} {C : World → Prop} {Q : Act → Prop} {a : Act} {rest : List Oper} {d : Nat} {N : Nat}

theorem q_any {o : Oper} (hd : o.dst = some d) (hw : Region.wanted o (yielded ops a.tmps) = true) (hs : d < a.tmps.size) (v : Value) (h1 : ∀ w, C w → o.quietAt P a C w v)
    (h2 : ∀ a', Upd a d v a' → wpQuiet P ops C Q rest a') : wpQuiet P ops C Q (o :: rest) a := by
  refine wpQuiet_want hw fun K hK => ⟨v, h1, hK _ ?_⟩
  rw [hd]
  exact h2 _ (upd_put hs)
theorem wanted_some {o : Oper} {j dj : Nat} (h : o.guard = some (j, true)) (D : (ops[j]?).bind (·.dst) = some dj) (hs : dj < a.tmps.size) (hg : G a dj = .bool true) : Region.wanted o (yielded ops a.tmps) = true := by
  have e : a.tmps[dj]? = some (.bool true) := by
    simp only [G, Array.getD_eq_getD_getElem?] at hg
    rw [Array.getElem?_eq_getElem hs] at hg ⊢
    simpa using hg
  simp [Region.wanted, h, yielded, D, e]

variable {t : TypeId} {p : String} {af : Array Edge} {g : Option (Nat × Bool)} {op : Op}
theorem q_move {s : Nat} {v : Value} (hw : Region.wanted ⟨some d, .move (.tmp s), t, p, af, g⟩ (yielded ops a.tmps) = true) (hs : d < a.tmps.size) (g0 : G a s = v)
    (h2 : ∀ a', Upd a d v a' → wpQuiet P ops C Q rest a') : wpQuiet P ops C Q (⟨some d, .move (.tmp s), t, p, af, g⟩ :: rest) a :=
  q_any rfl hw hs v (fun w _ => by unfold Oper.quietAt; rw [run_move (.tmp s) rfl]; exact ⟨rfl, g0⟩) h2
theorem q_assign {s : Nat} {v : Value} (hw : Region.wanted ⟨some d, .assign (.tmp s), t, p, af, g⟩ (yielded ops a.tmps) = true) (hs : d < a.tmps.size) (g0 : G a s = v)
    (h2 : ∀ a', Upd a d v a' → wpQuiet P ops C Q rest a') : wpQuiet P ops C Q (⟨some d, .assign (.tmp s), t, p, af, g⟩ :: rest) a :=
  q_any rfl hw hs v (fun w _ => by unfold Oper.quietAt; rw [run_assign (.tmp s) rfl]; exact ⟨rfl, g0⟩) h2
theorem q_pick {s u : Nat} {v e : Value} (hw : Region.wanted ⟨some d, .pick (.tmp s) (.tmp u) (.const e), t, p, af, g⟩ (yielded ops a.tmps) = true) (hs : d < a.tmps.size) (g0 : G a s = .bool true) (g1 : G a u = v)
    (h2 : ∀ a', Upd a d v a' → wpQuiet P ops C Q rest a') : wpQuiet P ops C Q (⟨some d, .pick (.tmp s) (.tmp u) (.const e), t, p, af, g⟩ :: rest) a :=
  q_any rfl hw hs v (fun w _ => by
    have e0 := eval_G g0
    have e1 := eval_G g1
    unfold Oper.quietAt
    generalize a.eval = E at e0 e1 ⊢
    simp [go_sem, e0, e1]) h2
end
end Go.Proofs.YthhdgimphnbjbaaDoor
