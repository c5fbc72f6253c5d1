/- The region of the document's Put that draws its order: an empty row, append of the log, one item, append, store. (Written by gen_or.py.) -/
import Derived.Test.YtiplnegiphhdlaaOQ
namespace Go.Proofs.Ytiplnegiphhdlaa
open Go.RowKit

section
variable {a : Act} {w : World} {d : Option Nat} {t : TypeId} {p : String} {af : Array Edge} {g : Option (Nat × Bool)}
theorem run_bldI0 : (execOp a.eval ⟨d, .buildSlice 22 0 #[], t, p, af, g⟩).run Try.prog w = .ok (.value (.slice (some ⟨w.heap.size, 0, none⟩) 0 0)) (w.alloc (.cells #[] 58)) := by
  generalize a.eval = E
  simp [go_sem]
theorem run_faN {x : Operand} {b : Nat} (j : Nat) (hj : j = 2 ∨ j = 4) (h : a.eval x = .pointer (some ⟨b, 0, none⟩)) : (execOp a.eval ⟨d, .fieldAddr 25 x j, t, p, af, g⟩).run Try.prog w = .ok (.value (.pointer (some ⟨b, j, none⟩))) w := by
  generalize a.eval = E at h ⊢
  rcases hj with rfl | rfl <;> simp [go_sem, h]
theorem run_ldL {x : Operand} {b j : Nat} {la : Option Addr} {n c : Nat} (h : a.eval x = .pointer (some ⟨b, j, none⟩)) (k : w.cell? ⟨b, j, none⟩ = some (.slice la n c)) : (execOp a.eval ⟨d, .load 22 x, t, p, af, g⟩).run Try.prog w = .ok (.value (.slice la n c)) w := by
  generalize a.eval = E at h ⊢
  simp [go_sem, h, k]
theorem run_ldI {x : Operand} {b j : Nat} {z : Int} (h : a.eval x = .pointer (some ⟨b, j, none⟩)) (k : w.cell? ⟨b, j, none⟩ = some (.int .i64 z)) : (execOp a.eval ⟨d, .load 3 x, t, p, af, g⟩).run Try.prog w = .ok (.value (.int .i64 z)) w := by
  generalize a.eval = E at h ⊢
  simp [go_sem, h, k]
theorem run_bldI {x y : Operand} {z1 z2 : Int} (hx : a.eval x = .int .i64 z1) (hy : a.eval y = .int .i64 z2) : (execOp a.eval ⟨d, .build 58 #[(0, x), (1, y)], t, p, af, g⟩).run Try.prog w = .ok (.value (.agg #[.int .i64 z1, .int .i64 z2])) w := by
  generalize a.eval = E at hx hy ⊢
  simp [go_sem, hx, hy]
theorem run_bldI1 {x : Operand} {z1 z2 : Int} (h : a.eval x = .agg #[.int .i64 z1, .int .i64 z2]) : (execOp a.eval ⟨d, .buildSlice 22 1 #[(0, x)], t, p, af, g⟩).run Try.prog w = .ok (.value (.slice (some ⟨w.heap.size, 0, none⟩) 1 1)) (w.alloc (.cells #[.int .i64 z1, .int .i64 z2] 58)) := by
  generalize a.eval = E at h ⊢
  simp [go_sem, h]
theorem run_appI {s x : Operand} {v xv v' : Value} {w' : World} (hs : a.eval s = v) (hx : a.eval x = xv) (hr : (Builtin.append_ #[22, 22] t #[v, xv]).run Try.prog w = .ok v' w') : (execOp a.eval ⟨d, .call { callee := .builtin .append, args := #[s, x], argTypes := #[22, 22] }, t, p, af, g⟩).run Try.prog w = .ok (.value v') w' := by
  unfold execOp
  simp only [resolve, invoke, builtin, Sem.run_bind, Sem.run_pure, Result.andThen_ok, List.map_toArray, List.map_cons, List.map_nil, hs, hx, hr]
theorem run_stL {x y : Operand} {b j : Nat} {la : Option Addr} {n c : Nat} {u : Value} (h : a.eval x = .pointer (some ⟨b, j, none⟩)) (hy : a.eval y = .slice la n c) (k : w.cell? ⟨b, j, none⟩ = some u) (f : w.frozen? ⟨b, j, none⟩ = false) : (execOp a.eval ⟨d, .store 22 x y, t, p, af, g⟩).run Try.prog w = .ok .skip (w.setCell ⟨b, j, none⟩ (.slice la n c)) := by
  generalize a.eval = E at h hy ⊢
  simp [go_sem, h, hy, k, f]
end
theorem o_skipv {ops : Array Oper} {Q : Exit → Act → World → Prop} {i : Nat} {a : Act} {w w' : World} {K : Act → World → Prop} {op : Op} {t : TypeId} {p : String} {af : Array Edge} (hi : ops[i]? = some ⟨none, op, t, p, af, none⟩) (r : (execOp a.eval ⟨none, op, t, p, af, none⟩).run Try.prog w = .ok .skip w') (h : K a w') : wpOp Try.prog ops Q i K a w := by
  unfold wpOp
  rw [hi]
  simp only [Region.wanted, if_true]
  left
  unfold Oper.wp
  rw [r]
  exact h
theorem mv_slice {P : Nat → Prop} {w : World} {v : Value} {ms : List Rf.Msg} (h : MV P w v ms) : ∃ a n c, v = .slice a n c := by
  obtain ⟨cs, h1, _⟩ := h
  obtain ⟨a, c, e, _⟩ := SC.shape h1
  exact ⟨a, _, c, e⟩
theorem frame_nm {P : Program} {code : Code} {Q : Exit → Act → World → Prop} {a : Act} {w : World} (k : ∀ a0, a0 = a → Code.wp P code Q a0 w) : Code.wp P code Q a w := k a rfl
/-- what has come up -/
structure PI (W0 : World) (b LL : Nat) (la : Option Addr) (lc : Nat) (T : List Value) (tm cmd : Int) (f0 : Act) (F : World → Prop) (L : Nat → Bool) (a : Act) (w : World) : Prop where
  size : a.tmps.size = 47
  defs : a.defers = []
  rest : ∀ j, j < 10 ∨ 20 < j → G a j = G f0 j
  old : L 11 = false → Below W0.heap.size W0 w
  s1 : L 1 = true → G a 11 = .pointer (some ⟨b, 4, none⟩)
  s2 : L 2 = true → G a 12 = .slice la LL lc
  s4 : L 4 = true → G a 14 = .pointer (some ⟨b, 2, none⟩)
  s5 : L 5 = true → G a 15 = .int .i64 tm
  s6 : L 6 = true → G a 16 = .int .i64 cmd
  s7 : L 7 = true → G a 17 = .agg #[.int .i64 tm, .int .i64 cmd]
  s10 : L 10 = true → G a 20 = .pointer (some ⟨b, 4, none⟩)
  e0 : L 0 = true → L 3 = false → w.ownsRow W0.heap.size 58 2 (G a 10) 0 []
  e3 : L 3 = true → L 9 = false → w.ownsRow W0.heap.size 58 2 (G a 13) LL T
  e8 : L 8 = true → L 9 = false → ∃ k, G a 18 = .slice (some ⟨k, 0, none⟩) 1 1 ∧ BK w k 58 #[.int .i64 tm, .int .i64 cmd] ∧ (L 0 = true → L 3 = false → (G a 10).ownBlock ≠ some k)
  e9 : L 9 = true → L 11 = false → w.ownsRow W0.heap.size 58 2 (G a 19) (LL + 1) (T ++ [.int .i64 tm, .int .i64 cmd])
  fin : L 11 = true → F w
section
variable {W0 : World} {b LL : Nat} {la : Option Addr} {lc : Nat} {T : List Value} {tm cmd : Int} {f0 : Act} {F : World → Prop} {L : Nat → Bool} {a : Act} {w : World} {ops : Array Oper} {Q : Exit → Act → World → Prop} {o : Oper}
theorem pi1 (h : PI W0 b LL la lc T tm cmd f0 F L a w) (_hL : L 1 = false) (hb : G f0 2 = .pointer (some ⟨b, 0, none⟩)) (hi : ops[1]? = some o) (ho : ∃ t p af, o = ⟨some 11, .fieldAddr 25 (.tmp 2) 4, t, p, af, none⟩) :
    wpOp Try.prog ops Q 1 (fun a' w' => PI W0 b LL la lc T tm cmd f0 F (fun j => j == 1 || L j) a' w') a w := by
  obtain ⟨t, p, af, rfl⟩ := ho
  refine o_val hi rfl (by simp [Region.wanted]) (by rw [h.size]; decide) (run_faN 4 (.inr rfl) (eval_G ((h.rest 2 (by decide)).trans hb))) fun a' U hf => ?_
  exact ⟨U.size.trans h.size, hf.trans h.defs, fun j hj => (U.rest j (by omega)).trans (h.rest j hj), fun q => h.old (by simpa using q), fun _ => U.got, fun q => (U.rest 12 (by decide)).trans (h.s2 (by simpa using q)), fun q => (U.rest 14 (by decide)).trans (h.s4 (by simpa using q)), fun q => (U.rest 15 (by decide)).trans (h.s5 (by simpa using q)), fun q => (U.rest 16 (by decide)).trans (h.s6 (by simpa using q)), fun q => (U.rest 17 (by decide)).trans (h.s7 (by simpa using q)), fun q => (U.rest 20 (by decide)).trans (h.s10 (by simpa using q)), fun q1 q2 => by rw [U.rest 10 (by decide)]; exact h.e0 (by simpa using q1) (by simpa using q2), fun q1 q2 => by rw [U.rest 13 (by decide)]; exact h.e3 (by simpa using q1) (by simpa using q2), fun q1 q2 => by rw [U.rest 18 (by decide), U.rest 10 (by decide)]; obtain ⟨k, r1, r2, r3⟩ := h.e8 (by simpa using q1) (by simpa using q2); exact ⟨k, r1, r2, fun q3 q4 => r3 (by simpa using q3) (by simpa using q4)⟩, fun q1 q2 => by rw [U.rest 19 (by decide)]; exact h.e9 (by simpa using q1) (by simpa using q2), fun q => h.fin (by simpa using q)⟩

theorem pi2 (h : PI W0 b LL la lc T tm cmd f0 F L a w) (_hL : L 2 = false) (h11 : L 11 = false) (l1 : L 1 = true) (hc : ∀ w', Below W0.heap.size W0 w' → w'.cell? ⟨b, 4, none⟩ = some (.slice la LL lc)) (hi : ops[2]? = some o) (ho : ∃ t p af, o = ⟨some 12, .load 22 (.tmp 11), t, p, af, none⟩) :
    wpOp Try.prog ops Q 2 (fun a' w' => PI W0 b LL la lc T tm cmd f0 F (fun j => j == 2 || L j) a' w') a w := by
  obtain ⟨t, p, af, rfl⟩ := ho
  refine o_val hi rfl (by simp [Region.wanted]) (by rw [h.size]; decide) (run_ldL (eval_G (h.s1 l1)) (hc _ (h.old h11))) fun a' U hf => ?_
  exact ⟨U.size.trans h.size, hf.trans h.defs, fun j hj => (U.rest j (by omega)).trans (h.rest j hj), fun q => h.old (by simpa using q), fun q => (U.rest 11 (by decide)).trans (h.s1 (by simpa using q)), fun _ => U.got, fun q => (U.rest 14 (by decide)).trans (h.s4 (by simpa using q)), fun q => (U.rest 15 (by decide)).trans (h.s5 (by simpa using q)), fun q => (U.rest 16 (by decide)).trans (h.s6 (by simpa using q)), fun q => (U.rest 17 (by decide)).trans (h.s7 (by simpa using q)), fun q => (U.rest 20 (by decide)).trans (h.s10 (by simpa using q)), fun q1 q2 => by rw [U.rest 10 (by decide)]; exact h.e0 (by simpa using q1) (by simpa using q2), fun q1 q2 => by rw [U.rest 13 (by decide)]; exact h.e3 (by simpa using q1) (by simpa using q2), fun q1 q2 => by rw [U.rest 18 (by decide), U.rest 10 (by decide)]; obtain ⟨k, r1, r2, r3⟩ := h.e8 (by simpa using q1) (by simpa using q2); exact ⟨k, r1, r2, fun q3 q4 => r3 (by simpa using q3) (by simpa using q4)⟩, fun q1 q2 => by rw [U.rest 19 (by decide)]; exact h.e9 (by simpa using q1) (by simpa using q2), fun q => h.fin (by simpa using q)⟩

theorem pi4 (h : PI W0 b LL la lc T tm cmd f0 F L a w) (_hL : L 4 = false) (hb : G f0 2 = .pointer (some ⟨b, 0, none⟩)) (hi : ops[4]? = some o) (ho : ∃ t p af, o = ⟨some 14, .fieldAddr 25 (.tmp 2) 2, t, p, af, none⟩) :
    wpOp Try.prog ops Q 4 (fun a' w' => PI W0 b LL la lc T tm cmd f0 F (fun j => j == 4 || L j) a' w') a w := by
  obtain ⟨t, p, af, rfl⟩ := ho
  refine o_val hi rfl (by simp [Region.wanted]) (by rw [h.size]; decide) (run_faN 2 (.inl rfl) (eval_G ((h.rest 2 (by decide)).trans hb))) fun a' U hf => ?_
  exact ⟨U.size.trans h.size, hf.trans h.defs, fun j hj => (U.rest j (by omega)).trans (h.rest j hj), fun q => h.old (by simpa using q), fun q => (U.rest 11 (by decide)).trans (h.s1 (by simpa using q)), fun q => (U.rest 12 (by decide)).trans (h.s2 (by simpa using q)), fun _ => U.got, fun q => (U.rest 15 (by decide)).trans (h.s5 (by simpa using q)), fun q => (U.rest 16 (by decide)).trans (h.s6 (by simpa using q)), fun q => (U.rest 17 (by decide)).trans (h.s7 (by simpa using q)), fun q => (U.rest 20 (by decide)).trans (h.s10 (by simpa using q)), fun q1 q2 => by rw [U.rest 10 (by decide)]; exact h.e0 (by simpa using q1) (by simpa using q2), fun q1 q2 => by rw [U.rest 13 (by decide)]; exact h.e3 (by simpa using q1) (by simpa using q2), fun q1 q2 => by rw [U.rest 18 (by decide), U.rest 10 (by decide)]; obtain ⟨k, r1, r2, r3⟩ := h.e8 (by simpa using q1) (by simpa using q2); exact ⟨k, r1, r2, fun q3 q4 => r3 (by simpa using q3) (by simpa using q4)⟩, fun q1 q2 => by rw [U.rest 19 (by decide)]; exact h.e9 (by simpa using q1) (by simpa using q2), fun q => h.fin (by simpa using q)⟩

theorem pi5 (h : PI W0 b LL la lc T tm cmd f0 F L a w) (_hL : L 5 = false) (h11 : L 11 = false) (l4 : L 4 = true) (hc : ∀ w', Below W0.heap.size W0 w' → w'.cell? ⟨b, 2, none⟩ = some (.int .i64 tm)) (hi : ops[5]? = some o) (ho : ∃ t p af, o = ⟨some 15, .load 3 (.tmp 14), t, p, af, none⟩) :
    wpOp Try.prog ops Q 5 (fun a' w' => PI W0 b LL la lc T tm cmd f0 F (fun j => j == 5 || L j) a' w') a w := by
  obtain ⟨t, p, af, rfl⟩ := ho
  refine o_val hi rfl (by simp [Region.wanted]) (by rw [h.size]; decide) (run_ldI (eval_G (h.s4 l4)) (hc _ (h.old h11))) fun a' U hf => ?_
  exact ⟨U.size.trans h.size, hf.trans h.defs, fun j hj => (U.rest j (by omega)).trans (h.rest j hj), fun q => h.old (by simpa using q), fun q => (U.rest 11 (by decide)).trans (h.s1 (by simpa using q)), fun q => (U.rest 12 (by decide)).trans (h.s2 (by simpa using q)), fun q => (U.rest 14 (by decide)).trans (h.s4 (by simpa using q)), fun _ => U.got, fun q => (U.rest 16 (by decide)).trans (h.s6 (by simpa using q)), fun q => (U.rest 17 (by decide)).trans (h.s7 (by simpa using q)), fun q => (U.rest 20 (by decide)).trans (h.s10 (by simpa using q)), fun q1 q2 => by rw [U.rest 10 (by decide)]; exact h.e0 (by simpa using q1) (by simpa using q2), fun q1 q2 => by rw [U.rest 13 (by decide)]; exact h.e3 (by simpa using q1) (by simpa using q2), fun q1 q2 => by rw [U.rest 18 (by decide), U.rest 10 (by decide)]; obtain ⟨k, r1, r2, r3⟩ := h.e8 (by simpa using q1) (by simpa using q2); exact ⟨k, r1, r2, fun q3 q4 => r3 (by simpa using q3) (by simpa using q4)⟩, fun q1 q2 => by rw [U.rest 19 (by decide)]; exact h.e9 (by simpa using q1) (by simpa using q2), fun q => h.fin (by simpa using q)⟩

theorem pi6 (h : PI W0 b LL la lc T tm cmd f0 F L a w) (_hL : L 6 = false) (hb : G f0 1 = .int .i64 cmd) (hi : ops[6]? = some o) (ho : ∃ t p af, o = ⟨some 16, .move (.tmp 1), t, p, af, none⟩) :
    wpOp Try.prog ops Q 6 (fun a' w' => PI W0 b LL la lc T tm cmd f0 F (fun j => j == 6 || L j) a' w') a w := by
  obtain ⟨t, p, af, rfl⟩ := ho
  refine o_val hi rfl (by simp [Region.wanted]) (by rw [h.size]; decide) (run_mv (eval_G ((h.rest 1 (by decide)).trans hb))) fun a' U hf => ?_
  exact ⟨U.size.trans h.size, hf.trans h.defs, fun j hj => (U.rest j (by omega)).trans (h.rest j hj), fun q => h.old (by simpa using q), fun q => (U.rest 11 (by decide)).trans (h.s1 (by simpa using q)), fun q => (U.rest 12 (by decide)).trans (h.s2 (by simpa using q)), fun q => (U.rest 14 (by decide)).trans (h.s4 (by simpa using q)), fun q => (U.rest 15 (by decide)).trans (h.s5 (by simpa using q)), fun _ => U.got, fun q => (U.rest 17 (by decide)).trans (h.s7 (by simpa using q)), fun q => (U.rest 20 (by decide)).trans (h.s10 (by simpa using q)), fun q1 q2 => by rw [U.rest 10 (by decide)]; exact h.e0 (by simpa using q1) (by simpa using q2), fun q1 q2 => by rw [U.rest 13 (by decide)]; exact h.e3 (by simpa using q1) (by simpa using q2), fun q1 q2 => by rw [U.rest 18 (by decide), U.rest 10 (by decide)]; obtain ⟨k, r1, r2, r3⟩ := h.e8 (by simpa using q1) (by simpa using q2); exact ⟨k, r1, r2, fun q3 q4 => r3 (by simpa using q3) (by simpa using q4)⟩, fun q1 q2 => by rw [U.rest 19 (by decide)]; exact h.e9 (by simpa using q1) (by simpa using q2), fun q => h.fin (by simpa using q)⟩

theorem pi7 (h : PI W0 b LL la lc T tm cmd f0 F L a w) (_hL : L 7 = false) (l5 : L 5 = true) (l6 : L 6 = true) (hi : ops[7]? = some o) (ho : ∃ t p af, o = ⟨some 17, .build 58 #[(0, .tmp 15), (1, .tmp 16)], t, p, af, none⟩) :
    wpOp Try.prog ops Q 7 (fun a' w' => PI W0 b LL la lc T tm cmd f0 F (fun j => j == 7 || L j) a' w') a w := by
  obtain ⟨t, p, af, rfl⟩ := ho
  refine o_val hi rfl (by simp [Region.wanted]) (by rw [h.size]; decide) (run_bldI (eval_G (h.s5 l5)) (eval_G (h.s6 l6))) fun a' U hf => ?_
  exact ⟨U.size.trans h.size, hf.trans h.defs, fun j hj => (U.rest j (by omega)).trans (h.rest j hj), fun q => h.old (by simpa using q), fun q => (U.rest 11 (by decide)).trans (h.s1 (by simpa using q)), fun q => (U.rest 12 (by decide)).trans (h.s2 (by simpa using q)), fun q => (U.rest 14 (by decide)).trans (h.s4 (by simpa using q)), fun q => (U.rest 15 (by decide)).trans (h.s5 (by simpa using q)), fun q => (U.rest 16 (by decide)).trans (h.s6 (by simpa using q)), fun _ => U.got, fun q => (U.rest 20 (by decide)).trans (h.s10 (by simpa using q)), fun q1 q2 => by rw [U.rest 10 (by decide)]; exact h.e0 (by simpa using q1) (by simpa using q2), fun q1 q2 => by rw [U.rest 13 (by decide)]; exact h.e3 (by simpa using q1) (by simpa using q2), fun q1 q2 => by rw [U.rest 18 (by decide), U.rest 10 (by decide)]; obtain ⟨k, r1, r2, r3⟩ := h.e8 (by simpa using q1) (by simpa using q2); exact ⟨k, r1, r2, fun q3 q4 => r3 (by simpa using q3) (by simpa using q4)⟩, fun q1 q2 => by rw [U.rest 19 (by decide)]; exact h.e9 (by simpa using q1) (by simpa using q2), fun q => h.fin (by simpa using q)⟩

theorem pi10 (h : PI W0 b LL la lc T tm cmd f0 F L a w) (_hL : L 10 = false) (hb : G f0 2 = .pointer (some ⟨b, 0, none⟩)) (hi : ops[10]? = some o) (ho : ∃ t p af, o = ⟨some 20, .fieldAddr 25 (.tmp 2) 4, t, p, af, none⟩) :
    wpOp Try.prog ops Q 10 (fun a' w' => PI W0 b LL la lc T tm cmd f0 F (fun j => j == 10 || L j) a' w') a w := by
  obtain ⟨t, p, af, rfl⟩ := ho
  refine o_val hi rfl (by simp [Region.wanted]) (by rw [h.size]; decide) (run_faN 4 (.inr rfl) (eval_G ((h.rest 2 (by decide)).trans hb))) fun a' U hf => ?_
  exact ⟨U.size.trans h.size, hf.trans h.defs, fun j hj => (U.rest j (by omega)).trans (h.rest j hj), fun q => h.old (by simpa using q), fun q => (U.rest 11 (by decide)).trans (h.s1 (by simpa using q)), fun q => (U.rest 12 (by decide)).trans (h.s2 (by simpa using q)), fun q => (U.rest 14 (by decide)).trans (h.s4 (by simpa using q)), fun q => (U.rest 15 (by decide)).trans (h.s5 (by simpa using q)), fun q => (U.rest 16 (by decide)).trans (h.s6 (by simpa using q)), fun q => (U.rest 17 (by decide)).trans (h.s7 (by simpa using q)), fun _ => U.got, fun q1 q2 => by rw [U.rest 10 (by decide)]; exact h.e0 (by simpa using q1) (by simpa using q2), fun q1 q2 => by rw [U.rest 13 (by decide)]; exact h.e3 (by simpa using q1) (by simpa using q2), fun q1 q2 => by rw [U.rest 18 (by decide), U.rest 10 (by decide)]; obtain ⟨k, r1, r2, r3⟩ := h.e8 (by simpa using q1) (by simpa using q2); exact ⟨k, r1, r2, fun q3 q4 => r3 (by simpa using q3) (by simpa using q4)⟩, fun q1 q2 => by rw [U.rest 19 (by decide)]; exact h.e9 (by simpa using q1) (by simpa using q2), fun q => h.fin (by simpa using q)⟩

theorem pi0 (h : PI W0 b LL la lc T tm cmd f0 F L a w) (_hL : L 0 = false) (h11 : L 11 = false) (hi : ops[0]? = some o) (ho : ∃ t p af, o = ⟨some 10, .buildSlice 22 0 #[], t, p, af, none⟩) :
    wpOp Try.prog ops Q 0 (fun a' w' => PI W0 b LL la lc T tm cmd f0 F (fun j => j == 0 || L j) a' w') a w := by
  obtain ⟨t, p, af, rfl⟩ := ho
  have hb := below_new w (.cells #[] 58)
  have ho := h.old h11
  refine o_val hi rfl (by simp [Region.wanted]) (by rw [h.size]; decide) run_bldI0 fun a' U hf => ?_
  exact ⟨U.size.trans h.size, hf.trans h.defs, fun j hj => (U.rest j (by omega)).trans (h.rest j hj), fun _ => below_via ho hb, fun q => (U.rest 11 (by decide)).trans (h.s1 (by simpa using q)), fun q => (U.rest 12 (by decide)).trans (h.s2 (by simpa using q)), fun q => (U.rest 14 (by decide)).trans (h.s4 (by simpa using q)), fun q => (U.rest 15 (by decide)).trans (h.s5 (by simpa using q)), fun q => (U.rest 16 (by decide)).trans (h.s6 (by simpa using q)), fun q => (U.rest 17 (by decide)).trans (h.s7 (by simpa using q)), fun q => (U.rest 20 (by decide)).trans (h.s10 (by simpa using q)), fun _ _ => by rw [U.got]; exact own_emptyK _ _ rfl ho.size, fun q1 q2 => by rw [U.rest 13 (by decide)]; exact (h.e3 (by simpa using q1) (by simpa using q2)).alloc _, fun q1 q2 => by rw [U.rest 18 (by decide), U.got]; obtain ⟨k, r1, r2, _⟩ := h.e8 (by simpa using q1) (by simpa using q2); exact ⟨k, r1, r2.over _, fun _ _ e => by have := r2.low; simp [Value.ownBlock] at e; omega⟩, fun q1 q2 => by rw [U.rest 19 (by decide)]; exact (h.e9 (by simpa using q1) (by simpa using q2)).alloc _, fun q => by simp [h11] at q⟩

theorem pi8 (h : PI W0 b LL la lc T tm cmd f0 F L a w) (_hL : L 8 = false) (h11 : L 11 = false) (l7 : L 7 = true) (hi : ops[8]? = some o) (ho : ∃ t p af, o = ⟨some 18, .buildSlice 22 1 #[(0, .tmp 17)], t, p, af, none⟩) :
    wpOp Try.prog ops Q 8 (fun a' w' => PI W0 b LL la lc T tm cmd f0 F (fun j => j == 8 || L j) a' w') a w := by
  obtain ⟨t, p, af, rfl⟩ := ho
  have hb := below_new w (.cells #[.int .i64 tm, .int .i64 cmd] 58)
  have ho := h.old h11
  refine o_val hi rfl (by simp [Region.wanted]) (by rw [h.size]; decide) (run_bldI1 (eval_G (h.s7 l7))) fun a' U hf => ?_
  exact ⟨U.size.trans h.size, hf.trans h.defs, fun j hj => (U.rest j (by omega)).trans (h.rest j hj), fun _ => below_via ho hb, fun q => (U.rest 11 (by decide)).trans (h.s1 (by simpa using q)), fun q => (U.rest 12 (by decide)).trans (h.s2 (by simpa using q)), fun q => (U.rest 14 (by decide)).trans (h.s4 (by simpa using q)), fun q => (U.rest 15 (by decide)).trans (h.s5 (by simpa using q)), fun q => (U.rest 16 (by decide)).trans (h.s6 (by simpa using q)), fun q => (U.rest 17 (by decide)).trans (h.s7 (by simpa using q)), fun q => (U.rest 20 (by decide)).trans (h.s10 (by simpa using q)), fun q1 q2 => by rw [U.rest 10 (by decide)]; exact (h.e0 (by simpa using q1) (by simpa using q2)).alloc _, fun q1 q2 => by rw [U.rest 13 (by decide)]; exact (h.e3 (by simpa using q1) (by simpa using q2)).alloc _, fun _ _ => ⟨w.heap.size, U.got, BK.new _ _ _, fun q3 q4 e => by rw [U.rest 10 (by decide)] at e; have := (World.ownsRow.lt (h.e0 (by simpa using q3) (by simpa using q4)) _ e).2; omega⟩, fun q1 q2 => by rw [U.rest 19 (by decide)]; exact (h.e9 (by simpa using q1) (by simpa using q2)).alloc _, fun q => by simp [h11] at q⟩

theorem pi3 (h : PI W0 b LL la lc T tm cmd f0 F L a w) (hL : L 3 = false) (h11 : L 11 = false) (h9 : L 9 = false) (l0 : L 0 = true) (l2 : L 2 = true) (hx : SC (· < W0.heap.size) W0 (.slice la LL lc) 2 LL T) (h1 : ∀ u ∈ T, u.oneCell' = true) (h60 : LL ≤ 60) (hi : ops[3]? = some o) (ho : ∃ t p af, o = ⟨some 13, .call { callee := .builtin .append, args := #[.tmp 10, .tmp 12], argTypes := #[22, 22] }, t, p, af, none⟩) :
    wpOp Try.prog ops Q 3 (fun a' w' => PI W0 b LL la lc T tm cmd f0 F (fun j => j == 3 || L j) a' w') a w := by
  obtain ⟨t, p, af, rfl⟩ := ho
  have ho := h.old h11
  obtain ⟨i0, I0, I1, I2, I3⟩ := info_parts info_T
  have hown := h.e0 l0 hL
  obtain ⟨v', w', hr, h3, h4, _⟩ := run_append_sc (P := (· < w.heap.size)) W0.heap.size 22 t 58 i0 _ 2 16 Try.underlying22 I0 I1 I2 I3 rfl (by decide) none_T (G a 10) (.slice la LL lc) 0 LL [] T hown (SC.keep (kept ho) hx) h1 (by unfold maxLen; omega) (by omega) ho.size
  rw [Nat.zero_add, List.nil_append] at h3
  have hb : Below W0.heap.size W0 w' := ho.trans (own_old hown h4 ho.size)
  refine o_val hi rfl (by simp [Region.wanted]) (by rw [h.size]; decide) (run_appI rfl (eval_G (h.s2 l2)) hr) fun a' U hf => ?_
  exact ⟨U.size.trans h.size, hf.trans h.defs, fun j hj => (U.rest j (by omega)).trans (h.rest j hj), fun _ => hb, fun q => (U.rest 11 (by decide)).trans (h.s1 (by simpa using q)), fun q => (U.rest 12 (by decide)).trans (h.s2 (by simpa using q)), fun q => (U.rest 14 (by decide)).trans (h.s4 (by simpa using q)), fun q => (U.rest 15 (by decide)).trans (h.s5 (by simpa using q)), fun q => (U.rest 16 (by decide)).trans (h.s6 (by simpa using q)), fun q => (U.rest 17 (by decide)).trans (h.s7 (by simpa using q)), fun q => (U.rest 20 (by decide)).trans (h.s10 (by simpa using q)), fun _ q => by simp at q, fun _ _ => by rw [U.got]; exact h3, fun q1 _ => by rw [U.rest 18 (by decide)]; obtain ⟨k, r1, r2, r3⟩ := h.e8 (by simpa using q1) h9; exact ⟨k, r1, (h4.block k r2.low (fun q => r3 l0 hL q.symm)).trans r2, fun _ q => by simp at q⟩, fun q _ => by simp [h9] at q, fun q => by simp [h11] at q⟩

theorem pi9 (h : PI W0 b LL la lc T tm cmd f0 F L a w) (hL : L 9 = false) (h11 : L 11 = false) (l3 : L 3 = true) (l8 : L 8 = true) (h60 : LL ≤ 60) (hi : ops[9]? = some o) (ho : ∃ t p af, o = ⟨some 19, .call { callee := .builtin .append, args := #[.tmp 13, .tmp 18], argTypes := #[22, 22] }, t, p, af, none⟩) :
    wpOp Try.prog ops Q 9 (fun a' w' => PI W0 b LL la lc T tm cmd f0 F (fun j => j == 9 || L j) a' w') a w := by
  obtain ⟨t, p, af, rfl⟩ := ho
  have ho := h.old h11
  obtain ⟨i0, I0, I1, I2, I3⟩ := info_parts info_T
  have hown := h.e3 l3 hL
  obtain ⟨k, r1, r2, _⟩ := h.e8 l8 hL
  obtain ⟨v', w', hr, h3, h4, _, _⟩ := run_append_own_at (P := Try.prog) w W0.heap.size 22 t 58 i0 _ 2 16 Try.underlying22 I0 I1 I2 I3 rfl (by decide) (G a 13) LL T hown ⟨k, 0, none⟩ 1 1 [.int .i64 tm, .int .i64 cmd] rfl (fun j u e => by rw [Addr.add_lit, Nat.zero_add]; exact r2.at (by simpa using e)) (one_two _ _) (by unfold maxLen; omega) (by omega) ho.size
  have hb : Below W0.heap.size W0 w' := ho.trans (own_old hown h4 ho.size)
  refine o_val hi rfl (by simp [Region.wanted]) (by rw [h.size]; decide) (run_appI rfl (eval_G r1) hr) fun a' U hf => ?_
  exact ⟨U.size.trans h.size, hf.trans h.defs, fun j hj => (U.rest j (by omega)).trans (h.rest j hj), fun _ => hb, fun q => (U.rest 11 (by decide)).trans (h.s1 (by simpa using q)), fun q => (U.rest 12 (by decide)).trans (h.s2 (by simpa using q)), fun q => (U.rest 14 (by decide)).trans (h.s4 (by simpa using q)), fun q => (U.rest 15 (by decide)).trans (h.s5 (by simpa using q)), fun q => (U.rest 16 (by decide)).trans (h.s6 (by simpa using q)), fun q => (U.rest 17 (by decide)).trans (h.s7 (by simpa using q)), fun q => (U.rest 20 (by decide)).trans (h.s10 (by simpa using q)), fun _ q => by simp [l3] at q, fun _ q => by simp at q, fun _ q => by simp at q, fun _ _ => by rw [U.got]; exact h3, fun q => by simp [h11] at q⟩

theorem pi11 (h : PI W0 b LL la lc T tm cmd f0 F L a w) (hL : L 11 = false) (l3 : L 3 = true) (l9 : L 9 = true) (l10 : L 10 = true) (hF : ∀ u w', w'.ownsRow W0.heap.size 58 2 u (LL + 1) (T ++ [.int .i64 tm, .int .i64 cmd]) → Below W0.heap.size W0 w' → F (w'.setCell ⟨b, 4, none⟩ u)) (hc : ∀ w', Below W0.heap.size W0 w' → w'.cell? ⟨b, 4, none⟩ = some (.slice la LL lc) ∧ w'.frozen? ⟨b, 4, none⟩ = false) (hi : ops[11]? = some o) (ho : ∃ t p af, o = ⟨none, .store 22 (.tmp 20) (.tmp 19), t, p, af, none⟩) :
    wpOp Try.prog ops Q 11 (fun a' w' => PI W0 b LL la lc T tm cmd f0 F (fun j => j == 11 || L j) a' w') a w := by
  obtain ⟨t, p, af, rfl⟩ := ho
  have hb := h.old hL
  have hown := h.e9 l9 hL
  obtain ⟨g, cap, eg, _⟩ := own_slice hown (by omega)
  have FI := hF _ _ hown hb
  rw [eg] at FI
  refine o_skipv hi (run_stL (eval_G (h.s10 l10)) (eval_G eg) (hc _ hb).1 (hc _ hb).2) ?_
  exact ⟨h.size, h.defs, h.rest, fun q => by simp at q, fun q => h.s1 (by simpa using q), fun q => h.s2 (by simpa using q), fun q => h.s4 (by simpa using q), fun q => h.s5 (by simpa using q), fun q => h.s6 (by simpa using q), fun q => h.s7 (by simpa using q), fun q => h.s10 (by simpa using q), fun _ q => by simp [l3] at q, fun _ q => by simp [l9] at q, fun _ q => by simp [l9] at q, fun _ q => by simp at q, fun _ => FI⟩

end

end Go.Proofs.Ytiplnegiphhdlaa
