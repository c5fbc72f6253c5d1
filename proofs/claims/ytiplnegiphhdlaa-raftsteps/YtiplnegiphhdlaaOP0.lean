/- For Put: appends inside a region that draws, told from a world ahead of it. -/
import Derived.Test.YtiplnegiphhdlaaOA
namespace Go.Proofs.Ytiplnegiphhdlaa
open Go.RowKit

theorem own_emptyK {w : World} {base k : Nat} (e : TypeId) (size : Nat) (hk : w.heap.size = k) (hb : base ≤ k) : (w.alloc (.cells #[] e)).ownsRow base e size (.slice (some ⟨k, 0, none⟩) 0 0) 0 [] := by
  subst hk
  exact own_empty base e size hb
theorem BK.drew1 {w : World} {b : Nat} {t : TypeId} {vs : Array Value} (h : BK w b t vs) : BK w.drew b t vs := h
theorem BK.over {w : World} {b : Nat} {t : TypeId} {vs : Array Value} (h : BK w b t vs) (o : Obj) : BK (w.alloc o) b t vs := h.keep (below_new _ _)
/-- append(new, l...) -/
theorem step_append0 {ops : Array Oper} {o : Oper} {a : Act} {w : World} {K : Act → World → Prop} {Q : Exit → Act → World → Prop} {E : Prop}
    (hg : o.guard = none) (s x : Operand) (t : TypeId) (ho : o.op = Op.call { callee := Callee.builtin Builtin.append, args := #[s, x], argTypes := #[t, t] }) (W0 : World)
    (e : TypeId) (i : TypeInfo) (z : Value) (size bytes : Nat) (ht : Try.prog.underlying t = some (.slice e)) (hi : Try.prog.info? e = some i) (hz : i.zero = some z)
    (hsize : i.size = size) (hby : i.bytes = bytes) (hzs : z.cells.size = size) (hsz : 0 < size) (hno : NoneOk t e size)
    (v xv : Value) (m : Nat) (cs : List Value) (hs : a.eval s = v) (hxv : a.eval x = xv) (hx : SC (· < W0.heap.size) W0 xv size m cs) (h1 : ∀ u ∈ cs, u.oneCell' = true)
    (h63 : m ≤ maxLen) (hbytes : m * bytes ≤ 140737488355328) (hW : Below W0.heap.size W0 w) (hown : w.ownsRow W0.heap.size e size v 0 [])
    (hK : ∀ v' w', w'.ownsRow W0.heap.size e size v' m cs → Below W0.heap.size W0 w' → (∀ c ty vs, BK w c ty vs → v.ownBlock ≠ some c → BK w' c ty vs) → K (a.put o.dst v') w') :
    if Region.wanted o (yielded ops a.tmps) = true then Oper.wp Try.prog o a w K Q else E := by
  refine step_append_sc (P := (· < w.heap.size)) hg s x t ho W0.heap.size e i z size bytes ht hi hz hsize hby hzs hsz hno v xv 0 m [] cs hs hxv hown (SC.keep (kept hW) hx) h1 (by rw [Nat.zero_add]; exact h63) (by rw [Nat.zero_add]; exact hbytes) hW.size ?_
  intro v' w' h3 h4 _
  rw [Nat.zero_add, List.nil_append] at h3
  exact hK v' w' h3 (hW.trans (own_old hown h4 hW.size)) fun c ty vs hb hn => (h4.block c hb.low (fun q => hn q.symm)).trans hb
/-- append(own, one) -/
theorem step_append1 {ops : Array Oper} {o : Oper} {a : Act} {w : World} {K : Act → World → Prop} {Q : Exit → Act → World → Prop} {E : Prop}
    (hg : o.guard = none) (s x : Operand) (t : TypeId) (ho : o.op = Op.call { callee := Callee.builtin Builtin.append, args := #[s, x], argTypes := #[t, t] }) (W0 : World)
    (e : TypeId) (i : TypeInfo) (z : Value) (size bytes : Nat) (ht : Try.prog.underlying t = some (.slice e)) (hi : Try.prog.info? e = some i) (hz : i.zero = some z)
    (hsize : i.size = size) (hby : i.bytes = bytes) (hzs : z.cells.size = size) (hsz : 0 < size)
    (v : Value) (n : Nat) (xs : List Value) (hs : a.eval s = v) (k m c : Nat) (news : List Value) (hx : a.eval x = .slice (some ⟨k, 0, none⟩) m c) (hl : news.length = m * size) (h1 : ∀ u ∈ news, u.oneCell' = true)
    (h63 : n + m ≤ maxLen) (hbytes : (n + m) * bytes ≤ 140737488355328) (hnews : BK w k e news.toArray) (hW : Below W0.heap.size W0 w) (hown : w.ownsRow W0.heap.size e size v n xs)
    (hK : ∀ v' w', w'.ownsRow W0.heap.size e size v' (n + m) (xs ++ news) → Below W0.heap.size W0 w' → K (a.put o.dst v') w') :
    if Region.wanted o (yielded ops a.tmps) = true then Oper.wp Try.prog o a w K Q else E := by
  refine step_append_own_at hg s x t ho W0.heap.size e i z size bytes ht hi hz hsize hby hzs hsz v n xs hs hown ⟨k, 0, none⟩ m c news hx hl (fun j u h => ?_) h1 h63 hbytes hW.size ?_
  · rw [Addr.add_lit, Nat.zero_add]
    exact hnews.at (by simpa using h)
  · intro v' w' h3 h4 _
    exact hK v' w' h3 (hW.trans (own_old hown h4 hW.size))

/-- a node with an item more in its log -/
theorem put_fin {P : Nat → Prop} {w W0 w4 : World} {x : Rf.Node} {cmd : Int} {LL : Nat} {lv vv nv mv u : Value} {Z : Array Value} (hP : ∀ c, P c → c < w.heap.size) (hX0 : BK W0 w.heap.size 25 #[.int .i64 x.id, .int .i64 x.n, .int .i64 x.term, .int .i64 x.vote, lv, .int .i64 x.commit, .int .i64 x.role, .int .i64 x.boss, vv, nv, mv]) (hv : NV P w #[.int .i64 x.id, .int .i64 x.n, .int .i64 x.term, .int .i64 x.vote, lv, .int .i64 x.commit, .int .i64 x.role, .int .i64 x.boss, vv, nv, mv] x) (hB0 : Below w.heap.size w W0) (hR0 : BK W0 (w.heap.size + 1) 25 Z) (hS0 : W0.heap.size = w.heap.size + 2) (h4 : Below W0.heap.size W0 w4)
    (ho : w4.ownsRow W0.heap.size 58 2 u (LL + 1) (its x.log ++ [.int .i64 x.term, .int .i64 cmd])) (hL : LL = x.log.length) (h60 : LL < 60) :
    NB P w.heap.size (w4.setCell ⟨w.heap.size, 4, none⟩ u) { x with log := Rf.grown x cmd } ∧ BK (w4.setCell ⟨w.heap.size, 4, none⟩ u) (w.heap.size + 1) 25 Z ∧ Below w.heap.size w (w4.setCell ⟨w.heap.size, 4, none⟩ u) := by
  have hb4 : Below w.heap.size w w4 := below_via hB0 h4
  have x4 := hX0.low' h4 hX0.low
  have s4 := h4.size
  refine ⟨NB.set hP x4 4 u ?_, (hR0.low' h4 hR0.low).other ⟨w.heap.size, 4, none⟩ u (by show w.heap.size + 1 ≠ w.heap.size; omega), hb4.setCell (Nat.le_refl _) u⟩
  obtain ⟨lv', vv', nv', mv', e, _, t2, t3, t4⟩ := hv
  simp only [Array.mk.injEq, List.cons.injEq, and_true, true_and] at e
  obtain ⟨rfl, rfl, rfl, rfl⟩ := e
  have k : ∀ c, P c → Aw P w.heap.size w4 c ∧ w4.heap[c]? = w.heap[c]? := fun c hc => ⟨.inl hc, hb4.block c (hP c hc)⟩
  refine ⟨u, _, _, _, rfl, ?_, IV.keep k t2, IV.keep k t3, IV.keep k t4⟩
  have hg : Rf.grown x cmd = x.log ++ [(x.term, cmd)] := by rw [Rf.grown, if_pos (by omega)]
  show TV _ _ _ (Rf.grown x cmd)
  rw [hg]
  have := SC.own' ho
  rw [hL, show its x.log ++ [Value.int .i64 x.term, .int .i64 cmd] = its (x.log ++ [(x.term, cmd)]) from (its_one_more x.log (x.term, cmd)).symm] at this
  show SC _ _ _ 2 (x.log ++ [(x.term, cmd)]).length _
  rw [List.length_append]
  exact SC.keep (fun c hc => ⟨.inr ⟨by have := hc.1; omega, hc.2⟩, rfl⟩) this

end Go.Proofs.Ytiplnegiphhdlaa
