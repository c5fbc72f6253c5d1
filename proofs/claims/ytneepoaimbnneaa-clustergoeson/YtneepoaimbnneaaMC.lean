/- Walks: Most, Copy, With, Follower. -/
import Derived.Test.YtneepoaimbnneaaMB
import Derived.Laws.OwnMore
namespace Go.Proofs.Ytneepoaimbnneaa
open Go.RowKit

/-- a new block of one cell -/
theorem cell_one_new (w : World) (t : TypeId) (u : Value) : ∀ j x, [u][j]? = some x → (w.alloc (.cells #[u] t)).cell? ((⟨w.heap.size, 0, none⟩ : Addr).add j) = some x := by
  intro j x h
  cases j with
  | zero => simp at h; subst h; simp [go_sem, Addr.add]
  | succ j => simp at h
theorem one_int (n : Int) : ∀ u ∈ [Value.int .i64 n], u.oneCell' = true := by
  intro u hu
  simp at hu
  subst hu
  rfl
/-- nil goes behind what a slice owns -/
def NoneOk (t e : TypeId) (size : Nat) : Prop := ∀ (ty : TypeId) (c base : Nat) (v : Value) (n : Nat) (xs : List Value) (w : World), w.ownsRow base e size v n xs → (Builtin.append_ #[t, t] ty #[v, .slice none 0 c]).run Try.prog w = .ok v w
theorem none_I : NoneOk 32 3 1 := by
  intro ty c base v n xs w hown
  rcases hown.2 with ⟨rfl, rfl⟩ | ⟨g, cap, cur, rfl, _, hgb, r1, r2, r3, r4⟩
  · simp [go_sem, Builtin.append_]
  · simp [go_sem, Builtin.append_, r1]
theorem none_T : NoneOk 31 43 2 := by
  intro ty c base v n xs w hown
  rcases hown.2 with ⟨rfl, rfl⟩ | ⟨g, cap, cur, rfl, _, hgb, r1, r2, r3, r4⟩
  · simp [go_sem, Builtin.append_]
  · simp [go_sem, Builtin.append_, r1]
theorem none_M : NoneOk 25 40 9 := by
  intro ty c base v n xs w hown
  rcases hown.2 with ⟨rfl, rfl⟩ | ⟨g, cap, cur, rfl, _, hgb, r1, r2, r3, r4⟩
  · simp [go_sem, Builtin.append_]
  · simp [go_sem, Builtin.append_, r1]
/-- a whole slice goes behind what a slice owns -/
theorem run_append_sc {P : Nat → Prop} {w : World} (base : Nat) (t ty e : TypeId) (i : TypeInfo) (z : Value) (size bytes : Nat) (ht : Try.prog.underlying t = some (.slice e)) (hi : Try.prog.info? e = some i) (hz : i.zero = some z)
    (hsize : i.size = size) (hby : i.bytes = bytes) (hzs : z.cells.size = size) (hsz : 0 < size) (hno : NoneOk t e size) (v x : Value) (n m : Nat) (xs cs : List Value) (hown : w.ownsRow base e size v n xs) (hx : SC P w x size m cs) (h1 : ∀ u ∈ cs, u.oneCell' = true)
    (h63 : n + m ≤ maxLen) (hbytes : (n + m) * bytes ≤ 140737488355328) (hbase : base ≤ w.heap.size) :
    ∃ v' w', (Builtin.append_ #[t, t] ty #[v, x]).run Try.prog w = .ok v' w' ∧ w'.ownsRow base e size v' (n + m) (xs ++ cs) ∧ w.grownBy w' v.ownBlock ∧ (v'.ownBlock = v.ownBlock ∨ v'.ownBlock = some w.heap.size) := by
  obtain ⟨hl, a, cap, rfl, _, _, hc⟩ := hx
  cases a with
  | none =>
    have hm : m = 0 := by
      rcases Nat.eq_zero_or_pos m with h | h
      · exact h
      · obtain ⟨b, off, e1, _⟩ := hc (by omega)
        cases e1
    subst hm
    obtain rfl : cs = [] := List.eq_nil_of_length_eq_zero (by simpa using hl)
    exact ⟨v, w, hno ty cap base v n xs w hown, by simpa using hown, World.grownBy.refl w _, .inl rfl⟩
  | some a =>
    have hnews : ∀ j u, cs[j]? = some u → w.cell? (a.add j) = some u := by
      intro j u hj
      have hm : m ≠ 0 := by
        intro h
        subst h
        obtain rfl : cs = [] := List.eq_nil_of_length_eq_zero (by simpa using hl)
        simp at hj
      obtain ⟨b, off, e1, _, e3⟩ := hc hm
      cases e1
      rw [Addr.add_lit]
      exact e3 j u hj
    obtain ⟨v', w', k1, k2, k3, _, k5⟩ := run_append_own_at (P := Try.prog) w base t ty e i z size bytes ht hi hz hsize hby hzs hsz v n xs hown a m cap cs hl hnews h1 h63 hbytes hbase
    exact ⟨v', w', k1, k2, k3, k5⟩
theorem wpList_append_sc {P : Nat → Prop} {w : World} {ops : Array Oper} {rest : List Oper} {o : Oper} {a : Act} {Q : Exit → Act → World → Prop} (hgd : o.guard = none) (s x : Operand) (t : TypeId)
    (ho : o.op = .call { callee := .builtin .append, args := #[s, x], argTypes := #[t, t] })
    (base : Nat) (e : TypeId) (i : TypeInfo) (z : Value) (size bytes : Nat) (ht : Try.prog.underlying t = some (.slice e)) (hi : Try.prog.info? e = some i) (hz : i.zero = some z)
    (hsize : i.size = size) (hby : i.bytes = bytes) (hzs : z.cells.size = size) (hsz : 0 < size) (hno : NoneOk t e size) (v xv : Value) (n m : Nat) (xs cs : List Value) (hs : a.eval s = v) (hxv : a.eval x = xv) (hown : w.ownsRow base e size v n xs) (hx : SC P w xv size m cs) (h1 : ∀ u ∈ cs, u.oneCell' = true)
    (h63 : n + m ≤ maxLen) (hbytes : (n + m) * bytes ≤ 140737488355328) (hbase : base ≤ w.heap.size)
    (h : ∀ v' w', w'.ownsRow base e size v' (n + m) (xs ++ cs) → w.grownBy w' v.ownBlock → (v'.ownBlock = v.ownBlock ∨ v'.ownBlock = some w.heap.size) → wpList Try.prog ops Q rest (a.put o.dst v') w') : wpList Try.prog ops Q (o :: rest) a w := by
  obtain ⟨v', w', hr, h2, h3, h4⟩ := run_append_sc base t o.type e i z size bytes ht hi hz hsize hby hzs hsz hno v xv n m xs cs hown hx h1 h63 hbytes hbase
  refine wpList_plain hgd fun K hK => ?_
  unfold Oper.wp execOp
  simp only [ho, resolve, invoke, builtin, Sem.run_bind, Sem.run_pure, Result.andThen_ok, List.map_toArray, List.map_cons, List.map_nil, hs, hxv, hr]
  exact hK _ _ (h v' w' h2 h3 h4)
/-- an empty row of one's own -/
theorem own_empty {w : World} (base : Nat) (e : TypeId) (size : Nat) (hb : base ≤ w.heap.size) : (w.alloc (.cells #[] e)).ownsRow base e size (.slice (some ⟨w.heap.size, 0, none⟩) 0 0) 0 [] :=
  World.ownsRow_made w #[] 0 hb (by unfold maxLen; omega) (by simp)
theorem own_slice {base : Nat} {e : TypeId} {size : Nat} {w : World} {v : Value} {n : Nat} {xs : List Value} (h : w.ownsRow base e size v n xs) (hn : 0 < n) : ∃ g cap, v = .slice (some ⟨g, 0, none⟩) n cap ∧ base ≤ g ∧ g < w.heap.size ∧ n ≤ cap ∧ w.heap[g]? ≠ none ∧ ∀ j, w.frozen? ⟨g, j, none⟩ = false := by
  rcases h.2 with ⟨_, h2⟩ | ⟨g, cap, cur, hv, hb, hg, hn', _⟩
  · omega
  · refine ⟨g, cap, hv, hb, lt_of_block hg, hn', by rw [hg]; simp, fun j => ?_⟩
    simp [World.frozen?, hg]
/-- a node's eleven cells -/
abbrev nodeC (x : Rf.Node) (lv vv nv mv : Value) : Array Value := #[.int .i64 x.id, .int .i64 x.n, .int .i64 x.term, .int .i64 x.vote, lv, .int .i64 x.commit, .int .i64 x.role, .int .i64 x.boss, vv, nv, mv]

end Go.Proofs.Ytneepoaimbnneaa

namespace Go.Proofs.Ytneepoaimbnneaa.R15
open Go.RowKit

end Go.Proofs.Ytneepoaimbnneaa.R15
