/- For Put: append(s, l...) inside a region that draws; what is put keeps a leader's bounds. -/
import Derived.Test.YtiplnegiphhdlaaMG
namespace Go.Proofs.Ytiplnegiphhdlaa
open Go.RowKit

theorem step_append_sc {P : Nat → Prop} {ops : Array Oper} {o : Oper} {a : Act} {w : World} {K : Act → World → Prop} {Q : Exit → Act → World → Prop} {E : Prop}
    (hg : o.guard = none) (s x : Operand) (t : TypeId) (ho : o.op = Op.call { callee := Callee.builtin Builtin.append, args := #[s, x], argTypes := #[t, t] })
    (base : Nat) (e : TypeId) (i : TypeInfo) (z : Value) (size bytes : Nat) (ht : Try.prog.underlying t = some (.slice e)) (hi : Try.prog.info? e = some i) (hz : i.zero = some z)
    (hsize : i.size = size) (hby : i.bytes = bytes) (hzs : z.cells.size = size) (hsz : 0 < size) (hno : NoneOk t e size)
    (v xv : Value) (n m : Nat) (xs cs : List Value) (hs : a.eval s = v) (hxv : a.eval x = xv) (hown : w.ownsRow base e size v n xs) (hx : SC P w xv size m cs) (h1 : ∀ u ∈ cs, u.oneCell' = true)
    (h63 : n + m ≤ maxLen) (hbytes : (n + m) * bytes ≤ 140737488355328) (hbase : base ≤ w.heap.size)
    (hK : ∀ v' w', w'.ownsRow base e size v' (n + m) (xs ++ cs) → w.grownBy w' v.ownBlock → (v'.ownBlock = v.ownBlock ∨ v'.ownBlock = some w.heap.size) → K (a.put o.dst v') w') :
    if Region.wanted o (yielded ops a.tmps) = true then Oper.wp Try.prog o a w K Q else E := by
  have hw : Region.wanted o (yielded ops a.tmps) = true := by simp [Region.wanted, hg]
  rw [if_pos hw]
  obtain ⟨v', w', hr, h2, h3, h4⟩ := run_append_sc base t o.type e i z size bytes ht hi hz hsize hby hzs hsz hno v xv n m xs cs hown hx h1 h63 hbytes hbase
  unfold Oper.wp execOp
  simp only [ho, resolve, invoke, builtin, Sem.run_bind, Sem.run_pure, Result.andThen_ok, List.map_toArray, List.map_cons, List.map_nil, hs, hxv, hr]
  exact hK v' w' h2 h3 h4

end Go.Proofs.Ytiplnegiphhdlaa

namespace Go.Proofs.Ytiplnegiphhdlaa.Rf
theorem put_leads {x : Node} (h : Leads x) (c : Int) : Leads (putOne x c) ∧ (grown x c).length ≤ 60 ∧ x.log.length ≤ (grown x c).length := by
  have g1 : x.log.length ≤ (grown x c).length ∧ (grown x c).length ≤ 60 := by
    have := h.log
    unfold grown
    split
    · rw [List.length_append]; simp; omega
    · exact ⟨Nat.le_refl _, this⟩
  refine ⟨⟨h.n, h.id, ?_, ?_, g1.2, ?_, ?_⟩, g1.2, g1.1⟩
  · show ((x.next.set _ _).length : Int) = x.n
    rw [List.length_set]; exact h.len
  · show ((x.mtch.set _ _).length : Int) = x.n
    rw [List.length_set]; exact h.mlen
  · intro v hv
    have hv : v ∈ x.next.set (x.id - 1).toNat (((grown x c).length : Int) + 1) := hv
    rcases List.mem_or_eq_of_mem_set hv with q | q
    · have := h.next v q
      exact ⟨this.1, by have := this.2; show v ≤ ((grown x c).length : Int) + 1; omega⟩
    · subst q
      exact ⟨by omega, Int.le_refl _⟩
  · have := h.commit
    exact ⟨this.1, by have := this.2; show x.commit ≤ ((grown x c).length : Int); omega⟩
theorem sure_sends {x : Node} (h : Leads x) : Sends (sure x) := ⟨h.n, h.len, h.log, h.next⟩

end Go.Proofs.Ytiplnegiphhdlaa.Rf
