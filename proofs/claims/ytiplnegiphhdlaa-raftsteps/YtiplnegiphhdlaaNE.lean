/- Walks: say, appended, follow (raft). -/
import Derived.Test.YtiplnegiphhdlaaND
namespace Go.Proofs.Ytiplnegiphhdlaa
open Go.RowKit

theorem nstep_append {P : Program} {ops : Array Oper} {o : Oper} {a : Act} {w : World} {K : Act → World → Prop} {Q : Exit → Act → World → Prop} {E : Prop}
    (hg : o.guard = none) (s x : Operand) (t : TypeId) (ho : o.op = Op.call { callee := Callee.builtin Builtin.append, args := #[s, x], argTypes := #[t, t] })
    (base : Nat) (e : TypeId) (i : TypeInfo) (z : Value) (size bytes : Nat) (ht : P.underlying t = some (.slice e)) (hi : P.info? e = some i) (hz : i.zero = some z)
    (hsize : i.size = size) (hby : i.bytes = bytes) (hzs : z.cells.size = size) (hsz : 0 < size)
    (v : Value) (n : Nat) (xs : List Value) (hs : a.eval s = v) (hown : w.ownsRow base e size v n xs)
    (ad : Addr) (m c : Nat) (news : List Value) (hx : a.eval x = .slice (some ad) m c) (hl : news.length = m * size) (hnews : ∀ j u, news[j]? = some u → w.cell? (ad.add j) = some u) (h1 : ∀ u ∈ news, u.oneCell' = true)
    (h63 : n + m ≤ maxLen) (hbytes : (n + m) * bytes ≤ 140737488355328) (hbase : base ≤ w.heap.size)
    (hK : ∀ v' w', w'.ownsRow base e size v' (n + m) (xs ++ news) → w.grownBy w' v.ownBlock → (v'.ownBlock = v.ownBlock ∨ v'.ownBlock = some w.heap.size) → K (a.put o.dst v') w') :
    if Region.wanted o (yielded ops a.tmps) = true then Oper.wp P o a w K Q else E := by
  have hw : Region.wanted o (yielded ops a.tmps) = true := by simp [Region.wanted, hg]
  rw [if_pos hw]
  obtain ⟨v', w', hr, h2, h3, _, h5⟩ := run_append_own_at (P := P) w base t o.type e i z size bytes ht hi hz hsize hby hzs hsz v n xs hown ad m c news hl hnews h1 h63 hbytes hbase
  unfold Oper.wp execOp
  simp only [ho, resolve, invoke, builtin, Sem.run_bind, Sem.run_pure, Result.andThen_ok, List.map_toArray, List.map_cons, List.map_nil, hs, hx, hr]
  exact hK v' w' h2 h3 h5
theorem cells_new (W : World) (t : TypeId) (l : List Value) : ∀ j u, l[j]? = some u → (W.alloc (.cells l.toArray t)).cell? ((⟨W.heap.size, 0, none⟩ : Addr).add j) = some u := by
  intro j u h
  rw [Addr.add_lit, Nat.zero_add]
  exact (BK.new W t l.toArray).at (by simpa using h)
theorem ncells (W : World) (t : TypeId) (l : List Value) {k : Nat} (hk : W.heap.size = k) : ∀ j u, l[j]? = some u → (W.alloc (.cells l.toArray t)).cell? ((⟨k, 0, none⟩ : Addr).add j) = some u := hk ▸ cells_new W t l
theorem one_nine (a b c d e f g : Int) (ia : Option Addr) (n cap : Nat) (y : Bool) : ∀ u ∈ [Value.int .i64 a, .int .i64 b, .int .i64 c, .int .i64 d, .int .i64 e, .int .i64 f, .int .i64 g, .slice ia n cap, .bool y], u.oneCell' = true := by
  intro u hu
  simp at hu
  rcases hu with rfl | rfl | rfl | rfl | rfl | rfl | rfl | rfl | rfl <;> rfl
/-- only what is said has changed -/
def PS (B p : Nat) (o : Own) (w : World) (x : Rf.Node) (ms : List Rf.Msg) (e : Ending) (w' : World) : Prop := e = .returned (.tuple #[]) ∧ ∃ s' cs', WK B w' p x ms { o with s := s', cs := cs' } ∧ Fr B p o w { o with s := s', cs := cs' } w'
theorem PS.pw {B p : Nat} {o : Own} {w : World} {x : Rf.Node} {ms : List Rf.Msg} {e : Ending} {w' : World} (h : PS B p o w x ms e w') : PW B p o w x ms e w' := by
  obtain ⟨h1, s', cs', h2, h3⟩ := h
  exact ⟨h1, _, h2, h3⟩
/-- one more is said -/
theorem WK.say {B : Nat} {w W w1 : World} {p : Nat} {x : Rf.Node} {ms : List Rf.Msg} {o : Own} {m : Rf.Msg} {iv s' : Value} (h : WK B w p x ms o) (hiv : TV (fun b => B ≤ b ∧ b < w.heap.size ∧ Free p o b) w iv m.items) (hW : Below w.heap.size w W)
    (hg : W.grownBy w1 o.s.ownBlock) (ho : w1.ownsRow B 49 9 s' (ms.length + 1) (o.cs ++ mcs m iv)) (hu : s'.ownBlock = o.s.ownBlock ∨ s'.ownBlock = some W.heap.size) :
    ∃ s'' cs', WK B (w1.setCell ⟨p, 11, none⟩ s') p x (ms ++ [m]) { o with s := s'', cs := cs' } ∧ Fr B p o w { o with s := s'', cs := cs' } (w1.setCell ⟨p, 11, none⟩ s') := by
  have k := h.setS (ks := ms ++ [m]) (ds := o.cs ++ mcs m iv) (s' := s') (w1 := w1) (grown_trans (grown_below' hW _) hg) (by rw [List.length_append]; exact ho) (by
    rcases hu with e | e
    · exact .inl e
    · refine .inr fun k hk => ?_
      rw [e] at hk
      cases hk
      exact hW.size) (MC.app (show MC _ _ [m] (mcs m iv) from ⟨iv, [], by simp, hiv, rfl⟩) h.mc)
  exact ⟨_, _, k.1, k.2⟩
theorem WK.sayW {B : Nat} {w W w1 : World} {p : Nat} {x : Rf.Node} {ms : List Rf.Msg} {o : Own} {m : Rf.Msg} {iv s' sv : Value} (h : WK B w p x ms o) (hiv : TV (fun b => B ≤ b ∧ b < w.heap.size ∧ Free p o b) w iv m.items) (es : o.s = sv)
    (hg : W.grownBy w1 sv.ownBlock) (ho : w1.ownsRow B 49 9 s' (ms.length + 1) (o.cs ++ mcs m iv)) (hu : s'.ownBlock = sv.ownBlock ∨ s'.ownBlock = some W.heap.size) (hW : Below w.heap.size w W) :
    BK w1 p 46 (workC x o) ∧ ∃ s'' cs', WK B (w1.setCell ⟨p, 11, none⟩ s') p x (ms ++ [m]) { o with s := s'', cs := cs' } ∧ Fr B p o w { o with s := s'', cs := cs' } (w1.setCell ⟨p, 11, none⟩ s') := by
  subst es
  exact ⟨((hg.block p (Nat.lt_of_lt_of_le h.lo hW.size) (fun e => h.ap.ps e.symm)).trans (hW.block p h.lo)).trans h.blk, h.say hiv hW hg ho hu⟩

end Go.Proofs.Ytiplnegiphhdlaa

namespace Go.Proofs.Ytiplnegiphhdlaa.RW
open Go.RowKit

set_option maxHeartbeats 4000000 in
set_option maxRecDepth 100000 in
theorem say_any (B p : Nat) (x : Rf.Node) (ms : List Rf.Msg) (o : Own) (m : Rf.Msg) (iv : Value) (w : World) (hk : WK B w p x ms o) (hiv : TV (fun b => B ≤ b ∧ b < w.heap.size ∧ Free p o b) w iv m.items) (hms : ms.length ≤ 1000) (hf : m.frm = x.id) (ht : m.term = x.term) (f t : Int) :
    Calls Try.prog 41 #[.pointer (some ⟨p, 0, none⟩), .agg #[.int .i64 m.kind, .int .i64 f, .int .i64 m.dest, .int .i64 t, .int .i64 m.index, .int .i64 m.logTerm, .int .i64 m.commit, iv, .bool m.yes]] w (PS B p o w x (ms ++ [m])) := by
  obtain ⟨i0, I0, I1, I2, I3⟩ := info_parts info_M
  have I0' := hide I0
  have I1' := hide I1
  have I2' := hide I2
  have I3' := hide I3
  clear I0 I1 I2 I3
  obtain ⟨la, LL, lc, va, VL, vc, na, NL, nc, ma, ML, mc, sa, SL, sc, HE, hLL, hVL, hNL, hML, hSL, _, ⟨c0, c1, c2, c3, c4, c5, c6, c7, c8, c9, c10, c11⟩, ⟨f0, f1, f2, f3, f4, f5, f6, f7, f8, f9, f10, f11⟩⟩ := hk.tell
  have hp := hk.lo
  have HK := hide hk
  have HIV := hide hiv
  have HBs := hide hk.szB
  have HO : Hid (w.ownsRow B 49 9 (.slice sa SL sc) ms.length o.cs) := hide (by have := hk.said; rwa [(unhide HE).2.2.2.2] at this)
  obtain ⟨ia, IL, ic, rfl, hIL, _, _⟩ := SC.shp hiv
  obtain ⟨kind, frm, dest, term, index, logTerm, commit, items, yes⟩ := m
  simp only at hf ht
  subst hf ht
  clear hk hiv c3 c4 c5 c6 c7 c8 c9 c10 f3 f4 f5 f6 f7 f8 f9 f10
  go_enter Try.func41, Try.ntmps41
  go_wp2_with fail
  go_region
  go_wp2_with fail
  go_region_law (first
    | (refine nstep_append rfl _ _ 28 rfl B 49 i0 (.agg #[.int .i64 0, .int .i64 0, .int .i64 0, .int .i64 0, .int .i64 0, .int .i64 0, .int .i64 0, .slice none 0 0, .bool false]) 9 88 Try.underlying28 (unhide I0') (unhide I1') (unhide I2') (unhide I3') rfl (by decide) _ ms.length o.cs rfl (by repeat (first | exact unhide HO | apply World.ownsRow.drew | apply World.ownsRow.alloc)) ⟨w.heap.size + 1, 0, none⟩ 1 1 [.int .i64 kind, .int .i64 x.id, .int .i64 dest, .int .i64 x.term, .int .i64 index, .int .i64 logTerm, .int .i64 commit, .slice ia IL ic, .bool yes] rfl rfl (ncells _ _ _ (by simp)) (one_nine _ _ _ _ _ _ _ _ _ _ _) (by unfold maxLen; omega) (by omega) (by have := unhide HBs; simp; omega) ?_
       intro v3 w3 hown hgrow hat
       obtain ⟨gg, cc, rfl, _⟩ := own_slice hown (by omega)
       obtain ⟨bp, fin⟩ := WK.sayW (m := ⟨kind, x.id, dest, x.term, index, logTerm, commit, items, yes⟩) (unhide HK) (unhide HIV) (unhide HE).2.2.2.2 hgrow hown hat (by repeat (first | with_reducible exact Below.refl _ _ | with_reducible apply Below.drew | with_reducible refine Below.alloc ?_ (by simp) _))
       have c11' := bp.at (j := 11) rfl
       have f11' := bp.thaw 11
       have l3 := bp.low
       have FIN := hide fin
       clear hown hgrow hat bp fin))
  all_goals go_wp2
  all_goals go_end0
  all_goals exact ⟨rfl, unhide FIN⟩

set_option maxHeartbeats 1000000 in
theorem follow_any (B p : Nat) (x : Rf.Node) (ms : List Rf.Msg) (o : Own) (boss : Int) (w : World) (hk : WK B w p x ms o) :
    Calls Try.prog 35 #[.pointer (some ⟨p, 0, none⟩), .int .i64 boss] w (PW B p o w (Rf.follow x boss) ms) := by
  obtain ⟨la, LL, lc, va, VL, vc, na, NL, nc, ma, ML, mc, sa, SL, sc, HE, hLL, hVL, hNL, hML, hSL, _, ⟨c0, c1, c2, c3, c4, c5, c6, c7, c8, c9, c10, c11⟩, ⟨f0, f1, f2, f3, f4, f5, f6, f7, f8, f9, f10, f11⟩⟩ := hk.tell
  have hp := hk.lo
  have h1 := hk.cell (x' := { x with role := 1 }) 6 (.int .i64 1) ⟨rfl, rfl, rfl, rfl⟩ rfl
  have r1 := hk.cellFr 6 (.int .i64 1)
  have h2 := h1.cell (x' := { x with role := 1, boss := boss }) 7 (.int .i64 boss) ⟨rfl, rfl, rfl, rfl⟩ rfl
  have r2 := h1.cellFr 7 (.int .i64 boss)
  have h3 := h2.setV (v' := .slice none 0 0) (L := []) (World.grownBy.refl _ _) (World.ownsRow_nil _ _ _ _) (Upd.nil _ _)
  have h4 := h3.1.setN (n' := .slice none 0 0) (L := []) (World.grownBy.refl _ _) (World.ownsRow_nil _ _ _ _) (Upd.nil _ _)
  have h5 := h4.1.setM (m' := .slice none 0 0) (L := []) (World.grownBy.refl _ _) (World.ownsRow_nil _ _ _ _) (Upd.nil _ _)
  have FIN : Hid (∃ o', WK B _ p (Rf.follow x boss) ms o' ∧ Fr B p o w o' _) := hide ⟨_, h5.1, (((r1.trans r2).trans h3.2).trans h4.2).trans h5.2⟩
  clear h1 h2 h3 h4 h5 r1 r2 hk
  go_enter Try.func35, Try.ntmps35
  go_wp2
  go_end0
  exact ⟨rfl, unhide FIN⟩

end Go.Proofs.Ytiplnegiphhdlaa.RW
