/- Terms never fall, and a vote that was given in a term stays in it, whatever step of raft a node takes, for every node, message and command; no conditions. -/
import Derived.Test.YtjgpbahjiacjcaaML
import Derived.Test.YtjgpbahjiacjcaaRfD
import Derived.Test.YtjgpbahjiacjcaaMA
import Derived.SizedLaws
import Derived.Test.YtjgpbahjiacjcaaRows
import Derived.Test.YtjgpbahjiacjcaaNW
import Derived.ProofKit
import Derived.OpenShut
import Derived.ChangeOld
import Derived.Lib.SmallJoins
import Derived.Carry
namespace Go.Proofs.Ytjgpbahjiacjcaa
open Go.RowKit

theorem frame_name {P : Program} {code : Code} {Q : Exit → Act → World → Prop} {a : Act} {w : World} (k : ∀ a0, a0 = a → Code.wp P code Q a0 w) : Code.wp P code Q a w := k a rfl
theorem NV.shp {P : Nat → Prop} {w : World} {v : Array Value} {x : Rf.Node} (h : NV P w v x) : ∃ lv vv nv mv, v = #[.int .i64 x.id, .int .i64 x.n, .int .i64 x.term, .int .i64 x.vote, lv, .int .i64 x.commit, .int .i64 x.role, .int .i64 x.boss, vv, nv, mv] := by
  obtain ⟨lv, vv, nv, mv, h1, _⟩ := h
  exact ⟨lv, vv, nv, mv, h1⟩
/-- a row of its own that is put behind another -/
theorem rm_appM {w0 w : World} {a0 a : Act} {N : Nat} {D : List Nat} {Ok : Nat → Value → (Nat → Prop) → World → Prop} {stage : (Nat → Bool) → Option (Nat × List Rf.Msg)} {L : Nat → Bool} {ops : Array Oper} {Q : Exit → Act → World → Prop} {i d d0 : Nat} {s x : Operand} {t : TypeId} {p : String} {af : Array Edge}
    (h : RM w0 a0 N D Ok stage L a w) (nd : D.Nodup) (mono : ∀ i v P Q w w', (∀ b, P b → Q b ∧ w'.heap[b]? = w.heap[b]?) → Ok i v P w → Ok i v Q w')
    (hi : ops[i]? = some ⟨some d, .call { callee := .builtin .append, args := #[s, x], argTypes := #[32, 32] }, t, p, af, none⟩) (hDi : D[i]? = some d) (hN : d < N)
    {ms ks : List Rf.Msg} {xv : Value} (h0 : stage L = some (d0, ms)) (hs : a.eval s = G a d0) (hx : a.eval x = xv) (hk : MV (· < w0.heap.size) w0 xv ks) (hst : stage (fun j => j == i || L j) = some (d, ms ++ ks)) (hl1 : ms.length ≤ 100) (hl2 : ks.length ≤ 100) (ok : ∀ v P w, Ok i v P w) :
    wpOp Try.prog ops Q i (fun a' w' => RM w0 a0 N D Ok stage (fun j => j == i || L j) a' w') a w := by
  obtain ⟨sv, r1, r2, r3, r4⟩ := h.row
  rw [h0] at r1
  have hG := r2 d0 ms h0
  obtain ⟨cs, o1, o2⟩ := r1
  obtain ⟨i0, I0, I1, I2, I3⟩ := info_parts info_M
  obtain ⟨ds, q1, q2⟩ := hk.keep (Q := fun b => b < w0.heap.size) (w' := w) (fun b hb => ⟨hb, h.old.block b hb⟩)
  have hlow := fun k hk => (World.ownsRow.lt o1 k hk).1
  obtain ⟨v', w', e1, e2, e3, e4⟩ := run_append_sc w0.heap.size 32 t 27 i0 _ 9 88 Try.underlying32 I0 I1 I2 I3 rfl (by decide) none_M sv xv ms.length ks.length cs ds o1 q1 q2.one (by unfold maxLen; omega) (by omega) h.old.size
  refine rm_grow h nd mono hi rfl hDi hN rfl (run_appM (hs.trans hG) hx e1) r4 hst ?_ e3 e4 hlow (fun P w => ok _ P w)
  exact MO0.next o2 (q2.keep (fun b hb => ⟨⟨Nat.lt_of_lt_of_le hb h.old.size, fun q => by have := hlow b q; omega⟩, rfl⟩)) e2 e3 e4

end Go.Proofs.Ytjgpbahjiacjcaa

namespace Go.Proofs.Ytjgpbahjiacjcaa
open Go.RowKit

theorem NV.cells {P : Nat → Prop} {w : World} {v : Array Value} {x : Rf.Node} (h : NV P w v x) : ∃ (a1 : Option Addr) (n1 c1 : Nat) (a2 : Option Addr) (n2 c2 : Nat) (a3 : Option Addr) (n3 c3 : Nat) (a4 : Option Addr) (n4 c4 : Nat), v = #[.int .i64 x.id, .int .i64 x.n, .int .i64 x.term, .int .i64 x.vote, .slice a1 n1 c1, .int .i64 x.commit, .int .i64 x.role, .int .i64 x.boss, .slice a2 n2 c2, .slice a3 n3 c3, .slice a4 n4 c4] := by
  obtain ⟨lv, vv, nv, mv, rfl, h2, h3, h4, h5⟩ := h
  obtain ⟨la, lc, rfl, _⟩ := SC.shape h2
  obtain ⟨va, vc, rfl, _⟩ := SC.shape h3
  obtain ⟨na, nc, rfl, _⟩ := SC.shape h4
  obtain ⟨ma, mc, rfl, _⟩ := SC.shape h5
  exact ⟨_, _, _, _, _, _, _, _, _, _, _, _, rfl⟩
theorem NC.five {P : Nat → Prop} {w : World} {x0 x1 x2 x3 x4 : Rf.Node} {u0 u1 u2 u3 u4 : Array Value} (h0 : NV P w u0 x0) (h1 : NV P w u1 x1) (h2 : NV P w u2 x2) (h3 : NV P w u3 x3) (h4 : NV P w u4 x4) : NC P w [x0, x1, x2, x3, x4] (u0.toList ++ (u1.toList ++ (u2.toList ++ (u3.toList ++ (u4.toList ++ []))))) :=
  ⟨u0, _, rfl, h0, u1, _, rfl, h1, u2, _, rfl, h2, u3, _, rfl, h3, u4, _, rfl, h4, rfl⟩
theorem below_lt {w w' : World} (h : Below w.heap.size w w') {b : Nat} (hb : b < w.heap.size) : b < w'.heap.size := Nat.lt_of_lt_of_le hb h.size

theorem five_nodes {P : Nat → Prop} {w : World} {t : TypeId} {x0 x1 x2 x3 x4 : Rf.Node} {u0 u1 u2 u3 u4 : Array Value} (h0 : NV P (w.alloc (.cells (five u0 u1 u2 u3 u4) t)) u0 x0) (h1 : NV P (w.alloc (.cells (five u0 u1 u2 u3 u4) t)) u1 x1) (h2 : NV P (w.alloc (.cells (five u0 u1 u2 u3 u4) t)) u2 x2) (h3 : NV P (w.alloc (.cells (five u0 u1 u2 u3 u4) t)) u3 x3) (h4 : NV P (w.alloc (.cells (five u0 u1 u2 u3 u4) t)) u4 x4) (hP : P w.heap.size) : NsV P (w.alloc (.cells (five u0 u1 u2 u3 u4) t)) (.slice (some ⟨w.heap.size, 0, none⟩) 5 5) [x0, x1, x2, x3, x4] := by
  refine ⟨_, ⟨?_, _, 5, rfl, Nat.le_refl 5, by decide, fun _ => ⟨w.heap.size, 0, rfl, hP, fun j u hj => (BK.new w t (five u0 u1 u2 u3 u4)).at ?_⟩⟩, NC.five h0 h1 h2 h3 h4⟩
  · have := h0.size
    have := h1.size
    have := h2.size
    have := h3.size
    have := h4.size
    simp
    omega
  · rw [Nat.zero_add, five, List.getElem?_toArray]
    exact hj
theorem NV.shx {P : Nat → Prop} {w : World} {v : Array Value} {x : Rf.Node} (h : NV P w v x) : ∃ (x : Rf.Node) (l v' n m : Value), v = #[.int .i64 x.id, .int .i64 x.n, .int .i64 x.term, .int .i64 x.vote, l, .int .i64 x.commit, .int .i64 x.role, .int .i64 x.boss, v', n, m] := by
  obtain ⟨lv, vv, nv, mv, h1, _⟩ := h
  exact ⟨x, lv, vv, nv, mv, h1⟩

set_option maxHeartbeats 4000000 in
set_option maxRecDepth 100000 in
theorem all_any {Fit : Rf.Node → Prop} {FitM : Rf.Msg → Prop} (R : RC Fit FitM) (x : Rf.Node) (v : Array Value) (m : Rf.Msg) (g : Array Value) (c : Int) (w : World) (hx : Nv w v x) (hm : Gv w g m) (fx : Fit x) (fm : FitM m) :
    Calls Try.prog 10 #[.agg v, .agg g, .int .i64 c] w fun e w' => ∃ nv mv, e = .returned (.tuple #[nv, mv]) ∧ NsV (· < w'.heap.size) w' nv (Rf.allN x m c) ∧ Mv w' mv (Rf.allM x m c) ∧ Below w.heap.size w w' := by
  have HX := hide hx
  have HM := hide hm
  obtain ⟨a01, n01, c01, a02, n02, c02, a03, n03, c03, a04, n04, c04, rfl⟩ := hx.cells
  obtain ⟨iv, rfl, hI⟩ := hm
  obtain ⟨ia, ic, rfl, _⟩ := SC.shape hI
  clear hI hx
  have HR := hide R
  have HF := hide (And.intro fx fm)
  clear R fx fm
  obtain ⟨U0, hU0⟩ : ∃ U0, U0 = (w.alloc (.cells #[.int .i64 x.id, .int .i64 x.n, .int .i64 x.term, .int .i64 x.vote, .slice a01 n01 c01, .int .i64 x.commit, .int .i64 x.role, .int .i64 x.boss, .slice a02 n02 c02, .slice a03 n03 c03, .slice a04 n04 c04] 25)).alloc (.cells #[.int .i64 m.kind, .int .i64 m.frm, .int .i64 m.dest, .int .i64 m.term, .int .i64 m.index, .int .i64 m.logTerm, .int .i64 m.commit, .slice ia m.items.length ic, .bool m.yes] 27) := ⟨_, rfl⟩
  have HB0 : Hid (Below w.heap.size w U0) := hide (by rw [hU0]; exact (below_new _ _).alloc (by simp) _)
  have X0 : Hid (BK U0 w.heap.size 25 #[.int .i64 x.id, .int .i64 x.n, .int .i64 x.term, .int .i64 x.vote, .slice a01 n01 c01, .int .i64 x.commit, .int .i64 x.role, .int .i64 x.boss, .slice a02 n02 c02, .slice a03 n03 c03, .slice a04 n04 c04]) := hide (by rw [hU0]; exact (BK.new w _ _).keep (below_new _ _))
  have G0 : Hid (BK U0 (w.heap.size + 1) 27 #[.int .i64 m.kind, .int .i64 m.frm, .int .i64 m.dest, .int .i64 m.term, .int .i64 m.index, .int .i64 m.logTerm, .int .i64 m.commit, .slice ia m.items.length ic, .bool m.yes]) := hide (by
    rw [hU0]
    have := BK.new (w.alloc (.cells #[.int .i64 x.id, .int .i64 x.n, .int .i64 x.term, .int .i64 x.vote, .slice a01 n01 c01, .int .i64 x.commit, .int .i64 x.role, .int .i64 x.boss, .slice a02 n02 c02, .slice a03 n03 c03, .slice a04 n04 c04] 25)) 27 #[.int .i64 m.kind, .int .i64 m.frm, .int .i64 m.dest, .int .i64 m.term, .int .i64 m.index, .int .i64 m.logTerm, .int .i64 m.commit, .slice ia m.items.length ic, .bool m.yes]
    simpa using this)
  go_enter Try.func10, Try.ntmps10
  go_upto_region 1 with fail
  rw [← hU0]
  clear hU0
  have C1 := hide ((unhide HR).timeout (· < w.heap.size) x _ U0 ((unhide HX).keep (fun b hb => ⟨hb, (unhide HB0).block b hb⟩)) (fun b hb => below_lt (unhide HB0) hb) (unhide HF).1)
  obtain ⟨q0, q1, q2, q3, q4, q5, q6, q7, q8, q9, q10⟩ := (show NX U0 w.heap.size _ _ _ _ _ _ _ _ _ _ _ from unhide X0).tell
  go_wp2_with fail
  with_reducible refine (unhide C1).mono ?_
  rintro e w1 ⟨va, ka, rfl, hN, hK, hb⟩
  have Na := hide hN
  obtain ⟨a11, n11, c11, a12, n12, c12, a13, n13, c13, a14, n14, c14, rfl⟩ := hN.cells
  clear hN
  obtain ⟨xa, hxa⟩ : ∃ y, y = (Rf.timeout x).1 := ⟨_, rfl⟩
  rw [← hxa] at Na ⊢
  have HXa := hide hxa
  clear hxa
  obtain ⟨U1, hU⟩ : ∃ U, U = w1.alloc (.cells #[.int .i64 xa.id, .int .i64 xa.n, .int .i64 xa.term, .int .i64 xa.vote, .slice a11 n11 c11, .int .i64 xa.commit, .int .i64 xa.role, .int .i64 xa.boss, .slice a12 n12 c12, .slice a13 n13 c13, .slice a14 n14 c14] 25) := ⟨_, rfl⟩
  have bn : Below U0.heap.size U0 U1 := by rw [hU]; exact below_via hb (below_new _ _)
  have bm : Below w1.heap.size w1 U1 := by rw [hU]; exact below_new _ _
  have S1 : Hid (w1.heap.size + 1 = U1.heap.size) := hide (by rw [hU]; simp)
  have HB1 := hide (below_via (unhide HB0) bn)
  replace X0 := hide ((unhide X0).keep bn)
  replace G0 := hide ((unhide G0).keep bn)
  replace Na := hide ((unhide Na).keep (Q := (· < U1.heap.size)) (fun b hb' => ⟨below_lt bm (hb'.elim (fun q => below_lt hb (below_lt (unhide HB0) q)) (fun q => q.2)), bm.block b (hb'.elim (fun q => below_lt hb (below_lt (unhide HB0) q)) (fun q => q.2))⟩))
  have Ka := hide (hK.keep (Q := (· < U1.heap.size)) (fun b hb' => ⟨below_lt bm hb'.2, bm.block b hb'.2⟩))
  have Ba : Hid (BK U1 w1.heap.size 25 #[.int .i64 xa.id, .int .i64 xa.n, .int .i64 xa.term, .int .i64 xa.vote, .slice a11 n11 c11, .int .i64 xa.commit, .int .i64 xa.role, .int .i64 xa.boss, .slice a12 n12 c12, .slice a13 n13 c13, .slice a14 n14 c14]) := hide (by rw [hU]; exact BK.new _ _ _)
  clear q0 q1 q2 q3 q4 q5 q6 q7 q8 q9 q10 C1 hb hK bm bn
  go_upto_region 2 with fail
  rw [← hU]
  clear hU
  have C2 := hide ((unhide HR).beat (· < w.heap.size) x _ U1 ((unhide HX).keep (fun b hb => ⟨hb, (unhide HB1).block b hb⟩)) (fun b hb => below_lt (unhide HB1) hb) (unhide HF).1)
  obtain ⟨q0, q1, q2, q3, q4, q5, q6, q7, q8, q9, q10⟩ := (show NX U1 w.heap.size _ _ _ _ _ _ _ _ _ _ _ from unhide X0).tell
  go_wp2_with fail
  with_reducible refine (unhide C2).mono ?_
  rintro e w2 ⟨va, kb, rfl, hN, hK, hb⟩
  have Nb := hide hN
  obtain ⟨a21, n21, c21, a22, n22, c22, a23, n23, c23, a24, n24, c24, rfl⟩ := hN.cells
  clear hN
  obtain ⟨xb, hxb⟩ : ∃ y, y = (Rf.beat x).1 := ⟨_, rfl⟩
  rw [← hxb] at Nb ⊢
  have HXb := hide hxb
  clear hxb
  obtain ⟨U2, hU⟩ : ∃ U, U = w2.alloc (.cells #[.int .i64 xb.id, .int .i64 xb.n, .int .i64 xb.term, .int .i64 xb.vote, .slice a21 n21 c21, .int .i64 xb.commit, .int .i64 xb.role, .int .i64 xb.boss, .slice a22 n22 c22, .slice a23 n23 c23, .slice a24 n24 c24] 25) := ⟨_, rfl⟩
  have bn : Below U1.heap.size U1 U2 := by rw [hU]; exact below_via hb (below_new _ _)
  have bm : Below w2.heap.size w2 U2 := by rw [hU]; exact below_new _ _
  have S2 : Hid (w2.heap.size + 1 = U2.heap.size) := hide (by rw [hU]; simp)
  have HB2 := hide (below_via (unhide HB1) bn)
  replace X0 := hide ((unhide X0).keep bn)
  replace G0 := hide ((unhide G0).keep bn)
  replace Ba := hide ((unhide Ba).keep bn)
  replace Na := hide ((unhide Na).keep (Q := (· < U2.heap.size)) (kept bn))
  replace Ka := hide ((unhide Ka).keep (Q := (· < U2.heap.size)) (kept bn))
  replace Nb := hide ((unhide Nb).keep (Q := (· < U2.heap.size)) (fun b hb' => ⟨below_lt bm (hb'.elim (fun q => below_lt hb (below_lt (unhide HB1) q)) (fun q => q.2)), bm.block b (hb'.elim (fun q => below_lt hb (below_lt (unhide HB1) q)) (fun q => q.2))⟩))
  have Kb := hide (hK.keep (Q := (· < U2.heap.size)) (fun b hb' => ⟨below_lt bm hb'.2, bm.block b hb'.2⟩))
  have Bb : Hid (BK U2 w2.heap.size 25 #[.int .i64 xb.id, .int .i64 xb.n, .int .i64 xb.term, .int .i64 xb.vote, .slice a21 n21 c21, .int .i64 xb.commit, .int .i64 xb.role, .int .i64 xb.boss, .slice a22 n22 c22, .slice a23 n23 c23, .slice a24 n24 c24]) := hide (by rw [hU]; exact BK.new _ _ _)
  clear q0 q1 q2 q3 q4 q5 q6 q7 q8 q9 q10 C2 hb hK bm bn
  go_upto_region 3 with fail
  rw [← hU]
  clear hU
  have C3 := hide ((unhide HR).propose (· < w.heap.size) x _ c U2 ((unhide HX).keep (fun b hb => ⟨hb, (unhide HB2).block b hb⟩)) (fun b hb => below_lt (unhide HB2) hb) (unhide HF).1)
  obtain ⟨q0, q1, q2, q3, q4, q5, q6, q7, q8, q9, q10⟩ := (show NX U2 w.heap.size _ _ _ _ _ _ _ _ _ _ _ from unhide X0).tell
  go_wp2_with fail
  with_reducible refine (unhide C3).mono ?_
  rintro e w3 ⟨va, kc, rfl, hN, hK, hb⟩
  have Nc := hide hN
  obtain ⟨a31, n31, c31, a32, n32, c32, a33, n33, c33, a34, n34, c34, rfl⟩ := hN.cells
  clear hN
  obtain ⟨xc, hxc⟩ : ∃ y, y = (Rf.propose x c).1 := ⟨_, rfl⟩
  rw [← hxc] at Nc ⊢
  have HXc := hide hxc
  clear hxc
  obtain ⟨U3, hU⟩ : ∃ U, U = w3.alloc (.cells #[.int .i64 xc.id, .int .i64 xc.n, .int .i64 xc.term, .int .i64 xc.vote, .slice a31 n31 c31, .int .i64 xc.commit, .int .i64 xc.role, .int .i64 xc.boss, .slice a32 n32 c32, .slice a33 n33 c33, .slice a34 n34 c34] 25) := ⟨_, rfl⟩
  have bn : Below U2.heap.size U2 U3 := by rw [hU]; exact below_via hb (below_new _ _)
  have bm : Below w3.heap.size w3 U3 := by rw [hU]; exact below_new _ _
  have S3 : Hid (w3.heap.size + 1 = U3.heap.size) := hide (by rw [hU]; simp)
  have HB3 := hide (below_via (unhide HB2) bn)
  replace X0 := hide ((unhide X0).keep bn)
  replace G0 := hide ((unhide G0).keep bn)
  replace Ba := hide ((unhide Ba).keep bn)
  replace Bb := hide ((unhide Bb).keep bn)
  replace Na := hide ((unhide Na).keep (Q := (· < U3.heap.size)) (kept bn))
  replace Ka := hide ((unhide Ka).keep (Q := (· < U3.heap.size)) (kept bn))
  replace Nb := hide ((unhide Nb).keep (Q := (· < U3.heap.size)) (kept bn))
  replace Kb := hide ((unhide Kb).keep (Q := (· < U3.heap.size)) (kept bn))
  replace Nc := hide ((unhide Nc).keep (Q := (· < U3.heap.size)) (fun b hb' => ⟨below_lt bm (hb'.elim (fun q => below_lt hb (below_lt (unhide HB2) q)) (fun q => q.2)), bm.block b (hb'.elim (fun q => below_lt hb (below_lt (unhide HB2) q)) (fun q => q.2))⟩))
  have Kc := hide (hK.keep (Q := (· < U3.heap.size)) (fun b hb' => ⟨below_lt bm hb'.2, bm.block b hb'.2⟩))
  have Bc : Hid (BK U3 w3.heap.size 25 #[.int .i64 xc.id, .int .i64 xc.n, .int .i64 xc.term, .int .i64 xc.vote, .slice a31 n31 c31, .int .i64 xc.commit, .int .i64 xc.role, .int .i64 xc.boss, .slice a32 n32 c32, .slice a33 n33 c33, .slice a34 n34 c34]) := hide (by rw [hU]; exact BK.new _ _ _)
  clear q0 q1 q2 q3 q4 q5 q6 q7 q8 q9 q10 C3 hb hK bm bn
  go_upto_region 4 with fail
  rw [← hU]
  clear hU
  have C4 := hide ((unhide HR).receive (· < w.heap.size) x m _ _ U3 ((unhide HX).keep (fun b hb => ⟨hb, (unhide HB3).block b hb⟩)) ((unhide HM).keep (fun b hb => ⟨hb, (unhide HB3).block b hb⟩)) (fun b hb => below_lt (unhide HB3) hb) (unhide HF).1 (unhide HF).2)
  obtain ⟨q0, q1, q2, q3, q4, q5, q6, q7, q8, q9, q10⟩ := (show NX U3 w.heap.size _ _ _ _ _ _ _ _ _ _ _ from unhide X0).tell
  obtain ⟨p0, p1, p2, p3, p4, p5, p6, p7, p8⟩ := (show GX U3 (w.heap.size + 1) _ _ _ _ _ _ _ _ _ from unhide G0).tell
  go_wp2_with fail
  with_reducible refine (unhide C4).mono ?_
  rintro e w4 ⟨va, kd, rfl, hN, hK, hb⟩
  have Nd := hide hN
  obtain ⟨a41, n41, c41, a42, n42, c42, a43, n43, c43, a44, n44, c44, rfl⟩ := hN.cells
  clear hN
  obtain ⟨xd, hxd⟩ : ∃ y, y = (Rf.receive x m).1 := ⟨_, rfl⟩
  rw [← hxd] at Nd ⊢
  have HXd := hide hxd
  clear hxd
  obtain ⟨U4, hU⟩ : ∃ U, U = w4.alloc (.cells #[.int .i64 xd.id, .int .i64 xd.n, .int .i64 xd.term, .int .i64 xd.vote, .slice a41 n41 c41, .int .i64 xd.commit, .int .i64 xd.role, .int .i64 xd.boss, .slice a42 n42 c42, .slice a43 n43 c43, .slice a44 n44 c44] 25) := ⟨_, rfl⟩
  have bn : Below U3.heap.size U3 U4 := by rw [hU]; exact below_via hb (below_new _ _)
  have bm : Below w4.heap.size w4 U4 := by rw [hU]; exact below_new _ _
  have S4 : Hid (w4.heap.size + 1 = U4.heap.size) := hide (by rw [hU]; simp)
  have HB4 := hide (below_via (unhide HB3) bn)
  replace X0 := hide ((unhide X0).keep bn)
  replace G0 := hide ((unhide G0).keep bn)
  replace Ba := hide ((unhide Ba).keep bn)
  replace Bb := hide ((unhide Bb).keep bn)
  replace Bc := hide ((unhide Bc).keep bn)
  replace Na := hide ((unhide Na).keep (Q := (· < U4.heap.size)) (kept bn))
  replace Ka := hide ((unhide Ka).keep (Q := (· < U4.heap.size)) (kept bn))
  replace Nb := hide ((unhide Nb).keep (Q := (· < U4.heap.size)) (kept bn))
  replace Kb := hide ((unhide Kb).keep (Q := (· < U4.heap.size)) (kept bn))
  replace Nc := hide ((unhide Nc).keep (Q := (· < U4.heap.size)) (kept bn))
  replace Kc := hide ((unhide Kc).keep (Q := (· < U4.heap.size)) (kept bn))
  replace Nd := hide ((unhide Nd).keep (Q := (· < U4.heap.size)) (fun b hb' => ⟨below_lt bm (hb'.elim (fun q => below_lt hb (below_lt (unhide HB3) q)) (fun q => q.2)), bm.block b (hb'.elim (fun q => below_lt hb (below_lt (unhide HB3) q)) (fun q => q.2))⟩))
  have Kd := hide (hK.keep (Q := (· < U4.heap.size)) (fun b hb' => ⟨below_lt bm hb'.2, bm.block b hb'.2⟩))
  have Bd : Hid (BK U4 w4.heap.size 25 #[.int .i64 xd.id, .int .i64 xd.n, .int .i64 xd.term, .int .i64 xd.vote, .slice a41 n41 c41, .int .i64 xd.commit, .int .i64 xd.role, .int .i64 xd.boss, .slice a42 n42 c42, .slice a43 n43 c43, .slice a44 n44 c44]) := hide (by rw [hU]; exact BK.new _ _ _)
  clear q0 q1 q2 q3 q4 q5 q6 q7 q8 q9 q10 C4 hb hK bm bn p0 p1 p2 p3 p4 p5 p6 p7 p8
  go_upto_region 5 with fail
  rw [← hU]
  clear hU
  refine frame_name ?_
  intro f0 hf0
  have s8 : G f0 8 = .pointer (some ⟨w1.heap.size, 0, none⟩) := by rw [hf0]; rfl
  have s10 : G f0 10 = .pointer (some ⟨w2.heap.size, 0, none⟩) := by rw [hf0]; rfl
  have s12 : G f0 12 = .pointer (some ⟨w3.heap.size, 0, none⟩) := by rw [hf0]; rfl
  have s15 : G f0 15 = .pointer (some ⟨w4.heap.size, 0, none⟩) := by rw [hf0]; rfl
  have s3 : G f0 3 = .pointer (some ⟨w.heap.size, 0, none⟩) := by rw [hf0]; rfl
  have s9 : G f0 9 = ka := by rw [hf0]; rfl
  have s11 : G f0 11 = kb := by rw [hf0]; rfl
  have s13 : G f0 13 = kc := by rw [hf0]; rfl
  have s16 : G f0 16 = kd := by rw [hf0]; rfl
  have hsz : f0.tmps.size = 56 := by rw [hf0]; rfl
  have hdf : f0.defers = [] := by rw [hf0]
  have MONO := OkA.mono #[.int .i64 xa.id, .int .i64 xa.n, .int .i64 xa.term, .int .i64 xa.vote, .slice a11 n11 c11, .int .i64 xa.commit, .int .i64 xa.role, .int .i64 xa.boss, .slice a12 n12 c12, .slice a13 n13 c13, .slice a14 n14 c14] #[.int .i64 xb.id, .int .i64 xb.n, .int .i64 xb.term, .int .i64 xb.vote, .slice a21 n21 c21, .int .i64 xb.commit, .int .i64 xb.role, .int .i64 xb.boss, .slice a22 n22 c22, .slice a23 n23 c23, .slice a24 n24 c24] #[.int .i64 xc.id, .int .i64 xc.n, .int .i64 xc.term, .int .i64 xc.vote, .slice a31 n31 c31, .int .i64 xc.commit, .int .i64 xc.role, .int .i64 xc.boss, .slice a32 n32 c32, .slice a33 n33 c33, .slice a34 n34 c34] #[.int .i64 xd.id, .int .i64 xd.n, .int .i64 xd.term, .int .i64 xd.vote, .slice a41 n41 c41, .int .i64 xd.commit, .int .i64 xd.role, .int .i64 xd.boss, .slice a42 n42 c42, .slice a43 n43 c43, .slice a44 n44 c44] #[.int .i64 x.id, .int .i64 x.n, .int .i64 x.term, .int .i64 x.vote, .slice a01 n01 c01, .int .i64 x.commit, .int .i64 x.role, .int .i64 x.boss, .slice a02 n02 c02, .slice a03 n03 c03, .slice a04 n04 c04] (Rf.restart x) [xa, xb, xc, xd, Rf.restart x] ka kb kc kd
  have l1 := Rf.timeout_len x
  have l2 := Rf.beat_len x
  have l3 := Rf.propose_len x c
  have l4 := Rf.receive_len x m
  refine region_any (I := RM U4 f0 56 [40, 41, 42, 43, 44, 45, 46, 47, 48, 49, 50, 51, 52, 53, 54, 55, 6, 7] (OkA #[.int .i64 xa.id, .int .i64 xa.n, .int .i64 xa.term, .int .i64 xa.vote, .slice a11 n11 c11, .int .i64 xa.commit, .int .i64 xa.role, .int .i64 xa.boss, .slice a12 n12 c12, .slice a13 n13 c13, .slice a14 n14 c14] #[.int .i64 xb.id, .int .i64 xb.n, .int .i64 xb.term, .int .i64 xb.vote, .slice a21 n21 c21, .int .i64 xb.commit, .int .i64 xb.role, .int .i64 xb.boss, .slice a22 n22 c22, .slice a23 n23 c23, .slice a24 n24 c24] #[.int .i64 xc.id, .int .i64 xc.n, .int .i64 xc.term, .int .i64 xc.vote, .slice a31 n31 c31, .int .i64 xc.commit, .int .i64 xc.role, .int .i64 xc.boss, .slice a32 n32 c32, .slice a33 n33 c33, .slice a34 n34 c34] #[.int .i64 xd.id, .int .i64 xd.n, .int .i64 xd.term, .int .i64 xd.vote, .slice a41 n41 c41, .int .i64 xd.commit, .int .i64 xd.role, .int .i64 xd.boss, .slice a42 n42 c42, .slice a43 n43 c43, .slice a44 n44 c44] #[.int .i64 x.id, .int .i64 x.n, .int .i64 x.term, .int .i64 x.vote, .slice a01 n01 c01, .int .i64 x.commit, .int .i64 x.role, .int .i64 x.boss, .slice a02 n02 c02, .slice a03 n03 c03, .slice a04 n04 c04] (Rf.restart x) [xa, xb, xc, xd, Rf.restart x] ka kb kc kd) (stA ([] ++ (Rf.timeout x).2) (([] ++ (Rf.timeout x).2) ++ (Rf.beat x).2) ((([] ++ (Rf.timeout x).2) ++ (Rf.beat x).2) ++ (Rf.propose x c).2.1) (((([] ++ (Rf.timeout x).2) ++ (Rf.beat x).2) ++ (Rf.propose x c).2.1) ++ (Rf.receive x m).2))) (by kernel_rfl) ?wait ?step ?done ?start
  case wait => exact ⟨by first | (simp; done) | (simp; rfl), by first | (simp; done) | (simp; rfl), by first | (simp; done) | (simp; rfl), by first | (simp; done) | (simp; rfl), by first | (simp; done) | (simp; rfl), by first | (simp; done) | (simp; rfl), by first | (simp; done) | (simp; rfl), by first | (simp; done) | (simp; rfl), by first | (simp; done) | (simp; rfl), by first | (simp; done) | (simp; rfl), by first | (simp; done) | (simp; rfl), by first | (simp; done) | (simp; rfl), by first | (simp; done) | (simp; rfl), by first | (simp; done) | (simp; rfl), by first | (simp; done) | (simp; rfl), by first | (simp; done) | (simp; rfl), by first | (simp; done) | (simp; rfl), by first | (simp; done) | (simp; rfl), trivial⟩
  case start => exact RM.start hsz hdf ((Below.refl _ _).drew) rfl
  case step =>
    refine ⟨?_, ?_, ?_, ?_, ?_, ?_, ?_, ?_, ?_, ?_, ?_, ?_, ?_, ?_, ?_, ?_, ?_, ?_, trivial⟩
    · rintro L fa wx h hcl hL hw2
      exact rm_val h (by decide) MONO rfl rfl rfl (by decide) rfl (run_ldN (eval_G ((h.keep (s := 8) (by decide)).trans s8)) ((unhide Ba).keep h.old)) (Below.refl _ _) (stA_same (by decide)) (stA_ne (by decide)) (fun _ _ _ => rfl)
    · rintro L fa wx h hcl hL hw2
      exact rm_val h (by decide) MONO rfl rfl rfl (by decide) rfl (run_ldN (eval_G ((h.keep (s := 10) (by decide)).trans s10)) ((unhide Bb).keep h.old)) (Below.refl _ _) (stA_same (by decide)) (stA_ne (by decide)) (fun _ _ _ => rfl)
    · rintro L fa wx h hcl hL hw2
      exact rm_val h (by decide) MONO rfl rfl rfl (by decide) rfl (run_ldN (eval_G ((h.keep (s := 12) (by decide)).trans s12)) ((unhide Bc).keep h.old)) (Below.refl _ _) (stA_same (by decide)) (stA_ne (by decide)) (fun _ _ _ => rfl)
    · rintro L fa wx h hcl hL hw2
      exact rm_val h (by decide) MONO rfl rfl rfl (by decide) rfl (run_ldN (eval_G ((h.keep (s := 15) (by decide)).trans s15)) ((unhide Bd).keep h.old)) (Below.refl _ _) (stA_same (by decide)) (stA_ne (by decide)) (fun _ _ _ => rfl)
    · rintro L fa wx h hcl hL hw2
      exact rm_val h (by decide) MONO rfl rfl rfl (by decide) rfl (run_ldN (eval_G ((h.keep (s := 3) (by decide)).trans s3)) ((unhide X0).keep h.old)) (Below.refl _ _) (stA_same (by decide)) (stA_ne (by decide)) (fun _ _ _ => rfl)
    · rintro L fa wx h hcl hL hw2
      obtain ⟨_, _, _, _, r4⟩ := h.row
      have g44 : G fa 44 = .agg #[.int .i64 x.id, .int .i64 x.n, .int .i64 x.term, .int .i64 x.vote, .slice a01 n01 c01, .int .i64 x.commit, .int .i64 x.role, .int .i64 x.boss, .slice a02 n02 c02, .slice a03 n03 c03, .slice a04 n04 c04] := r4 4 44 (hw2 ⟨4, .data⟩ (by simp) rfl) rfl
      refine rm_call h (by decide) MONO rfl rfl rfl (by decide) rfl (run_call1 (eval_G g44) (fun zs w => by kernel_rfl)) (R := fun v w' => ∃ u, v = .agg u ∧ NV (fun b => b < w.heap.size ∨ Fresh wx w' b) w' u (Rf.restart x)) (((unhide HR).restart (· < w.heap.size) x _ wx ((unhide HX).keep (fun b hb => ⟨hb, (h.old.block b (below_lt (unhide HB4) hb)).trans ((unhide HB4).block b hb)⟩)) (fun b hb => below_lt h.old (below_lt (unhide HB4) hb)) (unhide HF).1).mono ?_) (stA_same (by decide)) (stA_ne (by decide)) ?_
      · rintro e w' ⟨u, rfl, k1, k2⟩
        exact ⟨_, rfl, ⟨u, rfl, k1⟩, k2⟩
      · rintro v w' ⟨u, rfl, k1⟩ hb sv hk
        refine ⟨u, rfl, k1.keep (fun b hb' => ⟨⟨hb'.elim (fun q => below_lt hb (below_lt h.old (below_lt (unhide HB4) q))) (fun q => q.2), fun q => ?_⟩, rfl⟩)⟩
        have q2 := hk b q
        rcases hb' with q3 | q3
        · have := (unhide HB4).size; omega
        · have := q3.1; omega
    · rintro L fa wx h hcl hL hw2
      obtain ⟨_, _, _, _, r4⟩ := h.row
      have g40 : G fa 40 = .agg #[.int .i64 xa.id, .int .i64 xa.n, .int .i64 xa.term, .int .i64 xa.vote, .slice a11 n11 c11, .int .i64 xa.commit, .int .i64 xa.role, .int .i64 xa.boss, .slice a12 n12 c12, .slice a13 n13 c13, .slice a14 n14 c14] := r4 0 40 (hw2 ⟨0, .data⟩ (by simp) rfl) rfl
      have g41 : G fa 41 = .agg #[.int .i64 xb.id, .int .i64 xb.n, .int .i64 xb.term, .int .i64 xb.vote, .slice a21 n21 c21, .int .i64 xb.commit, .int .i64 xb.role, .int .i64 xb.boss, .slice a22 n22 c22, .slice a23 n23 c23, .slice a24 n24 c24] := r4 1 41 (hw2 ⟨1, .data⟩ (by simp) rfl) rfl
      have g42 : G fa 42 = .agg #[.int .i64 xc.id, .int .i64 xc.n, .int .i64 xc.term, .int .i64 xc.vote, .slice a31 n31 c31, .int .i64 xc.commit, .int .i64 xc.role, .int .i64 xc.boss, .slice a32 n32 c32, .slice a33 n33 c33, .slice a34 n34 c34] := r4 2 42 (hw2 ⟨2, .data⟩ (by simp) rfl) rfl
      have g43 : G fa 43 = .agg #[.int .i64 xd.id, .int .i64 xd.n, .int .i64 xd.term, .int .i64 xd.vote, .slice a41 n41 c41, .int .i64 xd.commit, .int .i64 xd.role, .int .i64 xd.boss, .slice a42 n42 c42, .slice a43 n43 c43, .slice a44 n44 c44] := r4 3 43 (hw2 ⟨3, .data⟩ (by simp) rfl) rfl
      obtain ⟨u, g45, hu⟩ : ∃ u, G fa 45 = .agg u ∧ NV _ wx u (Rf.restart x) := r4 5 45 (hw2 ⟨5, .data⟩ (by simp) rfl) rfl
      have hl5 : L 5 = true := hw2 ⟨5, .data⟩ (by simp) rfl
      obtain ⟨ua, eua⟩ : ∃ ua : Array Value, ua = #[.int .i64 xa.id, .int .i64 xa.n, .int .i64 xa.term, .int .i64 xa.vote, .slice a11 n11 c11, .int .i64 xa.commit, .int .i64 xa.role, .int .i64 xa.boss, .slice a12 n12 c12, .slice a13 n13 c13, .slice a14 n14 c14] := ⟨_, rfl⟩
      obtain ⟨ub, eub⟩ : ∃ ub : Array Value, ub = #[.int .i64 xb.id, .int .i64 xb.n, .int .i64 xb.term, .int .i64 xb.vote, .slice a21 n21 c21, .int .i64 xb.commit, .int .i64 xb.role, .int .i64 xb.boss, .slice a22 n22 c22, .slice a23 n23 c23, .slice a24 n24 c24] := ⟨_, rfl⟩
      obtain ⟨uc, euc⟩ : ∃ uc : Array Value, uc = #[.int .i64 xc.id, .int .i64 xc.n, .int .i64 xc.term, .int .i64 xc.vote, .slice a31 n31 c31, .int .i64 xc.commit, .int .i64 xc.role, .int .i64 xc.boss, .slice a32 n32 c32, .slice a33 n33 c33, .slice a34 n34 c34] := ⟨_, rfl⟩
      obtain ⟨ud, eud⟩ : ∃ ud : Array Value, ud = #[.int .i64 xd.id, .int .i64 xd.n, .int .i64 xd.term, .int .i64 xd.vote, .slice a41 n41 c41, .int .i64 xd.commit, .int .i64 xd.role, .int .i64 xd.boss, .slice a42 n42 c42, .slice a43 n43 c43, .slice a44 n44 c44] := ⟨_, rfl⟩
      have Ma := unhide Na
      have Mb := unhide Nb
      have Mc := unhide Nc
      have Md := unhide Nd
      rw [← eua] at g40 Ma
      rw [← eub] at g41 Mb
      rw [← euc] at g42 Mc
      rw [← eud] at g43 Md
      have bw := below_new wx (.cells (five ua ub uc ud u) 25)
      refine rm_val h (by decide) MONO rfl rfl rfl (by decide) rfl (run_bldF (eval_G g40) (eval_G g41) (eval_G g42) (eval_G g43) (eval_G g45) Ma.shx Mb.shx Mc.shx Md.shx hu.shx) bw (stA_same (by decide)) (stA_ne (by decide)) ?_
      intro sv hk hr4
      obtain ⟨u', g45', hN'⟩ : ∃ u, G fa 45 = .agg u ∧ NV (fun b => b < wx.heap.size ∧ sv.ownBlock ≠ some b) wx u (Rf.restart x) := hr4 5 45 hl5 rfl
      rw [g45] at g45'
      cases g45'
      have hkeep : ∀ b, b < U4.heap.size → (b < (wx.alloc (.cells (five ua ub uc ud u) 25)).heap.size ∧ sv.ownBlock ≠ some b) ∧ (wx.alloc (.cells (five ua ub uc ud u) 25)).heap[b]? = U4.heap[b]? := fun b hb => ⟨⟨below_lt bw (below_lt h.old hb), fun q => by have := (hk b q).1; omega⟩, (bw.block b (below_lt h.old hb)).trans (h.old.block b hb)⟩
      have hkeep2 : ∀ b, (b < wx.heap.size ∧ sv.ownBlock ≠ some b) → (b < (wx.alloc (.cells (five ua ub uc ud u) 25)).heap.size ∧ sv.ownBlock ≠ some b) ∧ (wx.alloc (.cells (five ua ub uc ud u) 25)).heap[b]? = wx.heap[b]? := fun b hb => ⟨⟨below_lt bw hb.1, hb.2⟩, bw.block b hb.1⟩
      exact five_nodes (Ma.keep hkeep) (Mb.keep hkeep) (Mc.keep hkeep) (Md.keep hkeep) (hN'.keep hkeep2) ⟨by simp, fun q => by have := (hk _ q).2; omega⟩
    · rintro L fa wx h hcl hL hw2
      have n9 : L 9 = false := by
        cases e : L 9 with
        | false => rfl
        | true =>
          have q := hcl 9 _ rfl e ⟨7, .data⟩ (by simp) rfl
          rw [hL] at q
          cases q
      have n11 : L 11 = false := by
        cases e : L 11 with
        | false => rfl
        | true =>
          have q := hcl 11 _ rfl e ⟨9, .data⟩ (by simp) rfl
          rw [n9] at q
          cases q
      have n13 : L 13 = false := by
        cases e : L 13 with
        | false => rfl
        | true =>
          have q := hcl 13 _ rfl e ⟨11, .data⟩ (by simp) rfl
          rw [n11] at q
          cases q
      have n15 : L 15 = false := by
        cases e : L 15 with
        | false => rfl
        | true =>
          have q := hcl 15 _ rfl e ⟨13, .data⟩ (by simp) rfl
          rw [n13] at q
          cases q
      have n17 : L 17 = false := by
        cases e : L 17 with
        | false => rfl
        | true =>
          have q := hcl 17 _ rfl e ⟨15, .data⟩ (by simp) rfl
          rw [n15] at q
          cases q
      obtain ⟨sv, r1, _, r3, r4⟩ := h.row
      have hs0 : (stA ([] ++ (Rf.timeout x).2) (([] ++ (Rf.timeout x).2) ++ (Rf.beat x).2) ((([] ++ (Rf.timeout x).2) ++ (Rf.beat x).2) ++ (Rf.propose x c).2.1) (((([] ++ (Rf.timeout x).2) ++ (Rf.beat x).2) ++ (Rf.propose x c).2.1) ++ (Rf.receive x m).2)) L = none := by simp [stA, n9, n11, n13, n15, n17, hL]
      obtain rfl := r3 hs0
      exact rm_grow h (by decide) MONO rfl rfl rfl (by decide) rfl run_bldE r4 (ms := []) (by simp [stA, n9, n11, n13, n15, n17]) ⟨[], own_empty _ _ _ h.old.size, rfl⟩ (World.grownBy_alloc _ _ _) (.inr rfl) (fun k hk => by cases hk) (fun _ _ => trivial)
    · rintro L fa wx h hcl hL hw2
      exact rm_val h (by decide) MONO rfl rfl rfl (by decide) rfl (run_mv (eval_G ((h.keep (s := 9) (by decide)).trans s9))) (Below.refl _ _) (stA_same (by decide)) (stA_ne (by decide)) (fun _ _ _ => rfl)
    · rintro L fa wx h hcl hL hw2
      have n9 := hL
      have n11 : L 11 = false := by
        cases e : L 11 with
        | false => rfl
        | true =>
          have q := hcl 11 _ rfl e ⟨9, .data⟩ (by simp) rfl
          rw [n9] at q
          cases q
      have n13 : L 13 = false := by
        cases e : L 13 with
        | false => rfl
        | true =>
          have q := hcl 13 _ rfl e ⟨11, .data⟩ (by simp) rfl
          rw [n11] at q
          cases q
      have n15 : L 15 = false := by
        cases e : L 15 with
        | false => rfl
        | true =>
          have q := hcl 15 _ rfl e ⟨13, .data⟩ (by simp) rfl
          rw [n13] at q
          cases q
      have n17 : L 17 = false := by
        cases e : L 17 with
        | false => rfl
        | true =>
          have q := hcl 17 _ rfl e ⟨15, .data⟩ (by simp) rfl
          rw [n15] at q
          cases q
      have hp : L 7 = true := hw2 ⟨7, .data⟩ (by simp) rfl
      refine rm_appM h (by decide) MONO rfl rfl (by decide) (d0 := 47) (ms := []) (by simp [stA, n9, n11, n13, n15, n17, hp]) rfl (eval_G (let ⟨_, _, _, _, r4⟩ := h.row; r4 8 48 (hw2 ⟨8, .data⟩ (by simp) rfl) rfl)) (unhide Ka) (by simp [stA, n11, n13, n15, n17]) (by first | (simp; omega) | simp) (by omega) (fun _ _ _ => trivial)
    · rintro L fa wx h hcl hL hw2
      exact rm_val h (by decide) MONO rfl rfl rfl (by decide) rfl (run_mv (eval_G ((h.keep (s := 11) (by decide)).trans s11))) (Below.refl _ _) (stA_same (by decide)) (stA_ne (by decide)) (fun _ _ _ => rfl)
    · rintro L fa wx h hcl hL hw2
      have n11 := hL
      have n13 : L 13 = false := by
        cases e : L 13 with
        | false => rfl
        | true =>
          have q := hcl 13 _ rfl e ⟨11, .data⟩ (by simp) rfl
          rw [n11] at q
          cases q
      have n15 : L 15 = false := by
        cases e : L 15 with
        | false => rfl
        | true =>
          have q := hcl 15 _ rfl e ⟨13, .data⟩ (by simp) rfl
          rw [n13] at q
          cases q
      have n17 : L 17 = false := by
        cases e : L 17 with
        | false => rfl
        | true =>
          have q := hcl 17 _ rfl e ⟨15, .data⟩ (by simp) rfl
          rw [n15] at q
          cases q
      have hp : L 9 = true := hw2 ⟨9, .data⟩ (by simp) rfl
      refine rm_appM h (by decide) MONO rfl rfl (by decide) (d0 := 49) (ms := ([] ++ (Rf.timeout x).2)) (by simp [stA, n11, n13, n15, n17, hp]) rfl (eval_G (let ⟨_, _, _, _, r4⟩ := h.row; r4 10 50 (hw2 ⟨10, .data⟩ (by simp) rfl) rfl)) (unhide Kb) (by simp [stA, n13, n15, n17]) (by first | (simp; omega) | simp) (by omega) (fun _ _ _ => trivial)
    · rintro L fa wx h hcl hL hw2
      exact rm_val h (by decide) MONO rfl rfl rfl (by decide) rfl (run_mv (eval_G ((h.keep (s := 13) (by decide)).trans s13))) (Below.refl _ _) (stA_same (by decide)) (stA_ne (by decide)) (fun _ _ _ => rfl)
    · rintro L fa wx h hcl hL hw2
      have n13 := hL
      have n15 : L 15 = false := by
        cases e : L 15 with
        | false => rfl
        | true =>
          have q := hcl 15 _ rfl e ⟨13, .data⟩ (by simp) rfl
          rw [n13] at q
          cases q
      have n17 : L 17 = false := by
        cases e : L 17 with
        | false => rfl
        | true =>
          have q := hcl 17 _ rfl e ⟨15, .data⟩ (by simp) rfl
          rw [n15] at q
          cases q
      have hp : L 11 = true := hw2 ⟨11, .data⟩ (by simp) rfl
      refine rm_appM h (by decide) MONO rfl rfl (by decide) (d0 := 51) (ms := (([] ++ (Rf.timeout x).2) ++ (Rf.beat x).2)) (by simp [stA, n13, n15, n17, hp]) rfl (eval_G (let ⟨_, _, _, _, r4⟩ := h.row; r4 12 52 (hw2 ⟨12, .data⟩ (by simp) rfl) rfl)) (unhide Kc) (by simp [stA, n15, n17]) (by first | (simp; omega) | simp) (by omega) (fun _ _ _ => trivial)
    · rintro L fa wx h hcl hL hw2
      exact rm_val h (by decide) MONO rfl rfl rfl (by decide) rfl (run_mv (eval_G ((h.keep (s := 16) (by decide)).trans s16))) (Below.refl _ _) (stA_same (by decide)) (stA_ne (by decide)) (fun _ _ _ => rfl)
    · rintro L fa wx h hcl hL hw2
      have n15 := hL
      have n17 : L 17 = false := by
        cases e : L 17 with
        | false => rfl
        | true =>
          have q := hcl 17 _ rfl e ⟨15, .data⟩ (by simp) rfl
          rw [n15] at q
          cases q
      have hp : L 13 = true := hw2 ⟨13, .data⟩ (by simp) rfl
      refine rm_appM h (by decide) MONO rfl rfl (by decide) (d0 := 53) (ms := ((([] ++ (Rf.timeout x).2) ++ (Rf.beat x).2) ++ (Rf.propose x c).2.1)) (by simp [stA, n15, n17, hp]) rfl (eval_G (let ⟨_, _, _, _, r4⟩ := h.row; r4 14 54 (hw2 ⟨14, .data⟩ (by simp) rfl) rfl)) (unhide Kd) (by simp [stA, n17]) (by first | (simp; omega) | simp) (by omega) (fun _ _ _ => trivial)
    · rintro L fa wx h hcl hL hw2
      obtain ⟨sv0, _, _, _, r40⟩ := h.row
      have hl6 : L 6 = true := hw2 ⟨6, .data⟩ (by simp) rfl
      exact rm_val h (by decide) MONO rfl rfl rfl (by decide) rfl (run_asg (eval_G rfl)) (Below.refl _ _) (stA_same (by decide)) (stA_ne (by decide)) (fun sv _ hr => hr 6 46 hl6 rfl)
    · rintro L fa wx h hcl hL hw2
      have hp : L 15 = true := hw2 ⟨15, .data⟩ (by simp) rfl
      obtain ⟨sv, r1, r2, r3, r4⟩ := h.row
      have hs0 : (stA ([] ++ (Rf.timeout x).2) (([] ++ (Rf.timeout x).2) ++ (Rf.beat x).2) ((([] ++ (Rf.timeout x).2) ++ (Rf.beat x).2) ++ (Rf.propose x c).2.1) (((([] ++ (Rf.timeout x).2) ++ (Rf.beat x).2) ++ (Rf.propose x c).2.1) ++ (Rf.receive x m).2)) L = some (55, (((([] ++ (Rf.timeout x).2) ++ (Rf.beat x).2) ++ (Rf.propose x c).2.1) ++ (Rf.receive x m).2)) := by simp [stA, hL, hp]
      rw [hs0] at r1
      have hG := r2 55 _ hs0
      exact rm_grow h (by decide) MONO rfl rfl rfl (by decide) rfl (run_asg (eval_G hG)) r4 (by simp [stA]) r1 (World.grownBy.refl _ _) (.inl rfl) (fun k hk => by obtain ⟨cs, o1, _⟩ := r1; exact (World.ownsRow.lt o1 k hk).1) (fun _ _ => trivial)
  case done =>
    rintro L f1 wd h hall
    obtain ⟨sv, r1, r2, r3, r4⟩ := h.row
    have h17 := hall 17 (by simp)
    have h16 := hall 16 (by simp)
    have hs0 : (stA ([] ++ (Rf.timeout x).2) (([] ++ (Rf.timeout x).2) ++ (Rf.beat x).2) ((([] ++ (Rf.timeout x).2) ++ (Rf.beat x).2) ++ (Rf.propose x c).2.1) (((([] ++ (Rf.timeout x).2) ++ (Rf.beat x).2) ++ (Rf.propose x c).2.1) ++ (Rf.receive x m).2)) L = some (7, (((([] ++ (Rf.timeout x).2) ++ (Rf.beat x).2) ++ (Rf.propose x c).2.1) ++ (Rf.receive x m).2)) := by simp [stA, h17]
    rw [hs0] at r1
    have g7 := r2 7 _ hs0
    have g6 : NsV (fun b => b < wd.heap.size ∧ sv.ownBlock ≠ some b) wd (G f1 6) [xa, xb, xc, xd, Rf.restart x] := r4 16 6 h16 rfl
    have FIN : ∃ nv mv, Ending.returned (.tuple #[G f1 6, G f1 7]) = .returned (.tuple #[nv, mv]) ∧ NsV (· < wd.heap.size) wd nv (Rf.allN x m c) ∧ Mv wd mv (Rf.allM x m c) ∧ Below w.heap.size w wd := ⟨_, _, rfl, by rw [Rf.allN, ← unhide HXa, ← unhide HXb, ← unhide HXc, ← unhide HXd]; exact g6.keep (fun b hb => ⟨hb.1, rfl⟩), by rw [g7, Rf.allM]; simpa using r1.mv, below_via (unhide HB4) h.old⟩
    have z1 := h.size
    have z2 := h.defs
    clear r1 r2 r3 r4 g6 g7 h hall MONO
    have e := frame_is z1 z2
    rw [show List.range 56 = [0, 1, 2, 3, 4, 5, 6, 7, 8, 9, 10, 11, 12, 13, 14, 15, 16, 17, 18, 19, 20, 21, 22, 23, 24, 25, 26, 27, 28, 29, 30, 31, 32, 33, 34, 35, 36, 37, 38, 39, 40, 41, 42, 43, 44, 45, 46, 47, 48, 49, 50, 51, 52, 53, 54, 55] from rfl] at e
    simp only [List.map_cons, List.map_nil] at e
    generalize G f1 0 = y0 at e
    generalize G f1 1 = y1 at e
    generalize G f1 2 = y2 at e
    generalize G f1 3 = y3 at e
    generalize G f1 4 = y4 at e
    generalize G f1 5 = y5 at e
    generalize G f1 6 = y6 at e FIN
    generalize G f1 7 = y7 at e FIN
    generalize G f1 8 = y8 at e
    generalize G f1 9 = y9 at e
    generalize G f1 10 = y10 at e
    generalize G f1 11 = y11 at e
    generalize G f1 12 = y12 at e
    generalize G f1 13 = y13 at e
    generalize G f1 14 = y14 at e
    generalize G f1 15 = y15 at e
    generalize G f1 16 = y16 at e
    generalize G f1 17 = y17 at e
    generalize G f1 18 = y18 at e
    generalize G f1 19 = y19 at e
    generalize G f1 20 = y20 at e
    generalize G f1 21 = y21 at e
    generalize G f1 22 = y22 at e
    generalize G f1 23 = y23 at e
    generalize G f1 24 = y24 at e
    generalize G f1 25 = y25 at e
    generalize G f1 26 = y26 at e
    generalize G f1 27 = y27 at e
    generalize G f1 28 = y28 at e
    generalize G f1 29 = y29 at e
    generalize G f1 30 = y30 at e
    generalize G f1 31 = y31 at e
    generalize G f1 32 = y32 at e
    generalize G f1 33 = y33 at e
    generalize G f1 34 = y34 at e
    generalize G f1 35 = y35 at e
    generalize G f1 36 = y36 at e
    generalize G f1 37 = y37 at e
    generalize G f1 38 = y38 at e
    generalize G f1 39 = y39 at e
    generalize G f1 40 = y40 at e
    generalize G f1 41 = y41 at e
    generalize G f1 42 = y42 at e
    generalize G f1 43 = y43 at e
    generalize G f1 44 = y44 at e
    generalize G f1 45 = y45 at e
    generalize G f1 46 = y46 at e
    generalize G f1 47 = y47 at e
    generalize G f1 48 = y48 at e
    generalize G f1 49 = y49 at e
    generalize G f1 50 = y50 at e
    generalize G f1 51 = y51 at e
    generalize G f1 52 = y52 at e
    generalize G f1 53 = y53 at e
    generalize G f1 54 = y54 at e
    generalize G f1 55 = y55 at e
    have HFIN := hide FIN
    clear FIN z1 z2 hsz hdf hf0 s8 s10 s12 s15 s3 s9 s11 s13 s16 h17 h16 hs0 f0
    subst e
    go_wp2
    exact bodyPost_ret (v := .tuple #[y6, y7]) (by simp [results, Try.results10, go_sem]) rfl (unhide HFIN)

end Go.Proofs.Ytjgpbahjiacjcaa

namespace Go.Proofs.Ytjgpbahjiacjcaa.Rf

def Keeps (N : Int) (g : Gh) (k : Int) (r : Node × List Msg) : Prop := ∃ g', Ext g g' k ∧ GInv N g' ∧ NInv N g' k r.1 ∧ ∀ m ∈ r.2, MsgOk N g' m
theorem places_of (p : Int → Bool) : ∀ (l : List Int) (o : Nat), ∃ Q : List Int, Q.Nodup ∧ Q.length = l.countP p ∧ ∀ q ∈ Q, ∃ (a : Nat) (v : Int), q = ((o + a : Nat) : Int) + 1 ∧ l[a]? = some v ∧ p v = true
  | [], o => ⟨[], by simp, by simp, fun q h => by cases h⟩
  | x :: l, o => by
    obtain ⟨Q, h1, h2, h3⟩ := places_of p l (o + 1)
    by_cases hp : p x = true
    · refine ⟨(((o : Nat) : Int) + 1) :: Q, ?_, ?_, ?_⟩
      · rw [List.nodup_cons]
        refine ⟨fun hq => ?_, h1⟩
        obtain ⟨a, v, e, _⟩ := h3 _ hq
        omega
      · rw [List.length_cons, List.countP_cons, h2, if_pos hp]
      · intro q hq
        rcases List.mem_cons.1 hq with rfl | hq
        · exact ⟨0, x, by simp, rfl, hp⟩
        · obtain ⟨a, v, e, h4, h5⟩ := h3 q hq
          exact ⟨a + 1, v, by omega, by simpa using h4, h5⟩
    · refine ⟨Q, h1, ?_, fun q hq => ?_⟩
      · rw [h2, List.countP_cons, if_neg hp]
        simp
      · obtain ⟨a, v, e, h4, h5⟩ := h3 q hq
        exact ⟨a + 1, v, by omega, by simpa using h4, h5⟩
section
variable {N : Int} {g : Gh} {k : Int} {x : Node}
theorem safe_sure (h : NInv N g k x) (r : Right x) (hr : x.role = 3) (hn : x.n = N) : NInv N g k (sure x) := by
  refine sures h ⟨rfl, rfl, rfl, rfl, rfl, rfl⟩ ?_
  show SureL N g x.term x.log (sureN x x.log.length)
  rcases sureN_is x x.log.length with q | ⟨j, h1, h2, h3, h4, h5⟩
  · rw [q]; exact h.com
  · rw [h3]
    obtain ⟨Q, q1, q2, q3⟩ := places_of (fun v => decide ((j : Int) ≤ v)) x.mtch 0
    have hL := r.lens
    unfold lensOk at hL
    rw [if_pos hr] at hL
    refine sure_most h hr h1 h2 h5 (Q := Q) ⟨q1, fun q hq => ?_, ?_⟩ (fun q hq => ?_)
    · obtain ⟨a, v, e, h6, _⟩ := q3 q hq
      have := (List.getElem?_eq_some_iff.1 h6).1
      omega
    · unfold most have9 at h4
      rw [q2, ← hn]
      exact h4
    · obtain ⟨a, v, e, h6, h7⟩ := q3 q hq
      exact ⟨a, v, by omega, h6, by simpa using h7⟩
theorem safe_batch (h : NInv N g k x) (r : Right x) (hr : x.role = 3) (hid : x.id = k) {d : Int} (hd : inB d 1 x.n) : MsgOk N g (batch x d) := by
  have hL := r.lens
  unfold lensOk at hL
  rw [if_pos hr] at hL
  unfold inB at hd
  have hv := r.places.1 _ (next_mem (l := x.next) (i := (d - 1).toNat) (by omega))
  unfold inB at hv
  exact sends h hr (i := ((x.next.getD (d - 1).toNat 0) - 1).toNat) (c := 3) ⟨hid, rfl, rfl⟩ (by show (x.next.getD (d - 1).toNat 0) - 1 = _; omega) (by omega) rfl rfl rfl
theorem others_mem {q : Int} (r : Right x) (h : q ∈ others x) : inB q 1 x.n ∧ q ≠ x.id := by
  obtain ⟨h1, h2⟩ := List.mem_filter.1 h
  have := upto_mem h1
  have hn := r.n
  unfold inB at *
  exact ⟨by omega, by simpa using h2⟩
theorem safe_batches (h : NInv N g k x) (r : Right x) (hr : x.role = 3) (hid : x.id = k) : ∀ m ∈ batches x, MsgOk N g m := by
  intro m hm
  obtain ⟨d, hd, rfl⟩ := List.mem_map.1 hm
  exact safe_batch h r hr hid (others_mem r hd).1
theorem safe_put (G : GInv N g) (h : NInv N g k x) (r : Right x) (hr : x.role = 3) (hid : x.id = k) (hn : x.n = N) (cmd : Int) : Keeps N g k (put x cmd) := by
  have hi := r.id
  unfold inB at hi
  obtain ⟨g', E, G', h'⟩ := puts (x' := putOne x cmd) G h hr ⟨rfl, rfl, rfl, hr⟩ (by
    show grown x cmd = x.log ∨ ∃ c, grown x cmd = x.log ++ [(x.term, c)]
    unfold grown
    split
    · exact .inr ⟨cmd, rfl⟩
    · exact .inl rfl) (fun j v hv => by
    have hv : (x.mtch.set (x.id - 1).toNat ((grown x cmd).length : Int))[j]? = some v := hv
    rw [List.getElem?_set] at hv
    split at hv
    · rename_i e
      split at hv
      · cases hv
        exact .inr ⟨by omega, Int.le_refl _⟩
      · cases hv
    · exact .inl hv)
  have r' := right_putOne r hr cmd
  have hs := safe_sure h' r' hr hn
  exact ⟨g', E, G', hs, safe_batches hs (right_sure r') hr hid⟩
theorem votes_quorum (r : Right x) (hm : most x.n x.votes.length) : Quorum x.n x.votes :=
  ⟨r.votes.2.imp (fun h => by omega), fun q hq => r.votes.1 q hq, hm⟩
theorem safe_elect (G : GInv N g) (h : NInv N g k x) (r : Right x) (hr : x.role = 2) (hid : x.id = k) (hn : x.n = N) : Keeps N g k (elect x) := by
  unfold elect
  split
  · rename_i hm
    obtain ⟨g', E, G', h'⟩ := leads (x' := crowned x) G h hr (by rw [← hn]; exact votes_quorum r hm) (term_pos r (by omega)) ⟨rfl, rfl, rfl, rfl, rfl⟩ (fun v hv => by
      have hv : v ∈ List.replicate x.n.toNat (0 : Int) := hv
      rw [List.eq_of_mem_replicate hv]
      exact Int.le_refl _)
    obtain ⟨g2, E2, G2, h2, h3⟩ := safe_put G' h' (right_crowned r hr) rfl hid hn 0
    exact ⟨g2, E.trans E2, G2, h2, h3⟩
  · exact ⟨g, Ext.refl g k, G, h, fun m hm => by cases hm⟩
theorem safe_timeout (G : GInv N g) (h : NInv N g k x) (r : Right x) (hid : x.id = k) (hn : x.n = N) : Keeps N g k (timeout x) := by
  unfold timeout
  split
  · exact ⟨g, Ext.refl g k, G, h, fun m hm => by cases hm⟩
  · rename_i hc
    have h2 : x.role ≠ 3 := fun q => hc (.inr (.inl q))
    have h3 : x.term ≠ 1000000 := fun q => hc (.inr (.inr q))
    have hi := r.id
    unfold inB at hi
    obtain ⟨g', E, G', h'⟩ := candidate (x' := asks x) G h ⟨rfl, hid, rfl, rfl, rfl, by show [x.id] = [k]; rw [hid]⟩ (by omega)
    have ra := right_asks r h2 h3
    obtain ⟨g2, E2, G2, n2, m2⟩ := safe_elect G' h' ra rfl hid hn
    refine ⟨g2, E.trans E2, G2, n2, fun m hm => ?_⟩
    rcases List.mem_append.1 hm with q | q
    · obtain ⟨d, hd, rfl⟩ := List.mem_map.1 q
      have hcl := (h'.cand rfl).1
      refine MsgOk.ext E2 ⟨fun _ => ⟨x.log, ?_, rfl, rfl⟩, (fun q => by cases q), (fun q => by cases q), (fun q => by cases q)⟩
      show g'.clog (x.term + 1) x.id x.log
      rw [hid]
      exact hcl
    · exact m2 m q
theorem safe_beat (G : GInv N g) (h : NInv N g k x) (r : Right x) (hid : x.id = k) : Keeps N g k (beat x) := by
  unfold beat
  split
  · exact ⟨g, Ext.refl g k, G, h, fun m hm => by cases hm⟩
  · rename_i hc
    have hr : x.role = 3 := Classical.byContradiction (fun q => hc (.inr q))
    exact ⟨g, Ext.refl g k, G, h, safe_batches h r hr hid⟩
theorem safe_propose (G : GInv N g) (h : NInv N g k x) (r : Right x) (hid : x.id = k) (hn : x.n = N) (cmd : Int) : Keeps N g k ((propose x cmd).1, (propose x cmd).2.1) := by
  unfold propose
  split
  · exact ⟨g, Ext.refl g k, G, h, fun m hm => by cases hm⟩
  · rename_i hc
    have hr : x.role = 3 := Classical.byContradiction (fun q => hc (.inr (.inl q)))
    exact safe_put G h r hr hid hn cmd
theorem safe_restart (h : NInv N g k x) (r : Right x) : NInv N g k (restart x) := by
  unfold restart
  split
  · exact h
  · exact h.relax (Int.le_refl _) rfl (.inl ⟨rfl, rfl⟩) rfl (by have := r.commit; unfold inB at this; exact this.1)
theorem safe_bump (h : NInv N g k x) (t : Int) : NInv N g k (bump x t) := by
  unfold bump
  split
  · rename_i ht
    exact h.relax (Int.le_of_lt ht) rfl (.inr ⟨ht, rfl⟩) rfl (Int.le_refl _)
  · exact h
theorem safe_follow (h : NInv N g k x) (b : Int) : NInv N g k (follow x b) := h.relax (Int.le_refl _) rfl (.inl ⟨rfl, rfl⟩) rfl (Int.le_refl _)
theorem bump_ge (x : Node) (t : Int) : t ≤ (bump x t).term := by
  unfold bump
  split
  · exact Int.le_refl _
  · omega
theorem safe_onVote (G : GInv N g) (h : NInv N g k x) (hid : x.id = k) {m : Msg} (hm : MsgOk N g m) (hk : m.kind = 1) (hf : 1 ≤ m.frm) : Keeps N g k (onVote x m) := by
  unfold onVote
  split
  · rename_i hv
    obtain ⟨v1, v2, v3⟩ := hv
    obtain ⟨g', E, G', h', c1, c2⟩ := votes_for (x' := { x with vote := m.frm }) G h hm hk v1 v2 (by omega) v3 rfl
    refine ⟨g', E, G', h', fun b hb => ?_⟩
    rw [List.mem_singleton.1 hb]
    refine ⟨(fun q => by cases q), fun _ _ => ?_, (fun q => by cases q), (fun q => by cases q)⟩
    show g'.cast x.term x.id m.frm ∧ (g'.led x.term = none → ∃ vl, g'.vrec x.term x.id m.frm vl)
    rw [hid]
    exact ⟨c1, c2⟩
  · refine ⟨g, Ext.refl g k, G, h, fun b hb => ?_⟩
    rw [List.mem_singleton.1 hb]
    exact says_no (.inl rfl) rfl
theorem safe_onVoted (G : GInv N g) (h : NInv N g k x) (r : Right x) (hid : x.id = k) (hn : x.n = N) {m : Msg} (hm : MsgOk N g m) (hk : m.kind = 2) (hd : m.dest = k) : Keeps N g k (onVoted x m) := by
  unfold onVoted
  split
  · exact ⟨g, Ext.refl g k, G, h, fun m hm => by cases hm⟩
  · rename_i hc
    have hr : x.role = 2 := Classical.byContradiction (fun q => hc (.inl q))
    have ht : m.term = x.term := Classical.byContradiction (fun q => hc (.inr (.inl q)))
    have hy : m.yes = true := by
      cases e : m.yes with
      | true => rfl
      | false => exact absurd (.inr (.inr e)) hc
    have h' := counts (x' := { x with votes := voters x m.frm }) h hm hk hy ht hd (voters x m.frm) (fun v hv => by
      have := (List.mem_filter.1 hv).2
      simp at this
      exact this.symm) rfl
    exact safe_elect G h' (right_voters r hr m.frm) hr hid hn
theorem safe_onAppend (G : GInv N g) (h : NInv N g k x) (hid : x.id = k) {m : Msg} (hm : MsgOk N g m) (hk : m.kind = 3) (hi : 0 ≤ m.index) : Keeps N g k (onAppend x m) := by
  unfold onAppend
  split
  · refine ⟨g, Ext.refl g k, G, h, fun b hb => ?_⟩
    rw [List.mem_singleton.1 hb]
    exact says_no (.inr rfl) rfl
  · rename_i hc
    have ht : m.term = x.term := Classical.byContradiction (fun q => hc (.inl q))
    have hf := safe_follow h m.frm
    split
    · rename_i hfit
      obtain ⟨f1, f2⟩ := hfit
      have hidx : m.index = ((m.index.toNat : Nat) : Int) := by omega
      obtain ⟨g', E, G', h', ack⟩ := takes (x' := takenBy (follow x m.frm) m) (i := m.index.toNat) G hf hm hk ht hidx (by show m.index.toNat ≤ x.log.length; omega) (by rcases f2 with q | q; exact .inl (by omega); exact .inr q) ⟨rfl, rfl, rfl, rfl⟩ (by
        show (max (if held x.log m.index.toNat m.items < m.items.length then min x.commit ((taken x.log m.index.toNat m.items).length : Int) else x.commit) (min m.commit (m.index + (m.items.length : Int))) ≤ x.commit ∧ _) ∨ (max (if held x.log m.index.toNat m.items < m.items.length then min x.commit ((taken x.log m.index.toNat m.items).length : Int) else x.commit) (min m.commit (m.index + (m.items.length : Int))) ≤ x.commit ∧ held x.log m.index.toNat m.items = m.items.length) ∨ _
        have hh := held_le x.log m.items m.index.toNat
        by_cases hn : held x.log m.index.toNat m.items < m.items.length
        · show _ ∨ _ ∨ (max (if held x.log m.index.toNat m.items < m.items.length then min x.commit ((taken x.log m.index.toNat m.items).length : Int) else x.commit) (min m.commit (m.index + (m.items.length : Int))) ≤ m.commit ∧ max (if held x.log m.index.toNat m.items < m.items.length then min x.commit ((taken x.log m.index.toNat m.items).length : Int) else x.commit) (min m.commit (m.index + (m.items.length : Int))) ≤ _)
          show (_ ∧ max (if held x.log m.index.toNat m.items < m.items.length then min x.commit ((taken x.log m.index.toNat m.items).length : Int) else x.commit) (min m.commit (m.index + (m.items.length : Int))) ≤ ((taken x.log m.index.toNat m.items).length : Int)) ∨ _
          rw [if_pos hn]
          omega
        · show _ ∨ _ ∨ (max (if held x.log m.index.toNat m.items < m.items.length then min x.commit ((taken x.log m.index.toNat m.items).length : Int) else x.commit) (min m.commit (m.index + (m.items.length : Int))) ≤ m.commit ∧ max (if held x.log m.index.toNat m.items < m.items.length then min x.commit ((taken x.log m.index.toNat m.items).length : Int) else x.commit) (min m.commit (m.index + (m.items.length : Int))) ≤ _)
          rw [if_neg hn]
          omega)
      refine ⟨g', E, G', h', fun b hb => ?_⟩
      rw [List.mem_singleton.1 hb]
      refine ⟨(fun q => by cases q), (fun q => by cases q), (fun q => by cases q), fun _ _ a h1 h2 => ?_⟩
      show g'.acks x.term x.id a
      rw [hid]
      have h2 : (a : Int) ≤ m.index + (m.items.length : Int) := h2
      exact ack a (by omega)
    · refine ⟨g, Ext.refl g k, G, hf, fun b hb => ?_⟩
      rw [List.mem_singleton.1 hb]
      exact says_no (.inr rfl) rfl
theorem safe_onAppended (G : GInv N g) (h : NInv N g k x) (r : Right x) (hid : x.id = k) (hn : x.n = N) {m : Msg} (hm : MsgOk N g m) (hk : m.kind = 4) (hf : inB m.frm 1 x.n) : Keeps N g k (onAppended x m) := by
  unfold onAppended
  split
  · exact ⟨g, Ext.refl g k, G, h, fun m hm => by cases hm⟩
  · rename_i hc
    have hr : x.role = 3 := Classical.byContradiction (fun q => hc (.inl q))
    have ht : m.term = x.term := Classical.byContradiction (fun q => hc (.inr q))
    have hf' := hf
    unfold inB at hf'
    split
    · rename_i hy
      have h' : NInv N g k (heardYes x m) := hears h hm hk hy ht ⟨rfl, rfl, rfl, hr, hr, rfl⟩ (fun j v hv => by
        have hv : (x.mtch.set (m.frm - 1).toNat (had x m))[j]? = some v := hv
        rw [List.getElem?_set] at hv
        split at hv
        · rename_i e
          split at hv
          · rename_i hl
            cases hv
            have hg : x.mtch[j]? = some (x.mtch.getD (m.frm - 1).toNat 0) := by
              rw [e, List.getD_eq_getElem?_getD, List.getElem?_eq_getElem (by omega)]
              rfl
            by_cases q : x.mtch.getD (m.frm - 1).toNat 0 ≤ m.index
            · refine .inr ⟨by omega, ?_⟩
              unfold had
              omega
            · have hp := (r.places.2 _ (List.mem_of_getElem? hg)).2
              refine .inl ?_
              rw [hg]
              congr 1
              unfold had
              omega
          · cases hv
        · exact .inl hv)
      have rh := right_heardYes r hr hf
      have hs := safe_sure h' rh hr hn
      refine ⟨g, Ext.refl g k, G, hs, fun b hb => ?_⟩
      split at hb
      · rw [List.mem_singleton.1 hb]
        exact safe_batch hs (right_sure rh) hr hid hf
      · cases hb
    · have h' : NInv N g k (heardNo x m) := ⟨h.castT, h.voteC, h.clogT, h.cand, h.ledT, h.lead, h.logM, h.logT, h.ack, h.com⟩
      refine ⟨g, Ext.refl g k, G, h', fun b hb => ?_⟩
      rw [List.mem_singleton.1 hb]
      exact safe_batch h' (right_heardNo r hr hf) hr hid hf
theorem safe_receive (G : GInv N g) (h : NInv N g k x) (r : Right x) (hid : x.id = k) (hn : x.n = N) {m : Msg} (hm : MsgOk N g m) : Keeps N g k (receive x m) := by
  unfold receive
  split
  · exact ⟨g, Ext.refl g k, G, h, fun m hm => by cases hm⟩
  · rename_i hc
    have hl : ¬ Lost x m := fun q => hc (.inr q)
    unfold Lost at hl
    obtain ⟨l1, l2, l3, l4, l5, l6, l7, l8, l9, l10, l11⟩ := Classical.not_not.1 hl
    have rb := right_bump r l5
    have hb := safe_bump h m.term
    obtain ⟨b1, b2, _⟩ := bump_same x m.term
    unfold inB at l2 l4 l6
    unfold byKind
    split
    · exact safe_onVote G hb (by rw [b1]; exact hid) hm (by assumption) l2.1
    · split
      · exact safe_onVoted G hb rb (by rw [b1]; exact hid) (by rw [b2]; exact hn) hm (by assumption) (by rw [l1]; exact hid)
      · split
        · exact safe_onAppend G hb (by rw [b1]; exact hid) hm (by assumption) l6.1
        · exact safe_onAppended G hb rb (by rw [b1]; exact hid) (by rw [b2]; exact hn) hm (by omega) (by rw [b2]; exact l2)
end
end Go.Proofs.Ytjgpbahjiacjcaa.Rf

namespace Go.Proofs.Ytjgpbahjiacjcaa.Rf

structure Wd where
  nodes : List Node
  net : List Msg
structure Ev where
  kind : Int
  node : Int
  pick : Int

/-- the newest sixty -/
def trim (l : List Msg) : List Msg := l.drop (l.length - 60)
def startW (n : Int) : Wd := { nodes := (List.range n.toNat).map (fun i : Nat => start ((i : Int) + 1) n), net := [] }
/-- node number k becomes another one, and says something -/
def acts (w : Wd) (net : List Msg) (k : Int) (f : Node → Node × List Msg) : Wd :=
  match (if 1 ≤ k then w.nodes[(k - 1).toNat]? else none) with
  | some x => { nodes := w.nodes.set (k - 1).toNat (f x).1, net := trim (net ++ (f x).2) }
  | none => { nodes := w.nodes, net := trim net }
def evNode (w : Wd) (e : Ev) : Wd :=
  if e.kind = 1 then acts w w.net e.node timeout
  else if e.kind = 2 then acts w w.net e.node beat
  else if e.kind = 3 then acts w w.net e.node (fun x => ((propose x e.pick).1, (propose x e.pick).2.1))
  else if e.kind = 7 then acts w w.net e.node (fun x => (restart x, []))
  else w
def evMsg (w : Wd) (e : Ev) (m : Msg) : Wd :=
  if e.kind = 6 then { nodes := w.nodes, net := w.net.eraseIdx e.pick.toNat }
  else acts w (if e.kind = 5 then w.net else w.net.eraseIdx e.pick.toNat) m.dest (fun x => receive x m)
def stepW (w : Wd) (e : Ev) : Wd :=
  if e.kind = 4 ∨ e.kind = 5 ∨ e.kind = 6 then (match (if 0 ≤ e.pick then w.net[e.pick.toNat]? else none) with | some m => evMsg w e m | none => w)
  else evNode w e
def runW (n : Int) (l : List Ev) : Wd := l.foldl stepW (startW n)

structure WInv (N : Int) (g : Gh) (w : Wd) : Prop where
  G : GInv N g
  len : (w.nodes.length : Int) = N
  nd : ∀ (i : Nat) (x : Node), w.nodes[i]? = some x → NInv N g ((i : Int) + 1) x ∧ Right x ∧ x.id = (i : Int) + 1 ∧ x.n = N
  ms : ∀ m ∈ w.net, MsgOk N g m
  net : w.net.length ≤ 60
/-- more is known -/
structure More (g g' : Gh) : Prop where
  led : ∀ t c, g.led t = some c → g'.led t = some c
  elog : ∀ t, (g.led t).isSome = true → g'.elog t = g.elog t
  llog : ∀ t, (g.led t).isSome = true → g.llog t <+: g'.llog t
  cast : ∀ t q c, g.cast t q c → g'.cast t q c
  acks : ∀ t q i, g.acks t q i → g'.acks t q i
theorem More.refl (g : Gh) : More g g := ⟨fun _ _ h => h, fun _ _ => rfl, fun _ _ => List.prefix_rfl, fun _ _ _ h => h, fun _ _ _ h => h⟩
theorem Ext.more {g g' : Gh} {k : Int} (E : Ext g g' k) : More g g' := ⟨E.led, E.elog, E.llog, E.cast, E.acks⟩
theorem Committed.more {N : Int} {g g' : Gh} (E : More g g') {t : Int} {j : Nat} (h : Committed N g t j) : Committed N g' t j := by
  obtain ⟨h1, h2, h3, h4, Q, h5, h6⟩ := h
  have hp := E.llog t h4
  obtain ⟨c, hc⟩ := Option.isSome_iff_exists.1 h4
  exact ⟨h1, Nat.le_trans h2 hp.length_le, by rw [atN_pre hp h2]; exact h3, by rw [E.led t c hc]; rfl, Q, h5, fun q hq => E.acks _ _ _ (h6 q hq)⟩

theorem trim_mem {l : List Msg} {m : Msg} (h : m ∈ trim l) : m ∈ l := List.mem_of_mem_drop h
theorem trim_len (l : List Msg) : (trim l).length ≤ 60 := by unfold trim; rw [List.length_drop]; omega
theorem erase_mem {l : List Msg} {i : Nat} {m : Msg} (h : m ∈ l.eraseIdx i) : m ∈ l := List.mem_of_mem_eraseIdx h

theorem first_inv {n : Int} (h1 : 1 ≤ n) (h5 : n ≤ 5) : ∃ g, WInv n g (startW n) := by
  refine ⟨{ led := fun _ => none, elog := fun _ => [], llog := fun _ => [], cast := fun _ _ _ => False, clog := fun _ _ _ => False, vrec := fun _ _ _ _ => False, acks := fun _ _ _ => False }, ?_, ?_, ?_, (fun m hm => by cases hm), by show ([] : List Msg).length ≤ 60; simp⟩
  · exact ⟨h1, (fun t h => by cases h), (fun _ _ _ _ h => h.elim), (fun _ _ _ h => h.elim), (fun t h => by cases h), (fun t h => by cases h), (fun t h => by cases h), (fun t h => by cases h), (fun t k h => by cases h), (fun _ _ _ _ h => h.elim), (fun _ _ _ h => h.elim), (fun _ _ _ _ h => h.elim), (fun _ _ _ h => h.elim)⟩
  · show (((List.range n.toNat).map (fun i : Nat => start ((i : Int) + 1) n)).length : Int) = n
    simp
    omega
  · intro i x hx
    have hx : ((List.range n.toNat).map (fun i : Nat => start ((i : Int) + 1) n))[i]? = some x := hx
    rw [List.getElem?_map] at hx
    obtain ⟨j, hj, rfl⟩ := Option.map_eq_some_iff.1 hx
    obtain ⟨lj, ej⟩ := List.getElem?_eq_some_iff.1 hj
    simp at lj ej
    subst ej
    refine ⟨⟨(fun _ _ h => h.elim), fun h => absurd rfl h, (fun _ _ h => h.elim), (fun h => by cases h), (fun t h => by cases h), (fun h => by cases h), (fun i x h => by cases h), (fun e h => by cases h), (fun _ _ h => h.elim), .inl (Int.le_refl _)⟩, ?_, rfl, rfl⟩
    refine ⟨⟨h1, h5⟩, ?_, ?_, ?_, ?_, ?_, ?_, fun _ => rfl, by show ([] : List Item).length ≤ 60; simp, ⟨(fun _ h => by cases h), List.Pairwise.nil⟩, fun _ => rfl, ⟨(fun _ h => by cases h), List.Pairwise.nil⟩, ?_, ⟨(fun _ h => by cases h), (fun _ h => by cases h)⟩⟩
    · show inB ((i : Int) + 1) 1 n
      unfold inB; omega
    · show inB 0 0 n
      unfold inB; omega
    · show inB 0 0 n
      unfold inB; omega
    · show inB 0 0 1000000
      unfold inB; omega
    · show inB 0 0 ((([] : List Item).length : Nat) : Int)
      unfold inB; simp
    · show inB 1 1 3
      unfold inB; omega
    · show lensOk (start ((i : Int) + 1) n)
      unfold lensOk start
      simp
section
variable {N : Int} {g : Gh} {w : Wd}
theorem acts_inv (h : WInv N g w) {net : List Msg} (hnet : ∀ m ∈ net, MsgOk N g m) {k : Int} {f : Node → Node × List Msg}
    (hf : ∀ x, NInv N g k x → Right x → x.id = k → x.n = N → Keeps N g k (f x) ∧ Right (f x).1 ∧ (f x).1.id = x.id ∧ (f x).1.n = x.n) : ∃ g', More g g' ∧ WInv N g' (acts w net k f) := by
  unfold acts
  split
  · rename_i x hx
    split at hx
    · rename_i hk
      have ek : (((k - 1).toNat : Nat) : Int) + 1 = k := by omega
      obtain ⟨n1, n2, n3, n4⟩ := h.nd _ x hx
      rw [ek] at n1 n3
      obtain ⟨⟨g', E, G', h', hm⟩, r', i', nn'⟩ := hf x n1 n2 n3 n4
      refine ⟨g', E.more, G', by simpa using h.len, fun i y hy => ?_, fun m hm' => ?_, trim_len _⟩
      · have hy : (w.nodes.set (k - 1).toNat (f x).1)[i]? = some y := hy
        rw [List.getElem?_set] at hy
        split at hy
        · rename_i e
          split at hy
          · cases hy
            rw [← e, ek]
            exact ⟨h', r', by rw [i']; exact n3, by rw [nn']; exact n4⟩
          · cases hy
        · rename_i e
          obtain ⟨m1, m2, m3, m4⟩ := h.nd i y hy
          exact ⟨m1.ext E h.G (by omega), m2, m3, m4⟩
      · rcases List.mem_append.1 (trim_mem hm') with q | q
        · exact (hnet m q).ext E
        · exact hm m q
    · cases hx
  · exact ⟨g, More.refl g, h.G, h.len, h.nd, fun m hm => hnet m (trim_mem hm), trim_len _⟩
theorem same_put (x : Node) (cmd : Int) : (put x cmd).1.id = x.id ∧ (put x cmd).1.n = x.n := ⟨rfl, rfl⟩
theorem same_elect (x : Node) : (elect x).1.id = x.id ∧ (elect x).1.n = x.n := by unfold elect; split <;> exact ⟨rfl, rfl⟩
theorem same_timeout (x : Node) : (timeout x).1.id = x.id ∧ (timeout x).1.n = x.n := by
  unfold timeout
  split
  · exact ⟨rfl, rfl⟩
  · exact same_elect (asks x)
theorem same_propose (x : Node) (cmd : Int) : (propose x cmd).1.id = x.id ∧ (propose x cmd).1.n = x.n := by unfold propose; split <;> exact ⟨rfl, rfl⟩
theorem same_restart (x : Node) : (restart x).id = x.id ∧ (restart x).n = x.n := by unfold restart; split <;> exact ⟨rfl, rfl⟩
theorem same_receive (x : Node) (m : Msg) : (receive x m).1.id = x.id ∧ (receive x m).1.n = x.n := by
  unfold receive
  split
  · exact ⟨rfl, rfl⟩
  · obtain ⟨b1, b2, _⟩ := bump_same x m.term
    rw [← b1, ← b2]
    unfold byKind
    split
    · unfold onVote; split <;> exact ⟨rfl, rfl⟩
    · split
      · unfold onVoted
        split
        · exact ⟨rfl, rfl⟩
        · exact same_elect _
      · split
        · unfold onAppend
          split
          · exact ⟨rfl, rfl⟩
          · split <;> exact ⟨rfl, rfl⟩
        · unfold onAppended
          split
          · exact ⟨rfl, rfl⟩
          · split <;> exact ⟨rfl, rfl⟩
theorem step_inv (h : WInv N g w) (e : Ev) : ∃ g', More g g' ∧ WInv N g' (stepW w e) := by
  unfold stepW
  split
  · split
    · rename_i m hm
      split at hm
      · have hmem := List.mem_of_getElem? hm
        have hok := h.ms m hmem
        unfold evMsg
        split
        · exact ⟨g, More.refl g, h.G, h.len, h.nd, fun b hb => h.ms b (erase_mem hb), by show (w.net.eraseIdx e.pick.toNat).length ≤ 60; have := h.net; have := List.length_eraseIdx_le w.net e.pick.toNat; omega⟩
        · refine acts_inv h (fun b hb => ?_) (fun x n1 n2 n3 n4 => ⟨safe_receive h.G n1 n2 n3 n4 hok, right_receive n2 m, same_receive x m⟩)
          split at hb
          · exact h.ms b hb
          · exact h.ms b (erase_mem hb)
      · cases hm
    · exact ⟨g, More.refl g, h⟩
  · unfold evNode
    split
    · exact acts_inv h h.ms (fun x n1 n2 n3 n4 => ⟨safe_timeout h.G n1 n2 n3 n4, right_timeout n2, same_timeout x⟩)
    · split
      · exact acts_inv h h.ms (fun x n1 n2 n3 n4 => ⟨safe_beat h.G n1 n2 n3, right_beat n2, by unfold beat; split <;> exact ⟨rfl, rfl⟩⟩)
      · split
        · exact acts_inv h h.ms (fun x n1 n2 n3 n4 => ⟨safe_propose h.G n1 n2 n3 n4 e.pick, right_propose n2 e.pick, same_propose x e.pick⟩)
        · split
          · exact acts_inv h h.ms (fun x n1 n2 n3 n4 => ⟨⟨g, Ext.refl g _, h.G, safe_restart n1 n2, fun m hm => by cases hm⟩, right_restart n2, same_restart x⟩)
          · exact ⟨g, More.refl g, h⟩
end

/-- ELECTION SAFETY, for what a map has -/
def LedMap (g : Gh) (led : Int → Option Int) : Prop := ∀ t k, led t = some k → g.led t = some k
theorem LedMap.more {g g' : Gh} (E : More g g') {led : Int → Option Int} (h : LedMap g led) : LedMap g' led := fun t k hk => E.led t k (h t k hk)
theorem leader_is {N : Int} {g : Gh} {w : Wd} (h : WInv N g w) {i : Nat} {x : Node} (hx : w.nodes[i]? = some x) (hr : x.role = 3) : g.led x.term = some x.id := by
  obtain ⟨n1, _, n3, _⟩ := h.nd i x hx
  rw [n3]
  exact (n1.lead hr).1
/-- LOG MATCHING -/
theorem logs_match {N : Int} {g : Gh} {w : Wd} (h : WInv N g w) {i j : Nat} {a b : Node} (ha : w.nodes[i]? = some a) (hb : w.nodes[j]? = some b) {p : Nat} {x y : Item} (hx : a.log[p]? = some x) (hy : b.log[p]? = some y) (e : x.1 = y.1) : a.log.take (p + 1) = b.log.take (p + 1) :=
  match_same (h.nd i a ha).1.logM (h.nd j b hb).1.logM hx hy e
/-- what is sure, up to a term -/
def SureS (N : Int) (g : Gh) (T : Int) (S : List Item) : Prop := S = [] ∨ ∃ t j, t ≤ T ∧ Committed N g t j ∧ S.length ≤ j ∧ S = (g.llog t).take S.length
theorem SureS.more {N : Int} {g g' : Gh} (E : More g g') {T : Int} {S : List Item} (h : SureS N g T S) : SureS N g' T S := by
  rcases h with h | ⟨t, j, h1, h2, h3, h4⟩
  · exact .inl h
  · refine .inr ⟨t, j, h1, h2.more E, h3, ?_⟩
    rw [take_pre (E.llog t h2.2.2.2.1) (Nat.le_trans h3 h2.2.1)]
    exact h4
theorem SureS.le {N : Int} {g : Gh} {T T' : Int} {S : List Item} (h : SureS N g T S) (hT : T ≤ T') : SureS N g T' S := by
  rcases h with h | ⟨t, j, h1, h2⟩
  · exact .inl h
  · exact .inr ⟨t, j, Int.le_trans h1 hT, h2⟩
theorem sure_of {N : Int} {g : Gh} {T : Int} {l : List Item} {c : Int} (h : SureL N g T l c) : SureS N g T (l.take c.toNat) := by
  rcases h with h | ⟨t, j, h1, h2, h3, h4, h5⟩
  · rw [show c.toNat = 0 by omega]
    exact .inl rfl
  · have e : (l.take c.toNat).length = c.toNat := by rw [List.length_take]; omega
    exact .inr ⟨t, j, h1, h2, by rw [e]; exact h3, by rw [e]; exact h4⟩
/-- what was sure of a term's leader, every later one has -/
theorem sure_later {N : Int} {g : Gh} (G : GInv N g) {t : Int} {j : Nat} (hc : Committed N g t j) {s : Int} (hs : t ≤ s) (hl : (g.led s).isSome = true) : (g.llog t).take j <+: g.llog s := by
  by_cases e : t = s
  · subst e
    exact take_is_pre _ _
  · exact (complete G hc (s - t - 1).toNat s (by omega) hl).trans (G.elogPre s hl)
/-- STATE MACHINE SAFETY: of two that are sure one begins the other -/
theorem sure_agree {N : Int} {g : Gh} (G : GInv N g) {T T' : Int} {S R : List Item} (hS : SureS N g T S) (hR : SureS N g T' R) (hle : S.length ≤ R.length) : S <+: R := by
  rcases hS with rfl | ⟨t, j, _, c1, l1, e1⟩
  · exact List.nil_prefix
  rcases hR with rfl | ⟨s, i, _, c2, l2, e2⟩
  · have : S = [] := List.eq_nil_of_length_eq_zero (by simpa using hle)
    subst this
    exact List.nil_prefix
  have pS : S <+: (g.llog t).take j := by
    rw [e1]
    refine pre_or (take_is_pre _ _) (take_is_pre _ _) ?_
    rw [List.length_take, List.length_take]; omega
  have pR : R <+: (g.llog s).take i := by
    rw [e2]
    refine pre_or (take_is_pre _ _) (take_is_pre _ _) ?_
    rw [List.length_take, List.length_take]; omega
  rcases Int.le_total t s with h | h
  · exact pre_or (pS.trans (sure_later G c1 h c2.2.2.2.1)) (pR.trans (take_is_pre _ _)) hle
  · exact pre_or (pS.trans (take_is_pre _ _)) (pR.trans (sure_later G c2 h c1.2.2.2.1)) hle
theorem node_sure {N : Int} {g : Gh} {w : Wd} (h : WInv N g w) {i : Nat} {x : Node} (hx : w.nodes[i]? = some x) : SureS N g x.term (x.log.take x.commit.toNat) := sure_of (h.nd i x hx).1.com
/-- LEADER COMPLETENESS -/
theorem leader_has {N : Int} {g : Gh} {w : Wd} (h : WInv N g w) {i : Nat} {x : Node} (hx : w.nodes[i]? = some x) (hr : x.role = 3) {T : Int} {S : List Item} (hS : SureS N g T S) (hT : T < x.term) : S <+: x.log := by
  rcases hS with rfl | ⟨t, j, h1, c1, l1, e1⟩
  · exact List.nil_prefix
  obtain ⟨n1, _⟩ := h.nd i x hx
  obtain ⟨m1, m2, _⟩ := n1.lead hr
  have hl : (g.led x.term).isSome = true := by rw [m1]; rfl
  have := sure_later h.G c1 (s := x.term) (by omega) hl
  rw [m2] at this
  refine List.IsPrefix.trans ?_ this
  rw [e1]
  refine pre_or (take_is_pre _ _) (take_is_pre _ _) ?_
  rw [List.length_take, List.length_take]; omega

/-- NO TERM GOES BACK, AND NO VOTE IS CHANGED -/
def Later (x y : Node) : Prop := x.term ≤ y.term ∧ (x.term = y.term → x.vote ≠ 0 → y.vote = x.vote)
theorem Later.refl (x : Node) : Later x x := ⟨Int.le_refl _, fun _ _ => rfl⟩
theorem Later.trans {x y z : Node} (h : Later x y) (k : Later y z) : Later x z := by
  obtain ⟨h1, h2⟩ := h
  obtain ⟨k1, k2⟩ := k
  refine ⟨by omega, fun e h0 => ?_⟩
  have a := h2 (by omega) h0
  have b := k2 (by omega) (by rw [a]; exact h0)
  rw [b, a]
theorem later_same {x y : Node} (h1 : y.term = x.term) (h2 : y.vote = x.vote) : Later x y := ⟨by omega, fun _ _ => h2⟩
theorem later_elect (x : Node) : Later x (elect x).1 := by unfold elect; split <;> exact later_same rfl rfl
theorem later_timeout (x : Node) : Later x (timeout x).1 := by
  unfold timeout
  split
  · exact Later.refl x
  · have h : Later x (asks x) := ⟨by show x.term ≤ x.term + 1; omega, fun e => by have e : x.term = x.term + 1 := e; omega⟩
    exact h.trans (later_elect _)
theorem later_propose (x : Node) (cmd : Int) : Later x (propose x cmd).1 := by unfold propose; split <;> exact later_same rfl rfl
theorem later_restart (x : Node) : Later x (restart x) := by unfold restart; split <;> exact later_same rfl rfl
theorem later_beat (x : Node) : Later x (beat x).1 := by unfold beat; split <;> exact later_same rfl rfl
theorem later_bump (x : Node) (t : Int) : Later x (bump x t) := by
  unfold bump
  split
  · rename_i h
    exact ⟨by show x.term ≤ t; omega, fun e => by have e : x.term = t := e; omega⟩
  · exact Later.refl x
theorem later_kind (x : Node) (m : Msg) : Later x (byKind x m).1 := by
  unfold byKind
  split
  · unfold onVote
    split
    · rename_i h
      refine ⟨Int.le_refl _, fun _ h0 => ?_⟩
      rcases h.2.1 with q | q
      · exact absurd q h0
      · exact q.symm
    · exact Later.refl x
  · split
    · unfold onVoted
      split
      · exact Later.refl x
      · exact (later_same (x := x) (y := { x with votes := voters x m.frm }) rfl rfl).trans (later_elect _)
    · split
      · unfold onAppend
        split
        · exact Later.refl x
        · split <;> exact later_same rfl rfl
      · unfold onAppended
        split
        · exact Later.refl x
        · split <;> exact later_same rfl rfl
theorem later_receive (x : Node) (m : Msg) : Later x (receive x m).1 := by
  unfold receive
  split
  · exact Later.refl x
  · exact (later_bump x m.term).trans (later_kind _ m)
end Go.Proofs.Ytjgpbahjiacjcaa.Rf

namespace Go.Proofs.Ytjgpbahjiacjcaa.Rf

/-- as long as it leads in a term -/
def Adds (x y : Node) : Prop := y.role = 3 → y.term = x.term → x.log <+: y.log ∧ x.commit ≤ y.commit
theorem adds_same {x y : Node} (h1 : y.log = x.log) (h2 : x.commit ≤ y.commit) : Adds x y := fun _ _ => ⟨by rw [h1]; exact List.prefix_rfl, h2⟩
theorem adds_timeout {x : Node} (hr : x.role = 3) : Adds x (timeout x).1 := by
  unfold timeout
  rw [if_pos (.inr (.inl hr))]
  exact adds_same rfl (Int.le_refl _)
theorem adds_beat (x : Node) : Adds x (beat x).1 := by unfold beat; split <;> exact adds_same rfl (Int.le_refl _)
theorem adds_put (x : Node) (cmd : Int) : Adds x (put x cmd).1 := fun _ _ => ⟨grown_pre x cmd, (sureN_le (putOne x cmd) _).1⟩
theorem adds_propose (x : Node) (cmd : Int) : Adds x (propose x cmd).1 := by
  unfold propose
  split
  · exact adds_same rfl (Int.le_refl _)
  · exact adds_put x cmd
theorem adds_restart (x : Node) : Adds x (restart x) := by
  unfold restart
  split
  · exact adds_same rfl (Int.le_refl _)
  · intro h
    have h : (1 : Int) = 3 := h
    omega
theorem kind_term (x : Node) (m : Msg) : (byKind x m).1.term = x.term := by
  have el : ∀ y : Node, (elect y).1.term = y.term := fun y => by unfold elect; split <;> rfl
  unfold byKind
  split
  · unfold onVote; split <;> rfl
  · split
    · unfold onVoted
      split
      · rfl
      · exact el _
    · split
      · unfold onAppend
        split
        · rfl
        · split <;> rfl
      · unfold onAppended
        split
        · rfl
        · split <;> rfl
theorem adds_receive {x : Node} (hr : x.role = 3) (m : Msg) : Adds x (receive x m).1 := by
  unfold receive
  split
  · exact adds_same rfl (Int.le_refl _)
  · by_cases ht : x.term < m.term
    · intro _ e
      rw [kind_term] at e
      have := bump_ge x m.term
      omega
    · have hb : bump x m.term = x := by unfold bump; rw [if_neg ht]
      rw [hb]
      unfold byKind
      split
      · unfold onVote; split <;> exact adds_same rfl (Int.le_refl _)
      · split
        · unfold onVoted
          rw [if_pos (.inl (by omega))]
          exact adds_same rfl (Int.le_refl _)
        · split
          · unfold onAppend
            rw [if_pos (.inr hr)]
            exact adds_same rfl (Int.le_refl _)
          · unfold onAppended
            split
            · exact adds_same rfl (Int.le_refl _)
            · split
              · exact adds_same rfl (sureN_le (heardYes x m) _).1
              · exact adds_same rfl (Int.le_refl _)

/-- a message of a node -/
structure Says (x : Node) (t : Int) (m : Msg) : Prop where
  frm : m.frm = x.id
  dest : m.dest ≠ x.id
  to1 : 1 ≤ m.dest
  toN : m.dest ≤ x.n
  items : m.items.length ≤ 3
  term : m.term = t
theorem batch_says {x : Node} {d : Int} (hd : inB d 1 x.n) (ne : d ≠ x.id) : Says x x.term (batch x d) :=
  ⟨rfl, ne, hd.1, hd.2, by show ((x.log.drop _).take 3).length ≤ 3; rw [List.length_take]; omega, rfl⟩
theorem batches_say {x : Node} (r : Right x) : ∀ m ∈ batches x, Says x x.term m := by
  intro m hm
  obtain ⟨d, hd, rfl⟩ := List.mem_map.1 hm
  obtain ⟨h1, h2⟩ := others_mem r hd
  exact batch_says h1 h2
theorem put_says {x : Node} (r : Right x) (hr : x.role = 3) (cmd : Int) : ∀ m ∈ (put x cmd).2, Says x x.term m := by
  intro m hm
  have h := batches_say (right_put r hr cmd) m hm
  exact ⟨h.frm, h.dest, h.to1, h.toN, h.items, h.term⟩
theorem elect_says {x : Node} (r : Right x) (hr : x.role = 2) : ∀ m ∈ (elect x).2, Says x x.term m := by
  unfold elect
  split
  · intro m hm
    have h := put_says (right_crowned r hr) rfl 0 m hm
    exact ⟨h.frm, h.dest, h.to1, h.toN, h.items, h.term⟩
  · intro m hm
    cases hm
theorem elect_term (y : Node) : (elect y).1.term = y.term := by unfold elect; split <;> rfl
theorem timeout_says {x : Node} (r : Right x) : ∀ m ∈ (timeout x).2, Says x (timeout x).1.term m := by
  unfold timeout
  split
  · intro m hm
    cases hm
  · rename_i h
    have h2 : x.role ≠ 3 := fun q => h (.inr (.inl q))
    have h3 : x.term ≠ 1000000 := fun q => h (.inr (.inr q))
    have ra := right_asks r h2 h3
    intro m hm
    show Says x (elect (asks x)).1.term m
    rw [elect_term]
    rcases List.mem_append.1 hm with q | q
    · obtain ⟨d, hd, rfl⟩ := List.mem_map.1 q
      obtain ⟨h1, h2⟩ := others_mem ra hd
      exact ⟨rfl, h2, h1.1, h1.2, by show ([] : List Item).length ≤ 3; simp, rfl⟩
    · have h := elect_says ra rfl m q
      exact ⟨h.frm, h.dest, h.to1, h.toN, h.items, h.term⟩
theorem beat_says {x : Node} (r : Right x) : ∀ m ∈ (beat x).2, Says x (beat x).1.term m := by
  unfold beat
  split
  · intro m hm
    cases hm
  · exact batches_say r
theorem propose_says {x : Node} (r : Right x) (cmd : Int) : ∀ m ∈ (propose x cmd).2.1, Says x (propose x cmd).1.term m := by
  unfold propose
  split
  · intro m hm
    cases hm
  · rename_i h
    exact put_says r (Classical.byContradiction (fun q => h (.inr (.inl q)))) cmd
theorem back_says {x : Node} {m : Msg} (hf : inB m.frm 1 x.n) (ne : m.frm ≠ x.id) (k : Int) (y : Bool) (i : Int) : Says x x.term (back x m k y i) :=
  ⟨rfl, ne, hf.1, hf.2, by show ([] : List Item).length ≤ 3; simp, rfl⟩
theorem kind_says {x : Node} (r : Right x) {m : Msg} (hf : inB m.frm 1 x.n) (ne : m.frm ≠ x.id) : ∀ b ∈ (byKind x m).2, Says x x.term b := by
  intro b hb
  unfold byKind at hb
  split at hb
  · unfold onVote at hb
    split at hb
    · rw [List.mem_singleton.1 hb]; exact back_says hf ne _ _ _
    · rw [List.mem_singleton.1 hb]; exact back_says hf ne _ _ _
  · split at hb
    · unfold onVoted at hb
      split at hb
      · cases hb
      · rename_i h
        have hr : x.role = 2 := Classical.byContradiction (fun q => h (.inl q))
        have h := elect_says (right_voters r hr m.frm) hr b hb
        exact ⟨h.frm, h.dest, h.to1, h.toN, h.items, h.term⟩
    · split at hb
      · unfold onAppend at hb
        split at hb
        · rw [List.mem_singleton.1 hb]; exact back_says hf ne _ _ _
        · split at hb
          · rw [List.mem_singleton.1 hb]; exact back_says hf ne _ _ _
          · rw [List.mem_singleton.1 hb]; exact back_says hf ne _ _ _
      · unfold onAppended at hb
        split at hb
        · cases hb
        · split at hb
          · simp only [] at hb
            split at hb
            · rw [List.mem_singleton.1 hb]
              have h := batch_says (x := sure (heardYes x m)) (d := m.frm) hf ne
              exact ⟨h.frm, h.dest, h.to1, h.toN, h.items, h.term⟩
            · cases hb
          · rw [List.mem_singleton.1 hb]
            have h := batch_says (x := heardNo x m) (d := m.frm) hf ne
            exact ⟨h.frm, h.dest, h.to1, h.toN, h.items, h.term⟩
theorem receive_says {x : Node} (r : Right x) (m : Msg) : ∀ b ∈ (receive x m).2, Says x (receive x m).1.term b := by
  unfold receive
  split
  · intro b hb
    cases hb
  · rename_i hc
    have hl : ¬ Lost x m := fun q => hc (.inr q)
    unfold Lost at hl
    obtain ⟨l1, l2, l3, l4, l5, _⟩ := Classical.not_not.1 hl
    obtain ⟨b1, b2, _⟩ := bump_same x m.term
    intro b hb
    rw [kind_term]
    have h := kind_says (right_bump r l5) (by rw [b2]; exact l2) (by rw [b1]; exact l3) b hb
    exact ⟨by rw [← b1]; exact h.frm, by rw [← b1]; exact h.dest, h.to1, by rw [← b2]; exact h.toN, h.items, h.term⟩
theorem wrong_quiet {x : Node} (h : wrongN x ≠ 0) (m : Msg) (cmd : Int) : (timeout x).2 = [] ∧ (beat x).2 = [] ∧ (propose x cmd).2.1 = [] ∧ (receive x m).2 = [] := by
  refine ⟨?_, ?_, ?_, ?_⟩
  · unfold timeout; rw [if_pos (.inl h)]
  · unfold beat; rw [if_pos (.inl h)]
  · unfold propose; rw [if_pos (.inl h)]
  · unfold receive; rw [if_pos (.inl h)]

/-- what stands in a log behind a message's items -/
theorem taken_at {log xs : List Item} {i : Nat} (hi : i ≤ log.length) {j : Nat} {z : Item} (hz : xs[j]? = some z) : ∃ y, (taken log i xs)[i + j]? = some y ∧ y.1 = z.1 := by
  obtain ⟨h1, h2⟩ := held_bound log xs i hi
  have hh := held_le log xs i
  have hj := (List.getElem?_eq_some_iff.1 hz).1
  unfold taken
  by_cases hlt : held log i xs < xs.length
  · rw [if_pos hlt]
    by_cases hjh : j < held log i xs
    · obtain ⟨y, z', y1, z1, e⟩ := h2 j hjh
      rw [hz] at z1
      cases z1
      refine ⟨y, ?_, e⟩
      rw [List.getElem?_append_left (by rw [List.length_take]; omega), List.getElem?_take_of_lt (by omega)]
      exact y1
    · refine ⟨z, ?_, rfl⟩
      rw [List.getElem?_append_right (by rw [List.length_take]; omega), List.length_take, Nat.min_eq_left h1, List.getElem?_drop]
      rw [show held log i xs + (i + j - (i + held log i xs)) = j by omega]
      exact hz
  · rw [if_neg hlt]
    obtain ⟨y, z', y1, z1, e⟩ := h2 j (by omega)
    rw [hz] at z1
    cases z1
    exact ⟨y, y1, e⟩
theorem taken_pre {log xs : List Item} {i : Nat} (hi : i ≤ log.length) : (taken log i xs).take i = log.take i := by
  obtain ⟨h1, _⟩ := held_bound log xs i hi
  unfold taken
  split
  · rw [List.take_append_of_le_length (by rw [List.length_take]; omega), List.take_take, Nat.min_eq_left (by omega)]
  · rfl
/-- WHO AGREES HAS WHAT WAS SENT -/
theorem whole {x : Node} {m : Msg} (hk : m.kind = 3) {b : Msg} (hb : (receive x m).2 = [b]) (hy : b.yes = true) :
    0 ≤ m.index ∧ b.index = m.index + (m.items.length : Int) ∧ b.index ≤ ((receive x m).1.log.length : Int) ∧ m.index ≤ (x.log.length : Int) ∧ (∀ (j : Nat) z, m.items[j]? = some z → ∃ y, (receive x m).1.log[m.index.toNat + j]? = some y ∧ y.1 = z.1) ∧
    (receive x m).1.log.take m.index.toNat = x.log.take m.index.toNat ∧ (m.index = 0 ∨ atN (receive x m).1.log m.index.toNat = m.logTerm) := by
  unfold receive at *
  split at hb
  · cases hb
  · rename_i hc
    rw [if_neg hc]
    have hl : ¬ Lost x m := fun q => hc (.inr q)
    unfold Lost at hl
    obtain ⟨l1, l2, l3, l4, l5, l6, l7, l8, l9, l10, l11⟩ := Classical.not_not.1 hl
    obtain ⟨b1, b2, b3, _⟩ := bump_same x m.term
    unfold inB at l6
    unfold byKind at *
    rw [if_neg (by omega), if_neg (by omega), if_pos hk] at hb ⊢
    unfold onAppend at *
    split at hb
    · cases hb
      cases hy
    · rename_i h1
      rw [if_neg h1]
      split at hb
      · rename_i hf
        rw [if_pos hf]
        obtain ⟨f1, f2⟩ := hf
        rw [b3] at f1 f2
        have hi : m.index.toNat ≤ x.log.length := by omega
        cases hb
        have el : (takenBy (follow (bump x m.term) m.frm) m).log = taken x.log m.index.toNat m.items := by
          show taken (bump x m.term).log m.index.toNat m.items = _
          rw [b3]
        obtain ⟨t1, _, _⟩ := taken_len x.log m.index.toNat m.items hi
        refine ⟨l6.1, rfl, ?_, by omega, ?_, ?_, ?_⟩
        · show m.index + (m.items.length : Int) ≤ ((takenBy (follow (bump x m.term) m.frm) m).log.length : Int)
          rw [el]
          omega
        · intro j z hz
          show ∃ y, (takenBy (follow (bump x m.term) m.frm) m).log[m.index.toNat + j]? = some y ∧ y.1 = z.1
          rw [el]
          exact taken_at hi hz
        · show (takenBy (follow (bump x m.term) m.frm) m).log.take m.index.toNat = _
          rw [el]
          exact taken_pre hi
        · rcases f2 with q | q
          · exact .inl q
          · refine .inr ?_
            show atN (takenBy (follow (bump x m.term) m.frm) m).log m.index.toNat = m.logTerm
            rw [el]
            have e := taken_pre (xs := m.items) hi
            have a1 := atN_pre (take_is_pre (taken x.log m.index.toNat m.items) m.index.toNat) (i := m.index.toNat) (by rw [List.length_take]; omega)
            have a2 := atN_pre (take_is_pre x.log m.index.toNat) (i := m.index.toNat) (by rw [List.length_take]; omega)
            rw [a1, e, ← a2]
            exact q
      · cases hb
        cases hy
end Go.Proofs.Ytjgpbahjiacjcaa.Rf

namespace Go.Proofs.Ytjgpbahjiacjcaa.Rf
theorem live_role : (timeout (start 1 3)).1.role = 2 := by decide
theorem live_term : (timeout (start 1 3)).1.term = 1 := by decide
theorem live_len : (timeout (start 1 3)).2.length = 2 := by decide
theorem live_at : ∃ m, (timeout (start 1 3)).2[1]? = some m ∧ m.dest = 3 := ⟨voteMsg (asks (start 1 3)) 3, by rfl, by rfl⟩
theorem nsame_elect (x : Node) : (elect x).1.id = x.id ∧ (elect x).1.n = x.n := by unfold elect; split <;> exact ⟨rfl, rfl⟩
theorem nsame_timeout (x : Node) : (timeout x).1.id = x.id ∧ (timeout x).1.n = x.n := by
  unfold timeout
  split
  · exact ⟨rfl, rfl⟩
  · exact nsame_elect (asks x)
theorem nsame_beat (x : Node) : (beat x).1.id = x.id ∧ (beat x).1.n = x.n := by unfold beat; split <;> exact ⟨rfl, rfl⟩
theorem nsame_propose (x : Node) (c : Int) : (propose x c).1.id = x.id ∧ (propose x c).1.n = x.n := by unfold propose; split <;> exact ⟨rfl, rfl⟩
theorem nsame_restart (x : Node) : (restart x).id = x.id ∧ (restart x).n = x.n := by unfold restart; split <;> exact ⟨rfl, rfl⟩
theorem nsame_receive (x : Node) (m : Msg) : (receive x m).1.id = x.id ∧ (receive x m).1.n = x.n := by
  unfold receive
  split
  · exact ⟨rfl, rfl⟩
  · have h := bump_same x m.term
    generalize bump x m.term = y at h ⊢
    have k : (byKind y m).1.id = y.id ∧ (byKind y m).1.n = y.n := by
      unfold byKind
      split
      · unfold onVote; split <;> exact ⟨rfl, rfl⟩
      · split
        · unfold onVoted; split
          · exact ⟨rfl, rfl⟩
          · exact nsame_elect _
        · split
          · unfold onAppend; split
            · exact ⟨rfl, rfl⟩
            · split <;> exact ⟨rfl, rfl⟩
          · unfold onAppended; split
            · exact ⟨rfl, rfl⟩
            · split <;> exact ⟨rfl, rfl⟩
    exact ⟨k.1.trans h.1, k.2.trans h.2.1⟩
theorem all_right {x : Node} (h : wrongN x = 0) (m : Msg) (c : Int) : ∀ y ∈ allN x m c, wrongN y = 0 ∧ y.id = x.id ∧ y.n = x.n := by
  have r := (wrongN_ok x).1 h
  intro y hy
  simp only [allN, List.mem_cons, List.not_mem_nil, or_false] at hy
  rcases hy with rfl | rfl | rfl | rfl | rfl
  · exact ⟨(wrongN_ok _).2 (right_timeout r), nsame_timeout x⟩
  · exact ⟨(wrongN_ok _).2 (right_beat r), nsame_beat x⟩
  · exact ⟨(wrongN_ok _).2 (right_propose r c), nsame_propose x c⟩
  · exact ⟨(wrongN_ok _).2 (right_receive r m), nsame_receive x m⟩
  · exact ⟨(wrongN_ok _).2 (right_restart r), nsame_restart x⟩
theorem allN_len (x : Node) (m : Msg) (c : Int) : (allN x m c).length = 5 := rfl

end Go.Proofs.Ytjgpbahjiacjcaa.Rf

namespace Go.Proofs.Ytjgpbahjiacjcaa
open Go.RowKit

set_option maxHeartbeats 2000000 in
theorem alive15_any {Fit : Rf.Node → Prop} {FitM : Rf.Msg → Prop} (R : RC Fit FitM) (hs : Fit (Rf.start 1 3)) (w : World) : Calls Try.prog 8 #[] w fun e w' => e = .returned (.bool true) ∧ Below w.heap.size w w' := by
  have HR := hide R
  have HS := hide hs
  clear R hs
  go_enter Try.func8, Try.ntmps8
  go_wp2_with fail
  with_reducible refine ((unhide HR).start 1 3 _).mono ?_
  rintro e w1 ⟨v1, rfl, hN, hb1⟩
  have C := hide ((unhide HR).timeout (fun b => False ∨ Fresh w w1 b) (Rf.start 1 3) v1 w1 hN (fun b hb => hb.elim (fun q => q.elim) (fun q => q.2)) (unhide HS))
  obtain ⟨a01, n01, c01, a02, n02, c02, a03, n03, c03, a04, n04, c04, rfl⟩ := hN.cells
  have HB1 := hide hb1
  clear hN hb1
  go_wp2_with fail
  with_reducible refine (unhide C).mono ?_
  rintro e w2 ⟨v2, mv, rfl, hN2, hM2, hb2⟩
  obtain ⟨a11, n11, c11, a12, n12, c12, a13, n13, c13, a14, n14, c14, rfl⟩ := hN2.cells
  obtain ⟨m, hm1, hm2⟩ := Rf.live_at
  obtain ⟨b, off, cap, rfl, hbb, hcap, _⟩ := hM2.ex (by intro e; have := Rf.live_len; rw [e] at this; cases this)
  obtain ⟨iv, _, hc⟩ := hM2.at hm1
  have c2 := hc 2 (.int .i64 m.dest) rfl
  rw [hm2] at c2
  rw [Rf.live_len] at *
  have hr := Rf.live_role
  have ht := Rf.live_term
  generalize (Rf.timeout (Rf.start 1 3)).1 = y at *
  obtain ⟨yid, yn, yterm, yvote, ylog, ycommit, yrole, yboss, yvotes, ynext, ymtch⟩ := y
  simp only at *
  subst hr ht
  have hblt : b < w2.heap.size := hbb.2
  have hne : b ≠ w2.heap.size := by omega
  have HB2 := hide (below_via (below_via (unhide HB1) hb2) (below_new w2 (.cells #[.int .i64 yid, .int .i64 yn, .int .i64 1, .int .i64 yvote, .slice a11 n11 c11, .int .i64 ycommit, .int .i64 2, .int .i64 yboss, .slice a12 n12 c12, .slice a13 n13 c13, .slice a14 n14 c14] 25)))
  clear hN2 hM2 hb2 C hc hm1 hbb
  go_wp2
  go_ret
  exact ⟨rfl, unhide HB2⟩
theorem NsV.row {P : Nat → Prop} {w : World} {b off cap n : Nat} {l : List Rf.Node} (h : NsV P w (.slice (some ⟨b, off, none⟩) n cap) l) {i : Nat} {y : Rf.Node} (hy : l[i]? = some y) : ∃ (a1 : Option Addr) (n1 c1 : Nat) (a2 : Option Addr) (n2 c2 : Nat) (a3 : Option Addr) (n3 c3 : Nat) (a4 : Option Addr) (n4 c4 : Nat), NV P w #[.int .i64 y.id, .int .i64 y.n, .int .i64 y.term, .int .i64 y.vote, .slice a1 n1 c1, .int .i64 y.commit, .int .i64 y.role, .int .i64 y.boss, .slice a2 n2 c2, .slice a3 n3 c3, .slice a4 n4 c4] y ∧ w.cell? ⟨b, off + i * 11, none⟩ = some (.int .i64 y.id) ∧ w.cell? ⟨b, off + i * 11 + 1, none⟩ = some (.int .i64 y.n) ∧ w.cell? ⟨b, off + i * 11 + 2, none⟩ = some (.int .i64 y.term) ∧ w.cell? ⟨b, off + i * 11 + 3, none⟩ = some (.int .i64 y.vote) ∧ w.cell? ⟨b, off + i * 11 + 4, none⟩ = some (.slice a1 n1 c1) ∧ w.cell? ⟨b, off + i * 11 + 5, none⟩ = some (.int .i64 y.commit) ∧ w.cell? ⟨b, off + i * 11 + 6, none⟩ = some (.int .i64 y.role) ∧ w.cell? ⟨b, off + i * 11 + 7, none⟩ = some (.int .i64 y.boss) ∧ w.cell? ⟨b, off + i * 11 + 8, none⟩ = some (.slice a2 n2 c2) ∧ w.cell? ⟨b, off + i * 11 + 9, none⟩ = some (.slice a3 n3 c3) ∧ w.cell? ⟨b, off + i * 11 + 10, none⟩ = some (.slice a4 n4 c4) := by
  obtain ⟨v, hN, hc⟩ := h.at hy
  obtain ⟨a1, n1, c1, a2, n2, c2, a3, n3, c3, a4, n4, c4, rfl⟩ := hN.cells
  exact ⟨a1, n1, c1, a2, n2, c2, a3, n3, c3, a4, n4, c4, hN, hc 0 _ rfl, hc 1 _ rfl, hc 2 _ rfl, hc 3 _ rfl, hc 4 _ rfl, hc 5 _ rfl, hc 6 _ rfl, hc 7 _ rfl, hc 8 _ rfl, hc 9 _ rfl, hc 10 _ rfl⟩

set_option maxHeartbeats 4000000 in
set_option maxRecDepth 100000 in
theorem right_walk {Fit : Rf.Node → Prop} {FitM : Rf.Msg → Prop} (R : RC Fit FitM) (hf : ∀ y, Rf.wrongN y = 0 → Fit y) (x : Rf.Node) (v : Array Value) (m : Rf.Msg) (g : Array Value) (c : Int) (w : World) (hx : Nv w v x) (hm : Gv w g m) (fx : Fit x) (fm : FitM m) :
    Calls Try.prog 3 #[.agg v, .agg g, .int .i64 c] w fun e w' => e = .returned (.bool true) ∧ Below w.heap.size w w' := by
  have HX := hide hx
  have HM := hide hm
  have HR := hide R
  have HF := hide hf
  have CAl := hide (fun wx => alive15_any R (hf _ (by decide)) wx)
  have CW := hide (fun wx (hb : Below w.heap.size w wx) => R.wrong x v wx (hx.keep (kept hb)) fx)
  have CA := hide (fun wx (hb : Below w.heap.size w wx) => all_any R x v m g c wx (hx.keep (kept hb)) (hm.keep (kept hb)) fx fm)
  obtain ⟨a01, n01, c01, a02, n02, c02, a03, n03, c03, a04, n04, c04, rfl⟩ := hx.cells
  obtain ⟨iv, rfl, hI⟩ := hm
  obtain ⟨ia, ic, rfl, _⟩ := SC.shape hI
  clear hI hx R hf
  obtain ⟨U0, hU0⟩ : ∃ U0, U0 = (w.alloc (.cells #[.int .i64 x.id, .int .i64 x.n, .int .i64 x.term, .int .i64 x.vote, .slice a01 n01 c01, .int .i64 x.commit, .int .i64 x.role, .int .i64 x.boss, .slice a02 n02 c02, .slice a03 n03 c03, .slice a04 n04 c04] 25)).alloc (.cells #[.int .i64 m.kind, .int .i64 m.frm, .int .i64 m.dest, .int .i64 m.term, .int .i64 m.index, .int .i64 m.logTerm, .int .i64 m.commit, .slice ia m.items.length ic, .bool m.yes] 27) := ⟨_, rfl⟩
  have HB : Hid (Below w.heap.size w U0) := hide (by rw [hU0]; exact (below_new _ _).alloc (by simp) _)
  have X0 : Hid (BK U0 w.heap.size 25 #[.int .i64 x.id, .int .i64 x.n, .int .i64 x.term, .int .i64 x.vote, .slice a01 n01 c01, .int .i64 x.commit, .int .i64 x.role, .int .i64 x.boss, .slice a02 n02 c02, .slice a03 n03 c03, .slice a04 n04 c04]) := hide (by rw [hU0]; exact (BK.new w _ _).keep (below_new _ _))
  have G0 : Hid (BK U0 (w.heap.size + 1) 27 #[.int .i64 m.kind, .int .i64 m.frm, .int .i64 m.dest, .int .i64 m.term, .int .i64 m.index, .int .i64 m.logTerm, .int .i64 m.commit, .slice ia m.items.length ic, .bool m.yes]) := hide (by
    rw [hU0]
    have := BK.new (w.alloc (.cells #[.int .i64 x.id, .int .i64 x.n, .int .i64 x.term, .int .i64 x.vote, .slice a01 n01 c01, .int .i64 x.commit, .int .i64 x.role, .int .i64 x.boss, .slice a02 n02 c02, .slice a03 n03 c03, .slice a04 n04 c04] 25)) 27 #[.int .i64 m.kind, .int .i64 m.frm, .int .i64 m.dest, .int .i64 m.term, .int .i64 m.index, .int .i64 m.logTerm, .int .i64 m.commit, .slice ia m.items.length ic, .bool m.yes]
    simpa using this)
  go_enter Try.func3, Try.ntmps3
  go_wp2_with fail
  rw [← hU0]
  clear hU0
  with_reducible refine (unhide CAl _).mono ?_
  rintro e w1 ⟨rfl, hb⟩
  replace HB := hide (below_via (unhide HB) hb)
  replace X0 := hide ((unhide X0).keep hb)
  replace G0 := hide ((unhide G0).keep hb)
  obtain ⟨q0, q1, q2, q3, q4, q5, q6, q7, q8, q9, q10⟩ := (show NX w1 w.heap.size _ _ _ _ _ _ _ _ _ _ _ from unhide X0).tell
  clear hb CAl
  have C := hide (unhide CW w1 (unhide HB))
  go_wp2_with fail
  with_reducible refine (unhide C).mono ?_
  rintro e w2 ⟨rfl, hb⟩
  replace HB := hide (below_via (unhide HB) hb)
  replace X0 := hide ((unhide X0).keep hb)
  replace G0 := hide ((unhide G0).keep hb)
  clear q0 q1 q2 q3 q4 q5 q6 q7 q8 q9 q10 C CW hb
  obtain ⟨q0, q1, q2, q3, q4, q5, q6, q7, q8, q9, q10⟩ := (show NX w2 w.heap.size _ _ _ _ _ _ _ _ _ _ _ from unhide X0).tell
  obtain ⟨p0, p1, p2, p3, p4, p5, p6, p7, p8⟩ := (show GX w2 (w.heap.size + 1) _ _ _ _ _ _ _ _ _ from unhide G0).tell
  by_cases h0 : Rf.wrongN x = 0
  case neg =>
    clear CA
    go_wp2
    go_ret
    exact ⟨rfl, unhide HB⟩
  have HA := hide (Rf.all_right h0 m c)
  have HL := hide (Rf.allN_len x m c)
  rw [h0]
  clear h0
  have C := hide (unhide CA w2 (unhide HB))
  clear CA
  go_wp2_with fail
  with_reducible refine (unhide C).mono ?_
  rintro e w3 ⟨nv, mv, rfl, hN, hM, hb⟩
  generalize Rf.allN x m c = xs at *
  obtain ⟨b, off, cap, rfl, hblt, hcap, hcap2⟩ := hN.ex (by intro e; have := unhide HL; rw [e] at this; cases this)
  rw [unhide HL] at hcap
  rw [unhide HL]
  have HN : Hid (NsV (· < w3.heap.size) w3 (.slice (some ⟨b, off, none⟩) 5 cap) xs) := hide (by rw [unhide HL] at hN; exact hN)
  replace HB := hide (below_via (unhide HB) hb)
  replace X0 := hide ((unhide X0).keep hb)
  clear q0 q1 q2 q3 q4 q5 q6 q7 q8 q9 q10 C hb hN hM p0 p1 p2 p3 p4 p5 p6 p7 p8 G0
  go_wp2_with fail
  go_loopw [25] (fun i wr => ∃ k : Nat, k ≤ 5 ∧ i = .int .i64 (k : Int) ∧ Hid (Below w3.heap.size w3 wr)) (fun i _ => 5 - (intOf i).toNat)
  case atStart => exact ⟨0, Nat.zero_le _, rfl, hide (Below.refl _ _)⟩
  case round =>
    obtain ⟨k, hk, rfl, HW⟩ := hrel
    by_cases hlt : k < 5
    · have hi1 : (k : Int) < 5 := by omega
      obtain ⟨y, hy⟩ : ∃ y, xs[k]? = some y := ⟨_, List.getElem?_eq_getElem (by rw [unhide HL]; exact hlt)⟩
      obtain ⟨e0, e1, e2⟩ := unhide HA y (List.mem_of_getElem? hy)
      have E1 := hide e1
      have E2 := hide e2
      clear e1 e2
      obtain ⟨a1, n1, c1, a2, n2, c2, a3, n3, c3, a4, n4, c4, hNy, d0, d1, d2, d3, d4, d5, d6, d7, d8, d9, d10⟩ := (NsV.keep (kept (unhide HW)) (unhide HN)).row hy
      obtain ⟨U1, hU1⟩ : ∃ U, U = wr.alloc (.cells #[.int .i64 y.id, .int .i64 y.n, .int .i64 y.term, .int .i64 y.vote, .slice a1 n1 c1, .int .i64 y.commit, .int .i64 y.role, .int .i64 y.boss, .slice a2 n2 c2, .slice a3 n3 c3, .slice a4 n4 c4] 25) := ⟨_, rfl⟩
      have bn : Below wr.heap.size wr U1 := by rw [hU1]; exact below_new _ _
      have CY := hide ((unhide HR).wrong y _ U1 (hNy.keep (kept bn)) (unhide HF y e0))
      rw [e0] at CY
      clear e0
      have XY : Hid (BK U1 wr.heap.size 25 #[.int .i64 y.id, .int .i64 y.n, .int .i64 y.term, .int .i64 y.vote, .slice a1 n1 c1, .int .i64 y.commit, .int .i64 y.role, .int .i64 y.boss, .slice a2 n2 c2, .slice a3 n3 c3, .slice a4 n4 c4]) := hide (by rw [hU1]; exact BK.new _ _ _)
      have HW1 := hide (below_via (unhide HW) bn)
      clear hNy bn hy
      obtain ⟨t0, t1, t2, t3, t4, t5, t6, t7, t8, t9, t10⟩ := (show NX U1 wr.heap.size _ _ _ _ _ _ _ _ _ _ _ from unhide XY).tell
      go_upto_region 9 with fail
      rw [← hU1]
      clear hU1
      go_wp2_with fail
      with_reducible refine (unhide CY).mono ?_
      rintro e w4 ⟨rfl, hb⟩
      replace XY := hide ((unhide XY).keep hb)
      have HW2 := hide (below_via (unhide HW1) hb)
      clear d0 d1 d2 d3 d4 d5 d6 d7 d8 d9 d10 t0 t1 t2 t3 t4 t5 t6 t7 t8 t9 t10 CY hb
      obtain ⟨t0, t1, t2, t3, t4, t5, t6, t7, t8, t9, t10⟩ := (show NX w4 wr.heap.size _ _ _ _ _ _ _ _ _ _ _ from unhide XY).tell
      obtain ⟨q0, q1, q2, q3, q4, q5, q6, q7, q8, q9, q10⟩ := (show NX w4 w.heap.size _ _ _ _ _ _ _ _ _ _ _ from (unhide X0).keep (unhide HW2)).tell
      rw [unhide E1] at t0
      rw [unhide E2] at t1
      go_wp2
      go_roundw
      case rel => exact ⟨k + 1, by omega, by go_num, HW2⟩
      case measure => simp [intOf]; omega
    · obtain rfl : k = 5 := by omega
      go_wp2
      go_ret
      exact ⟨rfl, below_via (unhide HB) (unhide HW)⟩

end Go.Proofs.Ytjgpbahjiacjcaa

namespace Go.Proofs.Ytjgpbahjiacjcaa.Rf
theorem all_later (x : Node) (m : Msg) (c : Int) : ∀ y ∈ allN x m c, Later x y := by
  intro y hy
  simp only [allN, List.mem_cons, List.not_mem_nil, or_false] at hy
  rcases hy with rfl | rfl | rfl | rfl | rfl
  · exact later_timeout x
  · exact later_beat x
  · exact later_propose x c
  · exact later_receive x m
  · exact later_restart x

end Go.Proofs.Ytjgpbahjiacjcaa.Rf

namespace Go.Proofs.Ytjgpbahjiacjcaa
open Go.RowKit

set_option maxHeartbeats 4000000 in
set_option maxRecDepth 100000 in
theorem votes_walk {Fit : Rf.Node → Prop} {FitM : Rf.Msg → Prop} (R : RC Fit FitM) (hf : ∀ y, Rf.wrongN y = 0 → Fit y) (x : Rf.Node) (v : Array Value) (m : Rf.Msg) (g : Array Value) (c : Int) (w : World) (hx : Nv w v x) (hm : Gv w g m) (fx : Fit x) (fm : FitM m) :
    Calls Try.prog 4 #[.agg v, .agg g, .int .i64 c] w fun e w' => e = .returned (.bool true) ∧ Below w.heap.size w w' := by
  have HX := hide hx
  have HM := hide hm
  have HR := hide R
  have HF := hide hf
  have HFx := hide (And.intro fx fm)
  have CAl := hide (fun wx => alive15_any R (hf _ (by decide)) wx)
  have CA := hide (fun wx (hb : Below w.heap.size w wx) => all_any R x v m g c wx (hx.keep (kept hb)) (hm.keep (kept hb)) fx fm)
  obtain ⟨a01, n01, c01, a02, n02, c02, a03, n03, c03, a04, n04, c04, rfl⟩ := hx.cells
  obtain ⟨iv, rfl, hI⟩ := hm
  obtain ⟨ia, ic, rfl, _⟩ := SC.shape hI
  clear hI hx R hf fx fm
  obtain ⟨U0, hU0⟩ : ∃ U0, U0 = (w.alloc (.cells #[.int .i64 x.id, .int .i64 x.n, .int .i64 x.term, .int .i64 x.vote, .slice a01 n01 c01, .int .i64 x.commit, .int .i64 x.role, .int .i64 x.boss, .slice a02 n02 c02, .slice a03 n03 c03, .slice a04 n04 c04] 25)).alloc (.cells #[.int .i64 m.kind, .int .i64 m.frm, .int .i64 m.dest, .int .i64 m.term, .int .i64 m.index, .int .i64 m.logTerm, .int .i64 m.commit, .slice ia m.items.length ic, .bool m.yes] 27) := ⟨_, rfl⟩
  have HB : Hid (Below w.heap.size w U0) := hide (by rw [hU0]; exact (below_new _ _).alloc (by simp) _)
  have X0 : Hid (BK U0 w.heap.size 25 #[.int .i64 x.id, .int .i64 x.n, .int .i64 x.term, .int .i64 x.vote, .slice a01 n01 c01, .int .i64 x.commit, .int .i64 x.role, .int .i64 x.boss, .slice a02 n02 c02, .slice a03 n03 c03, .slice a04 n04 c04]) := hide (by rw [hU0]; exact (BK.new w _ _).keep (below_new _ _))
  have G0 : Hid (BK U0 (w.heap.size + 1) 27 #[.int .i64 m.kind, .int .i64 m.frm, .int .i64 m.dest, .int .i64 m.term, .int .i64 m.index, .int .i64 m.logTerm, .int .i64 m.commit, .slice ia m.items.length ic, .bool m.yes]) := hide (by
    rw [hU0]
    have := BK.new (w.alloc (.cells #[.int .i64 x.id, .int .i64 x.n, .int .i64 x.term, .int .i64 x.vote, .slice a01 n01 c01, .int .i64 x.commit, .int .i64 x.role, .int .i64 x.boss, .slice a02 n02 c02, .slice a03 n03 c03, .slice a04 n04 c04] 25)) 27 #[.int .i64 m.kind, .int .i64 m.frm, .int .i64 m.dest, .int .i64 m.term, .int .i64 m.index, .int .i64 m.logTerm, .int .i64 m.commit, .slice ia m.items.length ic, .bool m.yes]
    simpa using this)
  go_enter Try.func4, Try.ntmps4
  go_wp2_with fail
  rw [← hU0]
  clear hU0
  with_reducible refine (unhide CAl _).mono ?_
  rintro e w1 ⟨rfl, hb⟩
  replace HB := hide (below_via (unhide HB) hb)
  replace X0 := hide ((unhide X0).keep hb)
  replace G0 := hide ((unhide G0).keep hb)
  clear hb CAl
  obtain ⟨q0, q1, q2, q3, q4, q5, q6, q7, q8, q9, q10⟩ := (show NX w1 w.heap.size _ _ _ _ _ _ _ _ _ _ _ from unhide X0).tell
  obtain ⟨p0, p1, p2, p3, p4, p5, p6, p7, p8⟩ := (show GX w1 (w.heap.size + 1) _ _ _ _ _ _ _ _ _ from unhide G0).tell
  have HA := hide (Rf.all_later x m c)
  have HL := hide (Rf.allN_len x m c)
  have C := hide (unhide CA w1 (unhide HB))
  go_wp2_with fail
  with_reducible refine (unhide C).mono ?_
  rintro e w3 ⟨nv, mv, rfl, hN, hM, hb⟩
  generalize Rf.allN x m c = xs at *
  obtain ⟨b, off, cap, rfl, hblt, hcap, hcap2⟩ := hN.ex (by intro e; have := unhide HL; rw [e] at this; cases this)
  rw [unhide HL] at hcap
  rw [unhide HL]
  have HN : Hid (NsV (· < w3.heap.size) w3 (.slice (some ⟨b, off, none⟩) 5 cap) xs) := hide (by rw [unhide HL] at hN; exact hN)
  replace HB := hide (below_via (unhide HB) hb)
  replace X0 := hide ((unhide X0).keep hb)
  clear q0 q1 q2 q3 q4 q5 q6 q7 q8 q9 q10 p0 p1 p2 p3 p4 p5 p6 p7 p8 C CA hb hN hM G0
  go_wp2_with fail
  go_loopw [22] (fun i wr => ∃ k : Nat, k ≤ 5 ∧ i = .int .i64 (k : Int) ∧ Hid (Below w3.heap.size w3 wr)) (fun i _ => 5 - (intOf i).toNat)
  case atStart => exact ⟨0, Nat.zero_le _, rfl, hide (Below.refl _ _)⟩
  case round =>
    obtain ⟨k, hk, rfl, HW⟩ := hrel
    by_cases hlt : k < 5
    · have hi1 : (k : Int) < 5 := by omega
      obtain ⟨y, hy⟩ : ∃ y, xs[k]? = some y := ⟨_, List.getElem?_eq_getElem (by rw [unhide HL]; exact hlt)⟩
      have E := hide (unhide HA y (List.mem_of_getElem? hy))
      obtain ⟨a1, n1, c1, a2, n2, c2, a3, n3, c3, a4, n4, c4, hNy, d0, d1, d2, d3, d4, d5, d6, d7, d8, d9, d10⟩ := (NsV.keep (kept (unhide HW)) (unhide HN)).row hy
      obtain ⟨U1, hU1⟩ : ∃ U, U = wr.alloc (.cells #[.int .i64 y.id, .int .i64 y.n, .int .i64 y.term, .int .i64 y.vote, .slice a1 n1 c1, .int .i64 y.commit, .int .i64 y.role, .int .i64 y.boss, .slice a2 n2 c2, .slice a3 n3 c3, .slice a4 n4 c4] 25) := ⟨_, rfl⟩
      have bn : Below wr.heap.size wr U1 := by rw [hU1]; exact below_new _ _
      have XY : Hid (BK U1 wr.heap.size 25 #[.int .i64 y.id, .int .i64 y.n, .int .i64 y.term, .int .i64 y.vote, .slice a1 n1 c1, .int .i64 y.commit, .int .i64 y.role, .int .i64 y.boss, .slice a2 n2 c2, .slice a3 n3 c3, .slice a4 n4 c4]) := hide (by rw [hU1]; exact BK.new _ _ _)
      have HW1 := hide (below_via (unhide HW) bn)
      clear hNy bn hy
      go_upto_region 7 with fail
      rw [← hU1]
      clear hU1 d0 d1 d2 d3 d4 d5 d6 d7 d8 d9 d10
      obtain ⟨t0, t1, t2, t3, t4, t5, t6, t7, t8, t9, t10⟩ := (show NX U1 wr.heap.size _ _ _ _ _ _ _ _ _ _ _ from unhide XY).tell
      obtain ⟨q0, q1, q2, q3, q4, q5, q6, q7, q8, q9, q10⟩ := (show NX U1 w.heap.size _ _ _ _ _ _ _ _ _ _ _ from (unhide X0).keep (unhide HW1)).tell
      have f1 : ¬ y.term < x.term := by have := (unhide E).1; omega
      by_cases f2 : y.term = x.term
      · rw [f2] at t2 f1
        by_cases f3 : x.vote = 0
        · rw [f3] at q3
          clear f2
          go_wp2
          go_roundw
          case rel => exact ⟨k + 1, by omega, by go_num, HW1⟩
          case measure => simp [intOf]; omega
        · have f4 := (unhide E).2 f2.symm f3
          rw [f4] at t3
          clear f2 f4
          go_wp2
          go_roundw
          case rel => exact ⟨k + 1, by omega, by go_num, HW1⟩
          case measure => simp [intOf]; omega
      · go_wp2
        go_roundw
        case rel => exact ⟨k + 1, by omega, by go_num, HW1⟩
        case measure => simp [intOf]; omega
    · obtain rfl : k = 5 := by omega
      go_wp2
      go_ret
      exact ⟨rfl, below_via (unhide HB) (unhide HW)⟩

end Go.Proofs.Ytjgpbahjiacjcaa

namespace Go.Proofs.Ytjgpbahjiacjcaa
open Go.ChangeShapes Go.WideShapes Go.ChangeAt Go.RowKit Go.Joins

theorem cellsN : Try.prog.cellsOf 25 = 11 := by kernel_rfl
theorem cellsM : Try.prog.cellsOf 27 = 9 := by kernel_rfl
theorem cellsT : Try.prog.cellsOf 40 = 2 := by kernel_rfl
theorem cellsInt : Try.prog.cellsOf 3 = 1 := by kernel_rfl
theorem cellsBool : Try.prog.cellsOf 4 = 1 := by kernel_rfl
theorem cellsTs : Try.prog.cellsOf 22 = 1 := by kernel_rfl
theorem cellsIs : Try.prog.cellsOf 23 = 1 := by kernel_rfl
theorem bytesInt : Try.prog.bytesOf 3 = 8 := by kernel_rfl
theorem bytesT : Try.prog.bytesOf 40 = 16 := by kernel_rfl
theorem laidOutT : laidOutB Try.prog = true := by kernel_rfl
theorem cell_spotT {w : World} {a : Addr} {v : Value} (h : w.cell? a = some v) : a.spot = none := by
  unfold World.cell? at h
  split at h
  · by_cases e : a.spot.isSome = true
    · rw [if_pos e] at h; cases h
    · simpa using e
  · cases h
theorem cells1 {w : World} {base : Nat} {a : Addr} {cs : List Value} (h : w.cells? base a 1 = some cs) : a.spot = none ∧ a.block < w.heap.size ∧ ∃ c, cs = [c] ∧ w.cell? ⟨a.block, a.off, none⟩ = some c := by
  unfold World.cells? at h
  split at h
  case isFalse => cases h
  simp only [show List.range 1 = [0] from rfl, List.mapM_cons, List.mapM_nil, Option.bind_eq_bind, Option.pure_def, Option.bind_eq_some_iff] at h
  obtain ⟨c0, h0, r1, q1, hcs⟩ := h
  cases q1
  have hs : a.spot = none := by
    have := cell_spotT h0
    simpa [Addr.add] using this
  have hb : a.block < w.heap.size := by
    have := World.block_lt_of_cell? w _ h0
    simpa [Addr.add] using this
  obtain ⟨b, o, sp⟩ := a
  simp only at hs
  subst hs
  simp only [Option.some.injEq] at hcs
  subst hcs
  exact ⟨rfl, hb, c0, rfl, by simpa [Addr.add] using h0⟩
theorem cells2 {w : World} {base : Nat} {a : Addr} {cs : List Value} (h : w.cells? base a 2 = some cs) : a.spot = none ∧ a.block < w.heap.size ∧ ∃ c d, cs = [c, d] ∧ w.cell? ⟨a.block, a.off, none⟩ = some c ∧ w.cell? ⟨a.block, a.off + 1, none⟩ = some d := by
  unfold World.cells? at h
  split at h
  case isFalse => cases h
  simp only [show List.range 2 = [0, 1] from rfl, List.mapM_cons, List.mapM_nil, Option.bind_eq_bind, Option.pure_def, Option.bind_eq_some_iff] at h
  obtain ⟨c0, h0, r1, ⟨c1, h1, r2, q2, q1⟩, hcs⟩ := h
  cases q2
  cases q1
  have hs : a.spot = none := by
    have := cell_spotT h0
    simpa [Addr.add] using this
  have hb : a.block < w.heap.size := by
    have := World.block_lt_of_cell? w _ h0
    simpa [Addr.add] using this
  obtain ⟨b, o, sp⟩ := a
  simp only at hs
  subst hs
  simp only [Option.some.injEq] at hcs
  subst hcs
  exact ⟨rfl, hb, c0, c1, rfl, by simpa [Addr.add] using h0, by simpa [Addr.add] using h1⟩
theorem choose_listT {α : Type} {P : Nat → α → Prop} : ∀ (n : Nat), (∀ i, i < n → ∃ x, P i x) → ∃ l : List α, l.length = n ∧ ∀ i x, l[i]? = some x → P i x := by
  intro n
  induction n with
  | zero => intro _; exact ⟨[], rfl, fun i x h => by simp at h⟩
  | succ n ih =>
    intro h
    obtain ⟨l, hl, hp⟩ := ih (fun i hi => h i (by omega))
    obtain ⟨x, hx⟩ := h n (by omega)
    refine ⟨l ++ [x], by simp [hl], fun i y hy => ?_⟩
    rcases Nat.lt_or_ge i n with hi | hi
    · rw [List.getElem?_append_left (by omega)] at hy
      exact hp i y hy
    · rw [List.getElem?_append_right (by omega)] at hy
      have : i = n := by
        rcases Nat.eq_or_lt_of_le hi with e | e
        · exact e.symm
        · rw [List.getElem?_eq_none (by simp; omega)] at hy; cases hy
      subst this
      simp [hl] at hy
      rw [← hy]; exact hx
theorem ints_ex {l : List Int} {j : Nat} {u : Value} (h : (ints l)[j]? = some u) : ∃ x, l[j]? = some x ∧ u = .int .i64 x := by
  rw [ints, List.getElem?_map] at h
  cases e : l[j]? with
  | none => rw [e] at h; cases h
  | some x => rw [e] at h; cases h; exact ⟨x, rfl, rfl⟩
theorem its_ex : ∀ {l : List Rf.Item} {j : Nat} {u : Value}, (its l)[j]? = some u → ∃ x, l[j / 2]? = some x ∧ u = (if j % 2 = 0 then .int .i64 x.1 else .int .i64 x.2)
  | [], j, u, h => by simp [its] at h
  | y :: l, 0, u, h => by simp [its] at h; exact ⟨y, by simp, by simp [h]⟩
  | y :: l, 1, u, h => by simp [its] at h; exact ⟨y, by simp, by simp [h]⟩
  | y :: l, j + 2, u, h => by
    have e : its (y :: l) = [.int .i64 y.1, .int .i64 y.2] ++ its l := by simp [its]
    rw [e, List.getElem?_append_right (by simp)] at h
    obtain ⟨x, h1, h2⟩ := its_ex (l := l) (j := j) (by simpa using h)
    refine ⟨x, ?_, ?_⟩
    · rw [show (j + 2) / 2 = j / 2 + 1 by omega]
      simpa using h1
    · rw [show (j + 2) % 2 = j % 2 by omega]
      exact h2

section
variable {H : Type} {enc : TypeId × Value → H} {w : World} {base : Nat} {spare : Nat → Bool} {held : Bool}
set_option maxRecDepth 100000 in
theorem ints_of {fuel : Nat} {c : Value} {x : DataW H × List MemPlace} (h : DataW.trod enc Try.prog w base spare held fuel 23 [c] = some x) : ∃ l, Iv w c l ∧ ((∀ n ∈ x.1.weights Try.prog 23, n ≤ reachBytes) → l.length * 8 ≤ reachBytes) := by
  rcases DataW.trod_slice Try.underlying23 h with ⟨e5, _⟩ | ⟨a, len, cap, elems, rest, n', hn', e5, hx, _, hlc, hm, hel, hat, _⟩
  · simp at e5
    subst e5
    exact ⟨[], SC.nil _ _ _, fun _ => by simp⟩
  · simp at e5
    subst e5
    have each : ∀ i, i < len → ∃ z : Int, ∃ cs', w.cells? base (a.add (i * 1)) 1 = some cs' ∧ cs' = [.int .i64 z] := by
      intro i hi
      have := hat i hi
      rw [cellsInt, List.getElem?_eq_getElem (by omega), Option.bind_eq_some_iff] at this
      obtain ⟨cs', hc, ht2⟩ := this
      obtain ⟨z, e, _⟩ := DataW.trod_int Try.underlying3 ht2
      exact ⟨z, cs', hc, e⟩
    obtain ⟨l, hl, hp⟩ := choose_listT len each
    have hm' : cap ≤ 9223372036854775807 := by unfold maxLen at hm; omega
    have hb : (∀ n ∈ x.1.weights Try.prog 23, n ≤ reachBytes) → l.length * 8 ≤ reachBytes := by
      intro hw
      have := hw ((elems.length + rest.length) * 8) (by rw [hx]; simp [DataW.weights, Try.underlying23, bytesInt])
      omega
    refine ⟨l, ⟨by simp [ints], _, cap, by rw [hl], by omega, hm', fun hne => ?_⟩, hb⟩
    obtain ⟨_, cs0, hc0, _⟩ := each 0 (by omega)
    simp only [Nat.zero_mul] at hc0
    have h00 : a.add 0 = a := rfl
    rw [h00] at hc0
    obtain ⟨hsp, hblk, _⟩ := cells1 hc0
    obtain ⟨b, off, sp⟩ := a
    simp only at hsp hblk
    subst hsp
    refine ⟨b, off, rfl, hblk, fun j u hj => ?_⟩
    obtain ⟨z, hz, rfl⟩ := ints_ex hj
    obtain ⟨cs', hc, hM⟩ := hp j z hz
    rw [Nat.mul_one, Addr.add_lit] at hc
    obtain ⟨_, _, c, e1, e2⟩ := cells1 hc
    rw [hM] at e1
    rw [e2, ← (List.cons.inj e1).1]
set_option maxRecDepth 100000 in
theorem items_of {fuel : Nat} {c : Value} {x : DataW H × List MemPlace} (h : DataW.trod enc Try.prog w base spare held fuel 22 [c] = some x) : ∃ l, Tv w c l ∧ ((∀ n ∈ x.1.weights Try.prog 22, n ≤ reachBytes) → l.length * 16 ≤ reachBytes) := by
  rcases DataW.trod_slice Try.underlying22 h with ⟨e5, _⟩ | ⟨a, len, cap, elems, rest, n', hn', e5, hx, _, hlc, hm, hel, hat, _⟩
  · simp at e5
    subst e5
    exact ⟨[], SC.nil _ _ _, fun _ => by simp⟩
  · simp at e5
    subst e5
    have each : ∀ i, i < len → ∃ z : Rf.Item, ∃ cs', w.cells? base (a.add (i * 2)) 2 = some cs' ∧ cs' = [.int .i64 z.1, .int .i64 z.2] := by
      intro i hi
      have := hat i hi
      rw [cellsT, List.getElem?_eq_getElem (by omega), Option.bind_eq_some_iff] at this
      obtain ⟨cs', hc, ht2⟩ := this
      obtain ⟨xs, n, hn, hx, hl, hlen, hf⟩ := DataW.trod_struct Try.underlying40 ht2
      obtain ⟨_, _, c0, c1, rfl, _, _⟩ := cells2 hc
      have h0 := hf 0 _ rfl
      have h1 := hf 1 _ rfl
      simp [cellsInt] at h0 h1
      obtain ⟨y0, y1, rfl⟩ : ∃ y0 y1, xs = [y0, y1] := by
        match xs, hlen with
        | [y0, y1], _ => exact ⟨y0, y1, rfl⟩
      simp at h0 h1
      obtain ⟨z0, e0, _⟩ := DataW.trod_int Try.underlying3 h0
      obtain ⟨z1, e1, _⟩ := DataW.trod_int Try.underlying3 h1
      simp at e0 e1
      subst e0 e1
      exact ⟨(z0, z1), _, hc, rfl⟩
    obtain ⟨l, hl, hp⟩ := choose_listT len each
    have hm' : cap ≤ 9223372036854775807 := by unfold maxLen at hm; omega
    have hb : (∀ n ∈ x.1.weights Try.prog 22, n ≤ reachBytes) → l.length * 16 ≤ reachBytes := by
      intro hw
      have := hw ((elems.length + rest.length) * 16) (by rw [hx]; simp [DataW.weights, Try.underlying22, bytesT])
      omega
    refine ⟨l, ⟨its_len l, _, cap, by rw [hl], by omega, hm', fun hne => ?_⟩, hb⟩
    obtain ⟨_, cs0, hc0, _⟩ := each 0 (by omega)
    simp only [Nat.zero_mul] at hc0
    have h00 : a.add 0 = a := rfl
    rw [h00] at hc0
    obtain ⟨hsp, hblk, _⟩ := cells2 hc0
    obtain ⟨b, off, sp⟩ := a
    simp only at hsp hblk
    subst hsp
    refine ⟨b, off, rfl, hblk, fun j u hj => ?_⟩
    obtain ⟨z, hz, rfl⟩ := its_ex hj
    obtain ⟨cs', hc, hM⟩ := hp (j / 2) z hz
    rw [Addr.add_lit] at hc
    obtain ⟨_, _, c, d, e1, e2, e3⟩ := cells2 hc
    rw [hM] at e1
    simp only [List.cons.injEq, and_true] at e1
    obtain ⟨rfl, rfl⟩ := e1
    simp only at e2 e3
    split
    · rw [← e2]; congr 2; omega
    · rw [← e3]; congr 2; omega
set_option maxRecDepth 100000 in
theorem node_value {r : Reach} {b0 : Nat} {v : Value} {d : DataW H} {p : List MemPlace} (hv : Value.okWide Try.prog w r b0 25 v) (h : DataW.Trod enc Try.prog w base spare held 25 v d p) :
    ∃ (x : Rf.Node) (u : Array Value), v = .agg u ∧ Nv w u x ∧ ((∀ n ∈ d.weights Try.prog 25, n ≤ reachBytes) → x.log.length * 16 ≤ reachBytes ∧ x.votes.length * 8 ≤ reachBytes ∧ x.next.length * 8 ≤ reachBytes ∧ x.mtch.length * 8 ≤ reachBytes) := by
  obtain ⟨cs, rfl, hsz⟩ := okWide_struct Try.underlying25 hv
  obtain ⟨fuel, hf⟩ := h
  obtain ⟨xs, k, hk, hx, hl, hlen, hf⟩ := DataW.trod_struct Try.underlying25 hf
  rw [cellsN] at hl
  obtain ⟨z0, z1, z2, z3, z4, z5, z6, z7, z8, z9, z10, rfl⟩ : ∃ z0 z1 z2 z3 z4 z5 z6 z7 z8 z9 z10, cs = #[z0, z1, z2, z3, z4, z5, z6, z7, z8, z9, z10] := by
    obtain ⟨l⟩ := cs
    match l, hl with
    | [z0, z1, z2, z3, z4, z5, z6, z7, z8, z9, z10], _ => exact ⟨z0, z1, z2, z3, z4, z5, z6, z7, z8, z9, z10, rfl⟩
  obtain ⟨y0, y1, y2, y3, y4, y5, y6, y7, y8, y9, y10, rfl⟩ : ∃ y0 y1 y2 y3 y4 y5 y6 y7 y8 y9 y10, xs = [y0, y1, y2, y3, y4, y5, y6, y7, y8, y9, y10] := by
    match xs, hlen with
    | [y0, y1, y2, y3, y4, y5, y6, y7, y8, y9, y10], _ => exact ⟨y0, y1, y2, y3, y4, y5, y6, y7, y8, y9, y10, rfl⟩
  have h0 := hf 0 _ rfl
  have h1 := hf 1 _ rfl
  have h2 := hf 2 _ rfl
  have h3 := hf 3 _ rfl
  have h4 := hf 4 _ rfl
  have h5 := hf 5 _ rfl
  have h6 := hf 6 _ rfl
  have h7 := hf 7 _ rfl
  have h8 := hf 8 _ rfl
  have h9 := hf 9 _ rfl
  have h10 := hf 10 _ rfl
  simp [Value.cells, cellsInt, cellsTs, cellsIs] at h0 h1 h2 h3 h4 h5 h6 h7 h8 h9 h10
  obtain ⟨w0, e0, _⟩ := DataW.trod_int Try.underlying3 h0
  simp at e0
  subst e0
  obtain ⟨w1, e1, _⟩ := DataW.trod_int Try.underlying3 h1
  simp at e1
  subst e1
  obtain ⟨w2, e2, _⟩ := DataW.trod_int Try.underlying3 h2
  simp at e2
  subst e2
  obtain ⟨w3, e3, _⟩ := DataW.trod_int Try.underlying3 h3
  simp at e3
  subst e3
  obtain ⟨w4, k4, b4⟩ := items_of h4
  obtain ⟨w5, e5, _⟩ := DataW.trod_int Try.underlying3 h5
  simp at e5
  subst e5
  obtain ⟨w6, e6, _⟩ := DataW.trod_int Try.underlying3 h6
  simp at e6
  subst e6
  obtain ⟨w7, e7, _⟩ := DataW.trod_int Try.underlying3 h7
  simp at e7
  subst e7
  obtain ⟨w8, k8, b8⟩ := ints_of h8
  obtain ⟨w9, k9, b9⟩ := ints_of h9
  obtain ⟨w10, k10, b10⟩ := ints_of h10
  refine ⟨⟨w0, w1, w2, w3, w4, w5, w6, w7, w8, w9, w10⟩, _, rfl, ⟨_, _, _, _, rfl, k4, k8, k9, k10⟩, fun hw => ?_⟩
  have hd : d = .agg [y0.1, y1.1, y2.1, y3.1, y4.1, y5.1, y6.1, y7.1, y8.1, y9.1, y10.1] := congrArg Prod.fst hx
  rw [hd] at hw
  simp only [DataW.weights, Try.underlying25] at hw
  exact ⟨b4 fun n hn => hw n (DataW.weights_mem_each (j := 4) rfl rfl n hn), b8 fun n hn => hw n (DataW.weights_mem_each (j := 8) rfl rfl n hn), b9 fun n hn => hw n (DataW.weights_mem_each (j := 9) rfl rfl n hn), b10 fun n hn => hw n (DataW.weights_mem_each (j := 10) rfl rfl n hn)⟩
set_option maxRecDepth 100000 in
theorem msg_value {r : Reach} {b0 : Nat} {v : Value} {d : DataW H} {p : List MemPlace} (hv : Value.okWide Try.prog w r b0 27 v) (h : DataW.Trod enc Try.prog w base spare held 27 v d p) :
    ∃ (m : Rf.Msg) (u : Array Value), v = .agg u ∧ Gv w u m ∧ ((∀ n ∈ d.weights Try.prog 27, n ≤ reachBytes) → m.items.length * 16 ≤ reachBytes) := by
  obtain ⟨cs, rfl, hsz⟩ := okWide_struct Try.underlying27 hv
  obtain ⟨fuel, hf⟩ := h
  obtain ⟨xs, k, hk, hx, hl, hlen, hf⟩ := DataW.trod_struct Try.underlying27 hf
  rw [cellsM] at hl
  obtain ⟨z0, z1, z2, z3, z4, z5, z6, z7, z8, rfl⟩ : ∃ z0 z1 z2 z3 z4 z5 z6 z7 z8, cs = #[z0, z1, z2, z3, z4, z5, z6, z7, z8] := by
    obtain ⟨l⟩ := cs
    match l, hl with
    | [z0, z1, z2, z3, z4, z5, z6, z7, z8], _ => exact ⟨z0, z1, z2, z3, z4, z5, z6, z7, z8, rfl⟩
  obtain ⟨y0, y1, y2, y3, y4, y5, y6, y7, y8, rfl⟩ : ∃ y0 y1 y2 y3 y4 y5 y6 y7 y8, xs = [y0, y1, y2, y3, y4, y5, y6, y7, y8] := by
    match xs, hlen with
    | [y0, y1, y2, y3, y4, y5, y6, y7, y8], _ => exact ⟨y0, y1, y2, y3, y4, y5, y6, y7, y8, rfl⟩
  have h0 := hf 0 _ rfl
  have h1 := hf 1 _ rfl
  have h2 := hf 2 _ rfl
  have h3 := hf 3 _ rfl
  have h4 := hf 4 _ rfl
  have h5 := hf 5 _ rfl
  have h6 := hf 6 _ rfl
  have h7 := hf 7 _ rfl
  have h8 := hf 8 _ rfl
  simp [Value.cells, cellsInt, cellsTs, cellsBool] at h0 h1 h2 h3 h4 h5 h6 h7 h8
  obtain ⟨w0, e0, _⟩ := DataW.trod_int Try.underlying3 h0
  simp at e0
  subst e0
  obtain ⟨w1, e1, _⟩ := DataW.trod_int Try.underlying3 h1
  simp at e1
  subst e1
  obtain ⟨w2, e2, _⟩ := DataW.trod_int Try.underlying3 h2
  simp at e2
  subst e2
  obtain ⟨w3, e3, _⟩ := DataW.trod_int Try.underlying3 h3
  simp at e3
  subst e3
  obtain ⟨w4, e4, _⟩ := DataW.trod_int Try.underlying3 h4
  simp at e4
  subst e4
  obtain ⟨w5, e5, _⟩ := DataW.trod_int Try.underlying3 h5
  simp at e5
  subst e5
  obtain ⟨w6, e6, _⟩ := DataW.trod_int Try.underlying3 h6
  simp at e6
  subst e6
  obtain ⟨w7, k7, b7⟩ := items_of h7
  obtain ⟨w8, e8, _⟩ := DataW.trod_bool Try.underlying4 h8
  simp at e8
  subst e8
  refine ⟨⟨w0, w1, w2, w3, w4, w5, w6, w7, w8⟩, _, rfl, ⟨_, rfl, k7⟩, fun hw => ?_⟩
  have hd : d = .agg [y0.1, y1.1, y2.1, y3.1, y4.1, y5.1, y6.1, y7.1, y8.1] := congrArg Prod.fst hx
  rw [hd] at hw
  simp only [DataW.weights, Try.underlying27] at hw
  exact b7 fun n hn => hw n (DataW.weights_mem_each (j := 7) rfl rfl n hn)
end

end Go.Proofs.Ytjgpbahjiacjcaa

namespace Go.Proofs.Ytjgpbahjiacjcaa.raftVotesDone
open Go.ChangeShapes Go.WideShapes Go.ChangeAt Go.RowKit Go.Joins
open Go.Proofs.Ytjgpbahjiacjcaa

theorem own : ownKnob Try.prog.godebug = none := by kernel_rfl

set_option maxRecDepth 100000 in
theorem lifted (os : Os) (started : os.Started) (H : Type) (enc : TypeId × Value → H) :
    ReturnsInHanded {} Try.checked os 4 .any (Rows.raftVotesSpec.pre6 enc Try.prog Try.f4 Rows.raftVotesRow.domain false) (Rows.raftVotesSpec.post enc Try.prog Try.f4 false true false false) := by
  refine returnsInHanded_of_change_sized (C := Try.checked) own started (by kernel_rfl) Try.func4
    (ChangeSpec.witness6 (enc := enc) (C := Try.checked) false ⟨#[], #[.agg #[.int .i64 0, .int .i64 0, .int .i64 0, .int .i64 0, .slice none 0 0, .int .i64 0, .int .i64 0, .int .i64 0, .slice none 0 0, .slice none 0 0, .slice none 0 0], .agg #[.int .i64 0, .int .i64 0, .int .i64 0, .int .i64 0, .int .i64 0, .int .i64 0, .int .i64 0, .slice none 0 0, .bool false], .int .i64 0], []⟩ 8 (by kernel_rfl) (by kernel_rfl) (by kernel_rfl) (by kernel_rfl)) ?_
  intro W base args ds gs before hval0 hW _ hsz0 _
  have hval : ∀ (j : Nat) t v, Try.f4.params[j]? = some t → args[j]? = some v → Value.okWide Try.prog W .any base t v := hval0
  have hW' := hW
  obtain ⟨p, q, hA0, hV, rfl, hfz, hnd⟩ := hW
  have hA : DataW.TrodAll enc Try.prog W 0 (fun _ => true) true Try.f4.params.toList args.toList ds p := hA0
  have hsz : (DataW.weightsEach Try.prog (Try.f4.params.toList ++ Rows.raftVotesSpec.plain.varTypes Try.prog) (ds ++ gs)).all (· ≤ reachBytes) = true := hsz0
  rw [Try.params4] at hA hval hsz
  obtain ⟨v0, vs0, d0, ds0, p0, q0, hargs, rfl, rfl, h0, r0⟩ := trodAll_cons hA
  obtain ⟨v1, vs1, d1, ds1, p1, q1, rfl, rfl, rfl, h1, r1⟩ := trodAll_cons r0
  obtain ⟨v2, vs2, d2, ds2, p2, q2, rfl, rfl, rfl, h2, r2⟩ := trodAll_cons r1
  obtain ⟨rfl, rfl, rfl⟩ := trodAll_nil r2
  obtain rfl : args = #[v0, v1, v2] := by cases args; simp_all
  obtain ⟨rfl, rfl⟩ := trodVars_none hV
  simp only [List.append_nil] at hW'
  have hz : (DataW.weightsEach Try.prog [25, 27, 3] [d0, d1, d2]).all (· ≤ reachBytes) = true := hsz
  have hlt := fun x hx => hW'.lt x hx
  simp only [List.mem_append] at hlt
  have l0 : ∀ x ∈ p0, x.block < W.heap.size := fun x hx => by simpa using hlt x (by simp [hx])
  have k0 := h0
  obtain ⟨t0, u0, rfl, m0, b0⟩ := node_value (hval 0 25 v0 rfl rfl) h0
  replace b0 := b0 fun n hn => by simpa using List.all_eq_true.1 hz n (DataW.weights_mem_each (j := 0) rfl rfl n hn)
  unfold reachBytes at b0
  have l1 : ∀ x ∈ p1, x.block < W.heap.size := fun x hx => by simpa using hlt x (by simp [hx])
  have k1 := h1
  obtain ⟨t1, u1, rfl, m1, b1⟩ := msg_value (hval 1 27 v1 rfl rfl) h1
  replace b1 := b1 fun n hn => by simpa using List.all_eq_true.1 hz n (DataW.weights_mem_each (j := 1) rfl rfl n hn)
  unfold reachBytes at b1
  have l2 : ∀ x ∈ p2, x.block < W.heap.size := fun x hx => by simpa using hlt x (by simp [hx])
  have k2 := h2
  obtain ⟨t2, rfl⟩ := okWide_int Try.underlying3 (hval 2 3 v2 rfl rfl)
  obtain ⟨f2, hf2⟩ := h2
  obtain ⟨z2, e2, _⟩ := DataW.trod_int Try.underlying3 hf2
  simp [Value.cells] at e2
  subst e2
  clear hA0 hval0 hlt hsz0 hsz hz
  refine (votes_walk raft_rc right_fits t0 u0 t1 u1 t2 W m0 m1 (fit_node b0) (fit_msg b1)).mono fun e W' ⟨he, bel⟩ => ?_
  subst he
  exact ⟨_, rfl, _, _, _, [], _, [], hW', trodAll_mk1 (shut_bool Try.underlying4 _), (trodAll_cons_mk (Below.trod laidOutT (by kernel_rfl) (of_decide_eq_true (by kernel_rfl)) k0 bel l0) (trodAll_cons_mk (Below.trod laidOutT (by kernel_rfl) (of_decide_eq_true (by kernel_rfl)) k1 bel l1) (trodAll_cons_mk (Below.trod laidOutT (by kernel_rfl) (of_decide_eq_true (by kernel_rfl)) k2 bel l2) trodAll_mk0))), rfl, bel.frame _, fun h => by cases h⟩

theorem over : Rows.raftVotesRow.holds Try.pinned (OpenSpec.ofChange Rows.raftVotesSpec) :=
  OpenClaim.holds_of_wide 4 Try.f4 rfl rfl rfl rfl rfl rfl rfl ⟨rfl, rfl, rfl, rfl, rfl⟩ rfl rfl rfl rfl rfl (by kernel_rfl) Try.func4 (by kernel_rfl)
    (of_decide_eq_true (by kernel_rfl)) (by unfold Func.isWrapper; first | (rw [if_pos (by decide +kernel)]; kernel_rfl) | (rw [if_neg (by decide +kernel)]; exact ⟨rfl, rfl⟩))
    (fun os started H enc _ => lifted os started H enc)
end Go.Proofs.Ytjgpbahjiacjcaa.raftVotesDone
namespace Go.Proofs.Ytjgpbahjiacjcaa
theorem raftVotes_holds : Rows.RaftVotesSaid := raftVotesDone.over
end Go.Proofs.Ytjgpbahjiacjcaa
