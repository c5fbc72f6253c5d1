/- Walks: deedOf (cluster). Written by gen_ci.py. -/
import Derived.Test.YtneepoaimbnneaaCEG
import Derived.Test.YtneepoaimbnneaaML
namespace Go.Proofs.Ytneepoaimbnneaa.CL
open Go.RowKit
variable {A : Nat → Prop}

theorem below_drew (w : World) : Below w.heap.size w w.drew := ⟨rfl, rfl, rfl, Nat.le_refl _, fun _ _ => rfl⟩
theorem set11 (w : World) (g o : Nat) (v0 v1 v2 v3 v4 v5 v6 v7 v8 v9 v10 : Value) : w.setCells g o [v0, v1, v2, v3, v4, v5, v6, v7, v8, v9, v10] = (((((((((((w.setCell ⟨g, o, none⟩ v0).setCell ⟨g, o + 1, none⟩ v1).setCell ⟨g, o + 2, none⟩ v2).setCell ⟨g, o + 3, none⟩ v3).setCell ⟨g, o + 4, none⟩ v4).setCell ⟨g, o + 5, none⟩ v5).setCell ⟨g, o + 6, none⟩ v6).setCell ⟨g, o + 7, none⟩ v7).setCell ⟨g, o + 8, none⟩ v8).setCell ⟨g, o + 9, none⟩ v9).setCell ⟨g, o + 10, none⟩ v10) := rfl
/-- what a deed tells, called with a node -/
def Does (F : Nat) (fr : Array Value) (P : Nat → Prop) (w : World) (x : Rf.Node) (y : Rf.Node × List Rf.Msg) : Prop := ∀ v, NV P w v x → Calls Try.prog F (#[.agg v] ++ fr) w (PNM P w y)
/-- the node is put in its place, what it says behind the others -/
theorem acted {B p k g off cap n : Nat} {W : Rf.Wd} {tv : Value} {nc tc : List Value} {w w1 w2 : World} {y : Rf.Node × List Rf.Msg} {v : Array Value} (h : CW A B w p W (.slice (some ⟨g, off, none⟩) n cap) tv nc tc) (hk : k < W.nodes.length) (hv : NV (fun b => Fp A w p (.slice (some ⟨g, off, none⟩) n cap) tv b ∨ Fresh w w1 b) w1 v y.1) (hb : Below w.heap.size w w1) (hw : Below w1.heap.size w1 w2) :
    CW A B (w2.setCells g (off + k * 11) v.toList).drew p { W with nodes := W.nodes.set k y.1 } (.slice (some ⟨g, off, none⟩) n cap) tv (nc.take (k * 11) ++ v.toList ++ nc.drop (k * 11 + 11)) tc ∧ Below B w (w2.setCells g (off + k * 11) v.toList).drew ∧
      (∀ b, Fresh w w1 b → Fp A (w2.setCells g (off + k * 11) v.toList).drew p (.slice (some ⟨g, off, none⟩) n cap) tv b ∧ (w2.setCells g (off + k * 11) v.toList).drew.heap[b]? = w1.heap[b]?) ∧ Frm A p w (.slice (some ⟨g, off, none⟩) n cap) tv (w2.setCells g (off + k * 11) v.toList).drew (.slice (some ⟨g, off, none⟩) n cap) tv := by
  have h1 := h.below hb
  have h2 := h1.below hw
  have hs := grown_setCells w2 g v.toList (off + k * 11)
  have h3 : CW A B (w2.setCells g (off + k * 11) v.toList) p { W with nodes := W.nodes.set k y.1 } (.slice (some ⟨g, off, none⟩) n cap) tv (nc.take (k * 11) ++ v.toList ++ nc.drop (k * 11 + 11)) tc := by
    refine h2.setNode hk (hv.keep fun b hp => ?_)
    have hlt : b < w1.heap.size := by
      rcases hp with q | q
      · exact Nat.lt_of_lt_of_le q.1 hb.size
      · exact q.2
    refine ⟨?_, hw.block b hlt⟩
    rcases hp with q | q
    · exact ⟨Nat.lt_of_lt_of_le hlt hw.size, q.2⟩
    · exact Fp.new h q.1 (Nat.lt_of_lt_of_le hlt hw.size)
  have hg : B ≤ g := (h.nodes.lt g rfl).1
  have h4 : Below B w (w2.setCells g (off + k * 11) v.toList) := ((hb.trans (hw.mono hb.size)).mono h.szB).trans ((Below.refl B w2).grown hs h2.szB fun k hk => by cases hk; exact hg)
  refine ⟨h3.below (below_drew _), h4.trans ((below_drew _).mono h3.szB), fun b hf => ?_, fun b hp => ?_⟩
  rotate_left
  · have l1 : b < w1.heap.size := Nat.lt_of_lt_of_le hp.1 hb.size
    have l2 : b < w2.heap.size := Nat.lt_of_lt_of_le l1 hw.size
    have q3 : (w2.setCells g (off + k * 11) v.toList).heap[b]? = w.heap[b]? := ((hs.block b l2 (fun e => hp.2.2.1 (by cases e; rfl))).trans (hw.block b l1)).trans (hb.block b hp.1)
    exact ⟨⟨Nat.lt_of_lt_of_le l2 hs.size, hp.2⟩, q3⟩
  have q := Fp.new (w1 := w2) h hf.1 (Nat.lt_of_lt_of_le hf.2 hw.size)
  have q2 : b < (w2.setCells g (off + k * 11) v.toList).heap.size := Nat.lt_of_lt_of_le q.1 hs.size
  have q3 : (w2.setCells g (off + k * 11) v.toList).heap[b]? = w1.heap[b]? := (hs.block b q.1 (fun e => q.2.2.1 (by cases e; rfl))).trans (hw.block b hf.2)
  exact ⟨⟨q2, q.2⟩, q3⟩

end Go.Proofs.Ytneepoaimbnneaa.CL

namespace Go.Proofs.Ytneepoaimbnneaa.CL
open Go.RowKit
variable {A : Nat → Prop}

set_option maxHeartbeats 4000000 in
set_option maxRecDepth 100000 in
theorem act_timeout (y : Rf.Node × List Rf.Msg) (B p k : Nat) (x : Rf.Node) (W : Rf.Wd) (nv tv : Value) (nc tc : List Value) (w : World) (h : CW A B w p W nv tv nc tc) (hx : W.nodes[k]? = some x) (hN : W.nodes.length ≤ 1000) (hT : W.net.length ≤ 1000) (hl : y.2.length ≤ 1000) (hd : Does 27 #[] (Fp A w p nv tv) w x y) :
    Calls Try.prog 20 #[.pointer (some ⟨p, 0, none⟩), .int .i64 ((k : Int) + 1), .func (.func 27) #[] #[]] w (PC A B p nv tv w { nodes := W.nodes.set k y.1, net := W.net ++ y.2 }) := by
  have hk : k < W.nodes.length := (List.getElem?_eq_some_iff.1 hx).1
  obtain ⟨g, off, cap, a1, n1, c1, a2, n2, c2, a3, n3, c3, a4, n4, c4, rfl, hv, hat, -⟩ := h.node hx
  obtain ⟨d0, d1, d2, d3, d4, d5, d6, d7, d8, d9, d10⟩ := hat
  have HD := hide (hd _ hv)
  have H := hide h
  have HX := hide hx
  have hle := h.nodes.parts.2.2.1
  have q0 : w.cell? ⟨p, 0, none⟩ = some (.slice (some ⟨g, off, none⟩) W.nodes.length cap) := h.blk.at rfl
  have e1 : IntKind.i64.wrap ((k : Int) + 1 - 1) = (k : Int) := by rw [show (k : Int) + 1 - 1 = (k : Int) by omega]; exact wrap_i64 (by omega) (by omega)
  have hk' : (k : Int) < (W.nodes.length : Int) := by omega
  have HT := hide hT
  have HL := hide hl
  clear hd hv h hx hT hl
  go_enter Try.func20, Try.ntmps20
  go_wp2_with fail
  refine (unhide HD).mono ?_
  rintro e w1 ⟨v', m, rfl, hv', hm, hb⟩
  clear d0 d1 d2 d3 d4 d5 d6 d7 d8 d9 d10 q0 HD
  obtain ⟨b1, m1, r1, b2, m2, r2, b3, m3, r3, b4, m4, r4, rfl⟩ := hv'.cellsC
  obtain ⟨ma, ML, mc, rfl, hML, _, _⟩ := SC.shp hm.choose_spec.1
  have HM := hide hm
  have HB := hide hb
  have HV := hide hv'
  clear hm hb hv'
  have bn : Below w1.heap.size w1 (w1.alloc (.cells #[.int .i64 y.1.id, .int .i64 y.1.n, .int .i64 y.1.term, .int .i64 y.1.vote, .slice b1 m1 r1, .int .i64 y.1.commit, .int .i64 y.1.role, .int .i64 y.1.boss, .slice b2 m2 r2, .slice b3 m3 r3, .slice b4 m4 r4] 34)) := below_new _ _
  have X0 : Hid (BK (w1.alloc (.cells #[.int .i64 y.1.id, .int .i64 y.1.n, .int .i64 y.1.term, .int .i64 y.1.vote, .slice b1 m1 r1, .int .i64 y.1.commit, .int .i64 y.1.role, .int .i64 y.1.boss, .slice b2 m2 r2, .slice b3 m3 r3, .slice b4 m4 r4] 34)) w1.heap.size 34 #[.int .i64 y.1.id, .int .i64 y.1.n, .int .i64 y.1.term, .int .i64 y.1.vote, .slice b1 m1 r1, .int .i64 y.1.commit, .int .i64 y.1.role, .int .i64 y.1.boss, .slice b2 m2 r2, .slice b3 m3 r3, .slice b4 m4 r4]) := hide (BK.new _ _ _)
  have H2 := hide (((unhide H).below (unhide HB)).below bn)
  have BN := hide bn
  clear bn
  go_upto_region 1 with fail
  generalize w1.alloc (.cells #[.int .i64 y.1.id, .int .i64 y.1.n, .int .i64 y.1.term, .int .i64 y.1.vote, .slice b1 m1 r1, .int .i64 y.1.commit, .int .i64 y.1.role, .int .i64 y.1.boss, .slice b2 m2 r2, .slice b3 m3 r3, .slice b4 m4 r4] 34) = w2 at X0 H2 BN ⊢
  obtain ⟨t0, t1, t2, t3, t4, t5, t6, t7, t8, t9, t10⟩ := (show NX w2 w1.heap.size _ _ _ _ _ _ _ _ _ _ _ from unhide X0).tell
  obtain ⟨g', off', cap', _, _, _, _, _, _, _, _, _, _, _, _, eg, -, hat, hth⟩ := (unhide H2).node (unhide HX)
  cases eg
  obtain ⟨d0, d1, d2, d3, d4, d5, d6, d7, d8, d9, d10⟩ := hat
  obtain ⟨f0, f1, f2, f3, f4, f5, f6, f7, f8, f9, f10⟩ := hth
  have q0 : w2.cell? ⟨p, 0, none⟩ = some (.slice (some ⟨g, off, none⟩) W.nodes.length cap) := (unhide H2).blk.at rfl
  have ha := acted (unhide H) hk (unhide HV) (unhide HB) (unhide BN)
  rw [show (#[.int .i64 y.1.id, .int .i64 y.1.n, .int .i64 y.1.term, .int .i64 y.1.vote, .slice b1 m1 r1, .int .i64 y.1.commit, .int .i64 y.1.role, .int .i64 y.1.boss, .slice b2 m2 r2, .slice b3 m3 r3, .slice b4 m4 r4] : Array Value).toList = [.int .i64 y.1.id, .int .i64 y.1.n, .int .i64 y.1.term, .int .i64 y.1.vote, .slice b1 m1 r1, .int .i64 y.1.commit, .int .i64 y.1.role, .int .i64 y.1.boss, .slice b2 m2 r2, .slice b3 m3 r3, .slice b4 m4 r4] from rfl, set11] at ha
  have HA := hide ha
  clear ha
  go_region
  clear t0 t1 t2 t3 t4 t5 t6 t7 t8 t9 t10 d0 d1 d2 d3 d4 d5 d6 d7 d8 d9 d10 f0 f1 f2 f3 f4 f5 f6 f7 f8 f9 f10 q0
  generalize (((((((((((w2.setCell ⟨g, off + k * 11, none⟩ (.int .i64 y.1.id)).setCell ⟨g, off + k * 11 + 1, none⟩ (.int .i64 y.1.n)).setCell ⟨g, off + k * 11 + 2, none⟩ (.int .i64 y.1.term)).setCell ⟨g, off + k * 11 + 3, none⟩ (.int .i64 y.1.vote)).setCell ⟨g, off + k * 11 + 4, none⟩ (.slice b1 m1 r1)).setCell ⟨g, off + k * 11 + 5, none⟩ (.int .i64 y.1.commit)).setCell ⟨g, off + k * 11 + 6, none⟩ (.int .i64 y.1.role)).setCell ⟨g, off + k * 11 + 7, none⟩ (.int .i64 y.1.boss)).setCell ⟨g, off + k * 11 + 8, none⟩ (.slice b2 m2 r2)).setCell ⟨g, off + k * 11 + 9, none⟩ (.slice b3 m3 r3)).setCell ⟨g, off + k * 11 + 10, none⟩ (.slice b4 m4 r4)).drew = w3 at HA ⊢
  have h3 := (unhide HA).1
  obtain ⟨cs, hsc, hmc⟩ := MV.keep (unhide HA).2.2.1 (unhide HM)
  have HC := hide (And.intro hsc hmc)
  obtain ⟨na, NL, ncap, ta, TL, tcap, -, hTV, -, hTL, -, -, -, -, q1, z0, z1⟩ := h3.tell
  have RT := h3.net
  rw [unhide hTV] at RT
  have HR := hide RT
  have H3 := hide h3
  have hsz := hide h3.szB
  clear hsc hmc h3 RT X0 H2 BN
  obtain ⟨i0, I0, I1, I2, I3⟩ := info_parts info_M
  have I0' := hide I0
  have I1' := hide I1
  have I2' := hide I2
  have I3' := hide I3
  clear I0 I1 I2 I3
  have l1 : Hid (W.net.length + y.2.length ≤ maxLen) := hide (by unfold maxLen; have := unhide HT; have := unhide HL; omega)
  have l2 : Hid ((W.net.length + y.2.length) * 88 ≤ 140737488355328) := hide (by have := unhide HT; have := unhide HL; omega)
  go_wp2_with (at_builtin; refine wpList_append_ro rfl _ _ 25 rfl B 40 i0 (.agg #[.int .i64 0, .int .i64 0, .int .i64 0, .int .i64 0, .int .i64 0, .int .i64 0, .int .i64 0, .slice none 0 0, .bool false]) 9 88 Try.underlying25 (unhide I0') (unhide I1') (unhide I2') (unhide I3') rfl (by decide) _ _ _ _ _ _ rfl rfl (unhide HR) (unhide HC).1 (unhide HC).2.one (unhide l1) (unhide l2) (unhide hsz) (no_M _ _ _ _ _ _ (unhide HR)) ?_)
  intro tv' w4 ho hg hu
  obtain ⟨ta', TL', tcap', rfl, _, _, _⟩ := SC.shp ho.sc
  have hp4 : BK w4 p 56 #[.slice (some ⟨g, off, none⟩) W.nodes.length cap, .slice ta TL tcap] := (hg.block p (unhide H3).lo fun e => (unhide H3).pt (by rw [unhide hTV]; exact e.symm)).trans (by have := (unhide H3).blk; rw [unhide hTV] at this; exact this)
  have y1 : w4.cell? ⟨p, 1, none⟩ = some (.slice ta TL tcap) := hp4.at rfl
  have y2 : w4.frozen? ⟨p, 1, none⟩ = false := hp4.thaw _
  have HF : Hid (CW A B (w4.setCell ⟨p, 1, none⟩ (.slice ta' TL' tcap')) p { nodes := W.nodes.set k y.1, net := W.net ++ y.2 } _ _ _ _) := hide ((unhide H3).setNet (T := W.net ++ y.2) (by rw [unhide hTV]; exact hg) (by rw [List.length_append]; exact ho) (by rw [unhide hTV]; exact hu) (MC.app (unhide HC).2 (unhide H3).tC))
  have HR4 := hide ((unhide HA).2.2.2.trans ((unhide H3).setNetFr (w1 := w4) (tv' := .slice ta' TL' tcap') (by rw [unhide hTV]; exact hg) (by rw [unhide hTV]; exact hu)))
  have HB4 : Hid (Below B w (w4.setCell ⟨p, 1, none⟩ (.slice ta' TL' tcap'))) := hide (((unhide HA).2.1.trans ((Below.refl B w3).grown hg (unhide hsz) fun b hb => ((unhide HR).lt b hb).1)).setCell (unhide H3).low _)
  clear q1 z0 z1 hp4 ho hg hu
  go_wp2
  go_end0
  exact ⟨rfl, _, _, _, _, unhide HF, unhide HB4, unhide HR4⟩

end Go.Proofs.Ytneepoaimbnneaa.CL

namespace Go.Proofs.Ytneepoaimbnneaa.CL
open Go.RowKit
variable {A : Nat → Prop}

set_option maxHeartbeats 4000000 in
set_option maxRecDepth 100000 in
theorem act_beat (y : Rf.Node × List Rf.Msg) (B p k : Nat) (x : Rf.Node) (W : Rf.Wd) (nv tv : Value) (nc tc : List Value) (w : World) (h : CW A B w p W nv tv nc tc) (hx : W.nodes[k]? = some x) (hN : W.nodes.length ≤ 1000) (hT : W.net.length ≤ 1000) (hl : y.2.length ≤ 1000) (hd : Does 28 #[] (Fp A w p nv tv) w x y) :
    Calls Try.prog 20 #[.pointer (some ⟨p, 0, none⟩), .int .i64 ((k : Int) + 1), .func (.func 28) #[] #[]] w (PC A B p nv tv w { nodes := W.nodes.set k y.1, net := W.net ++ y.2 }) := by
  have hk : k < W.nodes.length := (List.getElem?_eq_some_iff.1 hx).1
  obtain ⟨g, off, cap, a1, n1, c1, a2, n2, c2, a3, n3, c3, a4, n4, c4, rfl, hv, hat, -⟩ := h.node hx
  obtain ⟨d0, d1, d2, d3, d4, d5, d6, d7, d8, d9, d10⟩ := hat
  have HD := hide (hd _ hv)
  have H := hide h
  have HX := hide hx
  have hle := h.nodes.parts.2.2.1
  have q0 : w.cell? ⟨p, 0, none⟩ = some (.slice (some ⟨g, off, none⟩) W.nodes.length cap) := h.blk.at rfl
  have e1 : IntKind.i64.wrap ((k : Int) + 1 - 1) = (k : Int) := by rw [show (k : Int) + 1 - 1 = (k : Int) by omega]; exact wrap_i64 (by omega) (by omega)
  have hk' : (k : Int) < (W.nodes.length : Int) := by omega
  have HT := hide hT
  have HL := hide hl
  clear hd hv h hx hT hl
  go_enter Try.func20, Try.ntmps20
  go_wp2_with fail
  refine (unhide HD).mono ?_
  rintro e w1 ⟨v', m, rfl, hv', hm, hb⟩
  clear d0 d1 d2 d3 d4 d5 d6 d7 d8 d9 d10 q0 HD
  obtain ⟨b1, m1, r1, b2, m2, r2, b3, m3, r3, b4, m4, r4, rfl⟩ := hv'.cellsC
  obtain ⟨ma, ML, mc, rfl, hML, _, _⟩ := SC.shp hm.choose_spec.1
  have HM := hide hm
  have HB := hide hb
  have HV := hide hv'
  clear hm hb hv'
  have bn : Below w1.heap.size w1 (w1.alloc (.cells #[.int .i64 y.1.id, .int .i64 y.1.n, .int .i64 y.1.term, .int .i64 y.1.vote, .slice b1 m1 r1, .int .i64 y.1.commit, .int .i64 y.1.role, .int .i64 y.1.boss, .slice b2 m2 r2, .slice b3 m3 r3, .slice b4 m4 r4] 34)) := below_new _ _
  have X0 : Hid (BK (w1.alloc (.cells #[.int .i64 y.1.id, .int .i64 y.1.n, .int .i64 y.1.term, .int .i64 y.1.vote, .slice b1 m1 r1, .int .i64 y.1.commit, .int .i64 y.1.role, .int .i64 y.1.boss, .slice b2 m2 r2, .slice b3 m3 r3, .slice b4 m4 r4] 34)) w1.heap.size 34 #[.int .i64 y.1.id, .int .i64 y.1.n, .int .i64 y.1.term, .int .i64 y.1.vote, .slice b1 m1 r1, .int .i64 y.1.commit, .int .i64 y.1.role, .int .i64 y.1.boss, .slice b2 m2 r2, .slice b3 m3 r3, .slice b4 m4 r4]) := hide (BK.new _ _ _)
  have H2 := hide (((unhide H).below (unhide HB)).below bn)
  have BN := hide bn
  clear bn
  go_upto_region 1 with fail
  generalize w1.alloc (.cells #[.int .i64 y.1.id, .int .i64 y.1.n, .int .i64 y.1.term, .int .i64 y.1.vote, .slice b1 m1 r1, .int .i64 y.1.commit, .int .i64 y.1.role, .int .i64 y.1.boss, .slice b2 m2 r2, .slice b3 m3 r3, .slice b4 m4 r4] 34) = w2 at X0 H2 BN ⊢
  obtain ⟨t0, t1, t2, t3, t4, t5, t6, t7, t8, t9, t10⟩ := (show NX w2 w1.heap.size _ _ _ _ _ _ _ _ _ _ _ from unhide X0).tell
  obtain ⟨g', off', cap', _, _, _, _, _, _, _, _, _, _, _, _, eg, -, hat, hth⟩ := (unhide H2).node (unhide HX)
  cases eg
  obtain ⟨d0, d1, d2, d3, d4, d5, d6, d7, d8, d9, d10⟩ := hat
  obtain ⟨f0, f1, f2, f3, f4, f5, f6, f7, f8, f9, f10⟩ := hth
  have q0 : w2.cell? ⟨p, 0, none⟩ = some (.slice (some ⟨g, off, none⟩) W.nodes.length cap) := (unhide H2).blk.at rfl
  have ha := acted (unhide H) hk (unhide HV) (unhide HB) (unhide BN)
  rw [show (#[.int .i64 y.1.id, .int .i64 y.1.n, .int .i64 y.1.term, .int .i64 y.1.vote, .slice b1 m1 r1, .int .i64 y.1.commit, .int .i64 y.1.role, .int .i64 y.1.boss, .slice b2 m2 r2, .slice b3 m3 r3, .slice b4 m4 r4] : Array Value).toList = [.int .i64 y.1.id, .int .i64 y.1.n, .int .i64 y.1.term, .int .i64 y.1.vote, .slice b1 m1 r1, .int .i64 y.1.commit, .int .i64 y.1.role, .int .i64 y.1.boss, .slice b2 m2 r2, .slice b3 m3 r3, .slice b4 m4 r4] from rfl, set11] at ha
  have HA := hide ha
  clear ha
  go_region
  clear t0 t1 t2 t3 t4 t5 t6 t7 t8 t9 t10 d0 d1 d2 d3 d4 d5 d6 d7 d8 d9 d10 f0 f1 f2 f3 f4 f5 f6 f7 f8 f9 f10 q0
  generalize (((((((((((w2.setCell ⟨g, off + k * 11, none⟩ (.int .i64 y.1.id)).setCell ⟨g, off + k * 11 + 1, none⟩ (.int .i64 y.1.n)).setCell ⟨g, off + k * 11 + 2, none⟩ (.int .i64 y.1.term)).setCell ⟨g, off + k * 11 + 3, none⟩ (.int .i64 y.1.vote)).setCell ⟨g, off + k * 11 + 4, none⟩ (.slice b1 m1 r1)).setCell ⟨g, off + k * 11 + 5, none⟩ (.int .i64 y.1.commit)).setCell ⟨g, off + k * 11 + 6, none⟩ (.int .i64 y.1.role)).setCell ⟨g, off + k * 11 + 7, none⟩ (.int .i64 y.1.boss)).setCell ⟨g, off + k * 11 + 8, none⟩ (.slice b2 m2 r2)).setCell ⟨g, off + k * 11 + 9, none⟩ (.slice b3 m3 r3)).setCell ⟨g, off + k * 11 + 10, none⟩ (.slice b4 m4 r4)).drew = w3 at HA ⊢
  have h3 := (unhide HA).1
  obtain ⟨cs, hsc, hmc⟩ := MV.keep (unhide HA).2.2.1 (unhide HM)
  have HC := hide (And.intro hsc hmc)
  obtain ⟨na, NL, ncap, ta, TL, tcap, -, hTV, -, hTL, -, -, -, -, q1, z0, z1⟩ := h3.tell
  have RT := h3.net
  rw [unhide hTV] at RT
  have HR := hide RT
  have H3 := hide h3
  have hsz := hide h3.szB
  clear hsc hmc h3 RT X0 H2 BN
  obtain ⟨i0, I0, I1, I2, I3⟩ := info_parts info_M
  have I0' := hide I0
  have I1' := hide I1
  have I2' := hide I2
  have I3' := hide I3
  clear I0 I1 I2 I3
  have l1 : Hid (W.net.length + y.2.length ≤ maxLen) := hide (by unfold maxLen; have := unhide HT; have := unhide HL; omega)
  have l2 : Hid ((W.net.length + y.2.length) * 88 ≤ 140737488355328) := hide (by have := unhide HT; have := unhide HL; omega)
  go_wp2_with (at_builtin; refine wpList_append_ro rfl _ _ 25 rfl B 40 i0 (.agg #[.int .i64 0, .int .i64 0, .int .i64 0, .int .i64 0, .int .i64 0, .int .i64 0, .int .i64 0, .slice none 0 0, .bool false]) 9 88 Try.underlying25 (unhide I0') (unhide I1') (unhide I2') (unhide I3') rfl (by decide) _ _ _ _ _ _ rfl rfl (unhide HR) (unhide HC).1 (unhide HC).2.one (unhide l1) (unhide l2) (unhide hsz) (no_M _ _ _ _ _ _ (unhide HR)) ?_)
  intro tv' w4 ho hg hu
  obtain ⟨ta', TL', tcap', rfl, _, _, _⟩ := SC.shp ho.sc
  have hp4 : BK w4 p 56 #[.slice (some ⟨g, off, none⟩) W.nodes.length cap, .slice ta TL tcap] := (hg.block p (unhide H3).lo fun e => (unhide H3).pt (by rw [unhide hTV]; exact e.symm)).trans (by have := (unhide H3).blk; rw [unhide hTV] at this; exact this)
  have y1 : w4.cell? ⟨p, 1, none⟩ = some (.slice ta TL tcap) := hp4.at rfl
  have y2 : w4.frozen? ⟨p, 1, none⟩ = false := hp4.thaw _
  have HF : Hid (CW A B (w4.setCell ⟨p, 1, none⟩ (.slice ta' TL' tcap')) p { nodes := W.nodes.set k y.1, net := W.net ++ y.2 } _ _ _ _) := hide ((unhide H3).setNet (T := W.net ++ y.2) (by rw [unhide hTV]; exact hg) (by rw [List.length_append]; exact ho) (by rw [unhide hTV]; exact hu) (MC.app (unhide HC).2 (unhide H3).tC))
  have HR4 := hide ((unhide HA).2.2.2.trans ((unhide H3).setNetFr (w1 := w4) (tv' := .slice ta' TL' tcap') (by rw [unhide hTV]; exact hg) (by rw [unhide hTV]; exact hu)))
  have HB4 : Hid (Below B w (w4.setCell ⟨p, 1, none⟩ (.slice ta' TL' tcap'))) := hide (((unhide HA).2.1.trans ((Below.refl B w3).grown hg (unhide hsz) fun b hb => ((unhide HR).lt b hb).1)).setCell (unhide H3).low _)
  clear q1 z0 z1 hp4 ho hg hu
  go_wp2
  go_end0
  exact ⟨rfl, _, _, _, _, unhide HF, unhide HB4, unhide HR4⟩

end Go.Proofs.Ytneepoaimbnneaa.CL

namespace Go.Proofs.Ytneepoaimbnneaa.CL
open Go.RowKit
variable {A : Nat → Prop}

set_option maxHeartbeats 4000000 in
set_option maxRecDepth 100000 in
theorem act_prop (y : Rf.Node × List Rf.Msg) (B p k bx : Nat) (x : Rf.Node) (W : Rf.Wd) (nv tv : Value) (nc tc : List Value) (w : World) (h : CW A B w p W nv tv nc tc) (hx : W.nodes[k]? = some x) (hN : W.nodes.length ≤ 1000) (hT : W.net.length ≤ 1000) (hl : y.2.length ≤ 1000) (hd : Does 29 #[.pointer (some ⟨bx, 0, none⟩)] (Fp A w p nv tv) w x y) :
    Calls Try.prog 20 #[.pointer (some ⟨p, 0, none⟩), .int .i64 ((k : Int) + 1), .func (.func 29) #[] #[.pointer (some ⟨bx, 0, none⟩)]] w (PC A B p nv tv w { nodes := W.nodes.set k y.1, net := W.net ++ y.2 }) := by
  have hk : k < W.nodes.length := (List.getElem?_eq_some_iff.1 hx).1
  obtain ⟨g, off, cap, a1, n1, c1, a2, n2, c2, a3, n3, c3, a4, n4, c4, rfl, hv, hat, -⟩ := h.node hx
  obtain ⟨d0, d1, d2, d3, d4, d5, d6, d7, d8, d9, d10⟩ := hat
  have HD := hide (hd _ hv)
  have H := hide h
  have HX := hide hx
  have hle := h.nodes.parts.2.2.1
  have q0 : w.cell? ⟨p, 0, none⟩ = some (.slice (some ⟨g, off, none⟩) W.nodes.length cap) := h.blk.at rfl
  have e1 : IntKind.i64.wrap ((k : Int) + 1 - 1) = (k : Int) := by rw [show (k : Int) + 1 - 1 = (k : Int) by omega]; exact wrap_i64 (by omega) (by omega)
  have hk' : (k : Int) < (W.nodes.length : Int) := by omega
  have HT := hide hT
  have HL := hide hl
  clear hd hv h hx hT hl
  go_enter Try.func20, Try.ntmps20
  go_wp2_with fail
  refine (unhide HD).mono ?_
  rintro e w1 ⟨v', m, rfl, hv', hm, hb⟩
  clear d0 d1 d2 d3 d4 d5 d6 d7 d8 d9 d10 q0 HD
  obtain ⟨b1, m1, r1, b2, m2, r2, b3, m3, r3, b4, m4, r4, rfl⟩ := hv'.cellsC
  obtain ⟨ma, ML, mc, rfl, hML, _, _⟩ := SC.shp hm.choose_spec.1
  have HM := hide hm
  have HB := hide hb
  have HV := hide hv'
  clear hm hb hv'
  have bn : Below w1.heap.size w1 (w1.alloc (.cells #[.int .i64 y.1.id, .int .i64 y.1.n, .int .i64 y.1.term, .int .i64 y.1.vote, .slice b1 m1 r1, .int .i64 y.1.commit, .int .i64 y.1.role, .int .i64 y.1.boss, .slice b2 m2 r2, .slice b3 m3 r3, .slice b4 m4 r4] 34)) := below_new _ _
  have X0 : Hid (BK (w1.alloc (.cells #[.int .i64 y.1.id, .int .i64 y.1.n, .int .i64 y.1.term, .int .i64 y.1.vote, .slice b1 m1 r1, .int .i64 y.1.commit, .int .i64 y.1.role, .int .i64 y.1.boss, .slice b2 m2 r2, .slice b3 m3 r3, .slice b4 m4 r4] 34)) w1.heap.size 34 #[.int .i64 y.1.id, .int .i64 y.1.n, .int .i64 y.1.term, .int .i64 y.1.vote, .slice b1 m1 r1, .int .i64 y.1.commit, .int .i64 y.1.role, .int .i64 y.1.boss, .slice b2 m2 r2, .slice b3 m3 r3, .slice b4 m4 r4]) := hide (BK.new _ _ _)
  have H2 := hide (((unhide H).below (unhide HB)).below bn)
  have BN := hide bn
  clear bn
  go_upto_region 1 with fail
  generalize w1.alloc (.cells #[.int .i64 y.1.id, .int .i64 y.1.n, .int .i64 y.1.term, .int .i64 y.1.vote, .slice b1 m1 r1, .int .i64 y.1.commit, .int .i64 y.1.role, .int .i64 y.1.boss, .slice b2 m2 r2, .slice b3 m3 r3, .slice b4 m4 r4] 34) = w2 at X0 H2 BN ⊢
  obtain ⟨t0, t1, t2, t3, t4, t5, t6, t7, t8, t9, t10⟩ := (show NX w2 w1.heap.size _ _ _ _ _ _ _ _ _ _ _ from unhide X0).tell
  obtain ⟨g', off', cap', _, _, _, _, _, _, _, _, _, _, _, _, eg, -, hat, hth⟩ := (unhide H2).node (unhide HX)
  cases eg
  obtain ⟨d0, d1, d2, d3, d4, d5, d6, d7, d8, d9, d10⟩ := hat
  obtain ⟨f0, f1, f2, f3, f4, f5, f6, f7, f8, f9, f10⟩ := hth
  have q0 : w2.cell? ⟨p, 0, none⟩ = some (.slice (some ⟨g, off, none⟩) W.nodes.length cap) := (unhide H2).blk.at rfl
  have ha := acted (unhide H) hk (unhide HV) (unhide HB) (unhide BN)
  rw [show (#[.int .i64 y.1.id, .int .i64 y.1.n, .int .i64 y.1.term, .int .i64 y.1.vote, .slice b1 m1 r1, .int .i64 y.1.commit, .int .i64 y.1.role, .int .i64 y.1.boss, .slice b2 m2 r2, .slice b3 m3 r3, .slice b4 m4 r4] : Array Value).toList = [.int .i64 y.1.id, .int .i64 y.1.n, .int .i64 y.1.term, .int .i64 y.1.vote, .slice b1 m1 r1, .int .i64 y.1.commit, .int .i64 y.1.role, .int .i64 y.1.boss, .slice b2 m2 r2, .slice b3 m3 r3, .slice b4 m4 r4] from rfl, set11] at ha
  have HA := hide ha
  clear ha
  go_region
  clear t0 t1 t2 t3 t4 t5 t6 t7 t8 t9 t10 d0 d1 d2 d3 d4 d5 d6 d7 d8 d9 d10 f0 f1 f2 f3 f4 f5 f6 f7 f8 f9 f10 q0
  generalize (((((((((((w2.setCell ⟨g, off + k * 11, none⟩ (.int .i64 y.1.id)).setCell ⟨g, off + k * 11 + 1, none⟩ (.int .i64 y.1.n)).setCell ⟨g, off + k * 11 + 2, none⟩ (.int .i64 y.1.term)).setCell ⟨g, off + k * 11 + 3, none⟩ (.int .i64 y.1.vote)).setCell ⟨g, off + k * 11 + 4, none⟩ (.slice b1 m1 r1)).setCell ⟨g, off + k * 11 + 5, none⟩ (.int .i64 y.1.commit)).setCell ⟨g, off + k * 11 + 6, none⟩ (.int .i64 y.1.role)).setCell ⟨g, off + k * 11 + 7, none⟩ (.int .i64 y.1.boss)).setCell ⟨g, off + k * 11 + 8, none⟩ (.slice b2 m2 r2)).setCell ⟨g, off + k * 11 + 9, none⟩ (.slice b3 m3 r3)).setCell ⟨g, off + k * 11 + 10, none⟩ (.slice b4 m4 r4)).drew = w3 at HA ⊢
  have h3 := (unhide HA).1
  obtain ⟨cs, hsc, hmc⟩ := MV.keep (unhide HA).2.2.1 (unhide HM)
  have HC := hide (And.intro hsc hmc)
  obtain ⟨na, NL, ncap, ta, TL, tcap, -, hTV, -, hTL, -, -, -, -, q1, z0, z1⟩ := h3.tell
  have RT := h3.net
  rw [unhide hTV] at RT
  have HR := hide RT
  have H3 := hide h3
  have hsz := hide h3.szB
  clear hsc hmc h3 RT X0 H2 BN
  obtain ⟨i0, I0, I1, I2, I3⟩ := info_parts info_M
  have I0' := hide I0
  have I1' := hide I1
  have I2' := hide I2
  have I3' := hide I3
  clear I0 I1 I2 I3
  have l1 : Hid (W.net.length + y.2.length ≤ maxLen) := hide (by unfold maxLen; have := unhide HT; have := unhide HL; omega)
  have l2 : Hid ((W.net.length + y.2.length) * 88 ≤ 140737488355328) := hide (by have := unhide HT; have := unhide HL; omega)
  go_wp2_with (at_builtin; refine wpList_append_ro rfl _ _ 25 rfl B 40 i0 (.agg #[.int .i64 0, .int .i64 0, .int .i64 0, .int .i64 0, .int .i64 0, .int .i64 0, .int .i64 0, .slice none 0 0, .bool false]) 9 88 Try.underlying25 (unhide I0') (unhide I1') (unhide I2') (unhide I3') rfl (by decide) _ _ _ _ _ _ rfl rfl (unhide HR) (unhide HC).1 (unhide HC).2.one (unhide l1) (unhide l2) (unhide hsz) (no_M _ _ _ _ _ _ (unhide HR)) ?_)
  intro tv' w4 ho hg hu
  obtain ⟨ta', TL', tcap', rfl, _, _, _⟩ := SC.shp ho.sc
  have hp4 : BK w4 p 56 #[.slice (some ⟨g, off, none⟩) W.nodes.length cap, .slice ta TL tcap] := (hg.block p (unhide H3).lo fun e => (unhide H3).pt (by rw [unhide hTV]; exact e.symm)).trans (by have := (unhide H3).blk; rw [unhide hTV] at this; exact this)
  have y1 : w4.cell? ⟨p, 1, none⟩ = some (.slice ta TL tcap) := hp4.at rfl
  have y2 : w4.frozen? ⟨p, 1, none⟩ = false := hp4.thaw _
  have HF : Hid (CW A B (w4.setCell ⟨p, 1, none⟩ (.slice ta' TL' tcap')) p { nodes := W.nodes.set k y.1, net := W.net ++ y.2 } _ _ _ _) := hide ((unhide H3).setNet (T := W.net ++ y.2) (by rw [unhide hTV]; exact hg) (by rw [List.length_append]; exact ho) (by rw [unhide hTV]; exact hu) (MC.app (unhide HC).2 (unhide H3).tC))
  have HR4 := hide ((unhide HA).2.2.2.trans ((unhide H3).setNetFr (w1 := w4) (tv' := .slice ta' TL' tcap') (by rw [unhide hTV]; exact hg) (by rw [unhide hTV]; exact hu)))
  have HB4 : Hid (Below B w (w4.setCell ⟨p, 1, none⟩ (.slice ta' TL' tcap'))) := hide (((unhide HA).2.1.trans ((Below.refl B w3).grown hg (unhide hsz) fun b hb => ((unhide HR).lt b hb).1)).setCell (unhide H3).low _)
  clear q1 z0 z1 hp4 ho hg hu
  go_wp2
  go_end0
  exact ⟨rfl, _, _, _, _, unhide HF, unhide HB4, unhide HR4⟩

end Go.Proofs.Ytneepoaimbnneaa.CL

namespace Go.Proofs.Ytneepoaimbnneaa.CL
open Go.RowKit
variable {A : Nat → Prop}

set_option maxHeartbeats 4000000 in
set_option maxRecDepth 100000 in
theorem act_rest (y : Rf.Node × List Rf.Msg) (B p k : Nat) (x : Rf.Node) (W : Rf.Wd) (nv tv : Value) (nc tc : List Value) (w : World) (h : CW A B w p W nv tv nc tc) (hx : W.nodes[k]? = some x) (hN : W.nodes.length ≤ 1000) (hT : W.net.length ≤ 1000) (hl : y.2.length ≤ 1000) (hd : Does 31 #[] (Fp A w p nv tv) w x y) :
    Calls Try.prog 20 #[.pointer (some ⟨p, 0, none⟩), .int .i64 ((k : Int) + 1), .func (.func 31) #[] #[]] w (PC A B p nv tv w { nodes := W.nodes.set k y.1, net := W.net ++ y.2 }) := by
  have hk : k < W.nodes.length := (List.getElem?_eq_some_iff.1 hx).1
  obtain ⟨g, off, cap, a1, n1, c1, a2, n2, c2, a3, n3, c3, a4, n4, c4, rfl, hv, hat, -⟩ := h.node hx
  obtain ⟨d0, d1, d2, d3, d4, d5, d6, d7, d8, d9, d10⟩ := hat
  have HD := hide (hd _ hv)
  have H := hide h
  have HX := hide hx
  have hle := h.nodes.parts.2.2.1
  have q0 : w.cell? ⟨p, 0, none⟩ = some (.slice (some ⟨g, off, none⟩) W.nodes.length cap) := h.blk.at rfl
  have e1 : IntKind.i64.wrap ((k : Int) + 1 - 1) = (k : Int) := by rw [show (k : Int) + 1 - 1 = (k : Int) by omega]; exact wrap_i64 (by omega) (by omega)
  have hk' : (k : Int) < (W.nodes.length : Int) := by omega
  have HT := hide hT
  have HL := hide hl
  clear hd hv h hx hT hl
  go_enter Try.func20, Try.ntmps20
  go_wp2_with fail
  refine (unhide HD).mono ?_
  rintro e w1 ⟨v', m, rfl, hv', hm, hb⟩
  clear d0 d1 d2 d3 d4 d5 d6 d7 d8 d9 d10 q0 HD
  obtain ⟨b1, m1, r1, b2, m2, r2, b3, m3, r3, b4, m4, r4, rfl⟩ := hv'.cellsC
  obtain ⟨ma, ML, mc, rfl, hML, _, _⟩ := SC.shp hm.choose_spec.1
  have HM := hide hm
  have HB := hide hb
  have HV := hide hv'
  clear hm hb hv'
  have bn : Below w1.heap.size w1 (w1.alloc (.cells #[.int .i64 y.1.id, .int .i64 y.1.n, .int .i64 y.1.term, .int .i64 y.1.vote, .slice b1 m1 r1, .int .i64 y.1.commit, .int .i64 y.1.role, .int .i64 y.1.boss, .slice b2 m2 r2, .slice b3 m3 r3, .slice b4 m4 r4] 34)) := below_new _ _
  have X0 : Hid (BK (w1.alloc (.cells #[.int .i64 y.1.id, .int .i64 y.1.n, .int .i64 y.1.term, .int .i64 y.1.vote, .slice b1 m1 r1, .int .i64 y.1.commit, .int .i64 y.1.role, .int .i64 y.1.boss, .slice b2 m2 r2, .slice b3 m3 r3, .slice b4 m4 r4] 34)) w1.heap.size 34 #[.int .i64 y.1.id, .int .i64 y.1.n, .int .i64 y.1.term, .int .i64 y.1.vote, .slice b1 m1 r1, .int .i64 y.1.commit, .int .i64 y.1.role, .int .i64 y.1.boss, .slice b2 m2 r2, .slice b3 m3 r3, .slice b4 m4 r4]) := hide (BK.new _ _ _)
  have H2 := hide (((unhide H).below (unhide HB)).below bn)
  have BN := hide bn
  clear bn
  go_upto_region 1 with fail
  generalize w1.alloc (.cells #[.int .i64 y.1.id, .int .i64 y.1.n, .int .i64 y.1.term, .int .i64 y.1.vote, .slice b1 m1 r1, .int .i64 y.1.commit, .int .i64 y.1.role, .int .i64 y.1.boss, .slice b2 m2 r2, .slice b3 m3 r3, .slice b4 m4 r4] 34) = w2 at X0 H2 BN ⊢
  obtain ⟨t0, t1, t2, t3, t4, t5, t6, t7, t8, t9, t10⟩ := (show NX w2 w1.heap.size _ _ _ _ _ _ _ _ _ _ _ from unhide X0).tell
  obtain ⟨g', off', cap', _, _, _, _, _, _, _, _, _, _, _, _, eg, -, hat, hth⟩ := (unhide H2).node (unhide HX)
  cases eg
  obtain ⟨d0, d1, d2, d3, d4, d5, d6, d7, d8, d9, d10⟩ := hat
  obtain ⟨f0, f1, f2, f3, f4, f5, f6, f7, f8, f9, f10⟩ := hth
  have q0 : w2.cell? ⟨p, 0, none⟩ = some (.slice (some ⟨g, off, none⟩) W.nodes.length cap) := (unhide H2).blk.at rfl
  have ha := acted (unhide H) hk (unhide HV) (unhide HB) (unhide BN)
  rw [show (#[.int .i64 y.1.id, .int .i64 y.1.n, .int .i64 y.1.term, .int .i64 y.1.vote, .slice b1 m1 r1, .int .i64 y.1.commit, .int .i64 y.1.role, .int .i64 y.1.boss, .slice b2 m2 r2, .slice b3 m3 r3, .slice b4 m4 r4] : Array Value).toList = [.int .i64 y.1.id, .int .i64 y.1.n, .int .i64 y.1.term, .int .i64 y.1.vote, .slice b1 m1 r1, .int .i64 y.1.commit, .int .i64 y.1.role, .int .i64 y.1.boss, .slice b2 m2 r2, .slice b3 m3 r3, .slice b4 m4 r4] from rfl, set11] at ha
  have HA := hide ha
  clear ha
  go_region
  clear t0 t1 t2 t3 t4 t5 t6 t7 t8 t9 t10 d0 d1 d2 d3 d4 d5 d6 d7 d8 d9 d10 f0 f1 f2 f3 f4 f5 f6 f7 f8 f9 f10 q0
  generalize (((((((((((w2.setCell ⟨g, off + k * 11, none⟩ (.int .i64 y.1.id)).setCell ⟨g, off + k * 11 + 1, none⟩ (.int .i64 y.1.n)).setCell ⟨g, off + k * 11 + 2, none⟩ (.int .i64 y.1.term)).setCell ⟨g, off + k * 11 + 3, none⟩ (.int .i64 y.1.vote)).setCell ⟨g, off + k * 11 + 4, none⟩ (.slice b1 m1 r1)).setCell ⟨g, off + k * 11 + 5, none⟩ (.int .i64 y.1.commit)).setCell ⟨g, off + k * 11 + 6, none⟩ (.int .i64 y.1.role)).setCell ⟨g, off + k * 11 + 7, none⟩ (.int .i64 y.1.boss)).setCell ⟨g, off + k * 11 + 8, none⟩ (.slice b2 m2 r2)).setCell ⟨g, off + k * 11 + 9, none⟩ (.slice b3 m3 r3)).setCell ⟨g, off + k * 11 + 10, none⟩ (.slice b4 m4 r4)).drew = w3 at HA ⊢
  have h3 := (unhide HA).1
  obtain ⟨cs, hsc, hmc⟩ := MV.keep (unhide HA).2.2.1 (unhide HM)
  have HC := hide (And.intro hsc hmc)
  obtain ⟨na, NL, ncap, ta, TL, tcap, -, hTV, -, hTL, -, -, -, -, q1, z0, z1⟩ := h3.tell
  have RT := h3.net
  rw [unhide hTV] at RT
  have HR := hide RT
  have H3 := hide h3
  have hsz := hide h3.szB
  clear hsc hmc h3 RT X0 H2 BN
  obtain ⟨i0, I0, I1, I2, I3⟩ := info_parts info_M
  have I0' := hide I0
  have I1' := hide I1
  have I2' := hide I2
  have I3' := hide I3
  clear I0 I1 I2 I3
  have l1 : Hid (W.net.length + y.2.length ≤ maxLen) := hide (by unfold maxLen; have := unhide HT; have := unhide HL; omega)
  have l2 : Hid ((W.net.length + y.2.length) * 88 ≤ 140737488355328) := hide (by have := unhide HT; have := unhide HL; omega)
  go_wp2_with (at_builtin; refine wpList_append_ro rfl _ _ 25 rfl B 40 i0 (.agg #[.int .i64 0, .int .i64 0, .int .i64 0, .int .i64 0, .int .i64 0, .int .i64 0, .int .i64 0, .slice none 0 0, .bool false]) 9 88 Try.underlying25 (unhide I0') (unhide I1') (unhide I2') (unhide I3') rfl (by decide) _ _ _ _ _ _ rfl rfl (unhide HR) (unhide HC).1 (unhide HC).2.one (unhide l1) (unhide l2) (unhide hsz) (no_M _ _ _ _ _ _ (unhide HR)) ?_)
  intro tv' w4 ho hg hu
  obtain ⟨ta', TL', tcap', rfl, _, _, _⟩ := SC.shp ho.sc
  have hp4 : BK w4 p 56 #[.slice (some ⟨g, off, none⟩) W.nodes.length cap, .slice ta TL tcap] := (hg.block p (unhide H3).lo fun e => (unhide H3).pt (by rw [unhide hTV]; exact e.symm)).trans (by have := (unhide H3).blk; rw [unhide hTV] at this; exact this)
  have y1 : w4.cell? ⟨p, 1, none⟩ = some (.slice ta TL tcap) := hp4.at rfl
  have y2 : w4.frozen? ⟨p, 1, none⟩ = false := hp4.thaw _
  have HF : Hid (CW A B (w4.setCell ⟨p, 1, none⟩ (.slice ta' TL' tcap')) p { nodes := W.nodes.set k y.1, net := W.net ++ y.2 } _ _ _ _) := hide ((unhide H3).setNet (T := W.net ++ y.2) (by rw [unhide hTV]; exact hg) (by rw [List.length_append]; exact ho) (by rw [unhide hTV]; exact hu) (MC.app (unhide HC).2 (unhide H3).tC))
  have HR4 := hide ((unhide HA).2.2.2.trans ((unhide H3).setNetFr (w1 := w4) (tv' := .slice ta' TL' tcap') (by rw [unhide hTV]; exact hg) (by rw [unhide hTV]; exact hu)))
  have HB4 : Hid (Below B w (w4.setCell ⟨p, 1, none⟩ (.slice ta' TL' tcap'))) := hide (((unhide HA).2.1.trans ((Below.refl B w3).grown hg (unhide hsz) fun b hb => ((unhide HR).lt b hb).1)).setCell (unhide H3).low _)
  clear q1 z0 z1 hp4 ho hg hu
  go_wp2
  go_end0
  exact ⟨rfl, _, _, _, _, unhide HF, unhide HB4, unhide HR4⟩

end Go.Proofs.Ytneepoaimbnneaa.CL

namespace Go.Proofs.Ytneepoaimbnneaa.CL
open Go.RowKit
variable {A : Nat → Prop}

set_option maxHeartbeats 4000000 in
set_option maxRecDepth 100000 in
theorem act_recv (y : Rf.Node × List Rf.Msg) (B p k bx : Nat) (x : Rf.Node) (W : Rf.Wd) (nv tv : Value) (nc tc : List Value) (w : World) (h : CW A B w p W nv tv nc tc) (hx : W.nodes[k]? = some x) (hN : W.nodes.length ≤ 1000) (hT : W.net.length ≤ 1000) (hl : y.2.length ≤ 1000) (hd : Does 34 #[.pointer (some ⟨bx, 0, none⟩)] (Fp A w p nv tv) w x y) :
    Calls Try.prog 20 #[.pointer (some ⟨p, 0, none⟩), .int .i64 ((k : Int) + 1), .func (.func 34) #[] #[.pointer (some ⟨bx, 0, none⟩)]] w (PC A B p nv tv w { nodes := W.nodes.set k y.1, net := W.net ++ y.2 }) := by
  have hk : k < W.nodes.length := (List.getElem?_eq_some_iff.1 hx).1
  obtain ⟨g, off, cap, a1, n1, c1, a2, n2, c2, a3, n3, c3, a4, n4, c4, rfl, hv, hat, -⟩ := h.node hx
  obtain ⟨d0, d1, d2, d3, d4, d5, d6, d7, d8, d9, d10⟩ := hat
  have HD := hide (hd _ hv)
  have H := hide h
  have HX := hide hx
  have hle := h.nodes.parts.2.2.1
  have q0 : w.cell? ⟨p, 0, none⟩ = some (.slice (some ⟨g, off, none⟩) W.nodes.length cap) := h.blk.at rfl
  have e1 : IntKind.i64.wrap ((k : Int) + 1 - 1) = (k : Int) := by rw [show (k : Int) + 1 - 1 = (k : Int) by omega]; exact wrap_i64 (by omega) (by omega)
  have hk' : (k : Int) < (W.nodes.length : Int) := by omega
  have HT := hide hT
  have HL := hide hl
  clear hd hv h hx hT hl
  go_enter Try.func20, Try.ntmps20
  go_wp2_with fail
  refine (unhide HD).mono ?_
  rintro e w1 ⟨v', m, rfl, hv', hm, hb⟩
  clear d0 d1 d2 d3 d4 d5 d6 d7 d8 d9 d10 q0 HD
  obtain ⟨b1, m1, r1, b2, m2, r2, b3, m3, r3, b4, m4, r4, rfl⟩ := hv'.cellsC
  obtain ⟨ma, ML, mc, rfl, hML, _, _⟩ := SC.shp hm.choose_spec.1
  have HM := hide hm
  have HB := hide hb
  have HV := hide hv'
  clear hm hb hv'
  have bn : Below w1.heap.size w1 (w1.alloc (.cells #[.int .i64 y.1.id, .int .i64 y.1.n, .int .i64 y.1.term, .int .i64 y.1.vote, .slice b1 m1 r1, .int .i64 y.1.commit, .int .i64 y.1.role, .int .i64 y.1.boss, .slice b2 m2 r2, .slice b3 m3 r3, .slice b4 m4 r4] 34)) := below_new _ _
  have X0 : Hid (BK (w1.alloc (.cells #[.int .i64 y.1.id, .int .i64 y.1.n, .int .i64 y.1.term, .int .i64 y.1.vote, .slice b1 m1 r1, .int .i64 y.1.commit, .int .i64 y.1.role, .int .i64 y.1.boss, .slice b2 m2 r2, .slice b3 m3 r3, .slice b4 m4 r4] 34)) w1.heap.size 34 #[.int .i64 y.1.id, .int .i64 y.1.n, .int .i64 y.1.term, .int .i64 y.1.vote, .slice b1 m1 r1, .int .i64 y.1.commit, .int .i64 y.1.role, .int .i64 y.1.boss, .slice b2 m2 r2, .slice b3 m3 r3, .slice b4 m4 r4]) := hide (BK.new _ _ _)
  have H2 := hide (((unhide H).below (unhide HB)).below bn)
  have BN := hide bn
  clear bn
  go_upto_region 1 with fail
  generalize w1.alloc (.cells #[.int .i64 y.1.id, .int .i64 y.1.n, .int .i64 y.1.term, .int .i64 y.1.vote, .slice b1 m1 r1, .int .i64 y.1.commit, .int .i64 y.1.role, .int .i64 y.1.boss, .slice b2 m2 r2, .slice b3 m3 r3, .slice b4 m4 r4] 34) = w2 at X0 H2 BN ⊢
  obtain ⟨t0, t1, t2, t3, t4, t5, t6, t7, t8, t9, t10⟩ := (show NX w2 w1.heap.size _ _ _ _ _ _ _ _ _ _ _ from unhide X0).tell
  obtain ⟨g', off', cap', _, _, _, _, _, _, _, _, _, _, _, _, eg, -, hat, hth⟩ := (unhide H2).node (unhide HX)
  cases eg
  obtain ⟨d0, d1, d2, d3, d4, d5, d6, d7, d8, d9, d10⟩ := hat
  obtain ⟨f0, f1, f2, f3, f4, f5, f6, f7, f8, f9, f10⟩ := hth
  have q0 : w2.cell? ⟨p, 0, none⟩ = some (.slice (some ⟨g, off, none⟩) W.nodes.length cap) := (unhide H2).blk.at rfl
  have ha := acted (unhide H) hk (unhide HV) (unhide HB) (unhide BN)
  rw [show (#[.int .i64 y.1.id, .int .i64 y.1.n, .int .i64 y.1.term, .int .i64 y.1.vote, .slice b1 m1 r1, .int .i64 y.1.commit, .int .i64 y.1.role, .int .i64 y.1.boss, .slice b2 m2 r2, .slice b3 m3 r3, .slice b4 m4 r4] : Array Value).toList = [.int .i64 y.1.id, .int .i64 y.1.n, .int .i64 y.1.term, .int .i64 y.1.vote, .slice b1 m1 r1, .int .i64 y.1.commit, .int .i64 y.1.role, .int .i64 y.1.boss, .slice b2 m2 r2, .slice b3 m3 r3, .slice b4 m4 r4] from rfl, set11] at ha
  have HA := hide ha
  clear ha
  go_region
  clear t0 t1 t2 t3 t4 t5 t6 t7 t8 t9 t10 d0 d1 d2 d3 d4 d5 d6 d7 d8 d9 d10 f0 f1 f2 f3 f4 f5 f6 f7 f8 f9 f10 q0
  generalize (((((((((((w2.setCell ⟨g, off + k * 11, none⟩ (.int .i64 y.1.id)).setCell ⟨g, off + k * 11 + 1, none⟩ (.int .i64 y.1.n)).setCell ⟨g, off + k * 11 + 2, none⟩ (.int .i64 y.1.term)).setCell ⟨g, off + k * 11 + 3, none⟩ (.int .i64 y.1.vote)).setCell ⟨g, off + k * 11 + 4, none⟩ (.slice b1 m1 r1)).setCell ⟨g, off + k * 11 + 5, none⟩ (.int .i64 y.1.commit)).setCell ⟨g, off + k * 11 + 6, none⟩ (.int .i64 y.1.role)).setCell ⟨g, off + k * 11 + 7, none⟩ (.int .i64 y.1.boss)).setCell ⟨g, off + k * 11 + 8, none⟩ (.slice b2 m2 r2)).setCell ⟨g, off + k * 11 + 9, none⟩ (.slice b3 m3 r3)).setCell ⟨g, off + k * 11 + 10, none⟩ (.slice b4 m4 r4)).drew = w3 at HA ⊢
  have h3 := (unhide HA).1
  obtain ⟨cs, hsc, hmc⟩ := MV.keep (unhide HA).2.2.1 (unhide HM)
  have HC := hide (And.intro hsc hmc)
  obtain ⟨na, NL, ncap, ta, TL, tcap, -, hTV, -, hTL, -, -, -, -, q1, z0, z1⟩ := h3.tell
  have RT := h3.net
  rw [unhide hTV] at RT
  have HR := hide RT
  have H3 := hide h3
  have hsz := hide h3.szB
  clear hsc hmc h3 RT X0 H2 BN
  obtain ⟨i0, I0, I1, I2, I3⟩ := info_parts info_M
  have I0' := hide I0
  have I1' := hide I1
  have I2' := hide I2
  have I3' := hide I3
  clear I0 I1 I2 I3
  have l1 : Hid (W.net.length + y.2.length ≤ maxLen) := hide (by unfold maxLen; have := unhide HT; have := unhide HL; omega)
  have l2 : Hid ((W.net.length + y.2.length) * 88 ≤ 140737488355328) := hide (by have := unhide HT; have := unhide HL; omega)
  go_wp2_with (at_builtin; refine wpList_append_ro rfl _ _ 25 rfl B 40 i0 (.agg #[.int .i64 0, .int .i64 0, .int .i64 0, .int .i64 0, .int .i64 0, .int .i64 0, .int .i64 0, .slice none 0 0, .bool false]) 9 88 Try.underlying25 (unhide I0') (unhide I1') (unhide I2') (unhide I3') rfl (by decide) _ _ _ _ _ _ rfl rfl (unhide HR) (unhide HC).1 (unhide HC).2.one (unhide l1) (unhide l2) (unhide hsz) (no_M _ _ _ _ _ _ (unhide HR)) ?_)
  intro tv' w4 ho hg hu
  obtain ⟨ta', TL', tcap', rfl, _, _, _⟩ := SC.shp ho.sc
  have hp4 : BK w4 p 56 #[.slice (some ⟨g, off, none⟩) W.nodes.length cap, .slice ta TL tcap] := (hg.block p (unhide H3).lo fun e => (unhide H3).pt (by rw [unhide hTV]; exact e.symm)).trans (by have := (unhide H3).blk; rw [unhide hTV] at this; exact this)
  have y1 : w4.cell? ⟨p, 1, none⟩ = some (.slice ta TL tcap) := hp4.at rfl
  have y2 : w4.frozen? ⟨p, 1, none⟩ = false := hp4.thaw _
  have HF : Hid (CW A B (w4.setCell ⟨p, 1, none⟩ (.slice ta' TL' tcap')) p { nodes := W.nodes.set k y.1, net := W.net ++ y.2 } _ _ _ _) := hide ((unhide H3).setNet (T := W.net ++ y.2) (by rw [unhide hTV]; exact hg) (by rw [List.length_append]; exact ho) (by rw [unhide hTV]; exact hu) (MC.app (unhide HC).2 (unhide H3).tC))
  have HR4 := hide ((unhide HA).2.2.2.trans ((unhide H3).setNetFr (w1 := w4) (tv' := .slice ta' TL' tcap') (by rw [unhide hTV]; exact hg) (by rw [unhide hTV]; exact hu)))
  have HB4 : Hid (Below B w (w4.setCell ⟨p, 1, none⟩ (.slice ta' TL' tcap'))) := hide (((unhide HA).2.1.trans ((Below.refl B w3).grown hg (unhide hsz) fun b hb => ((unhide HR).lt b hb).1)).setCell (unhide H3).low _)
  clear q1 z0 z1 hp4 ho hg hu
  go_wp2
  go_end0
  exact ⟨rfl, _, _, _, _, unhide HF, unhide HB4, unhide HR4⟩

end Go.Proofs.Ytneepoaimbnneaa.CL

namespace Go.Proofs.Ytneepoaimbnneaa.CL
open Go.RowKit
variable {A : Nat → Prop}

theorem set11z (w : World) (r : Nat) (v0 v1 v2 v3 v4 v5 v6 v7 v8 v9 v10 : Value) : w.setCells r 0 [v0, v1, v2, v3, v4, v5, v6, v7, v8, v9, v10] = (((((((((((w.setCell ⟨r, 0, none⟩ v0).setCell ⟨r, 1, none⟩ v1).setCell ⟨r, 2, none⟩ v2).setCell ⟨r, 3, none⟩ v3).setCell ⟨r, 4, none⟩ v4).setCell ⟨r, 5, none⟩ v5).setCell ⟨r, 6, none⟩ v6).setCell ⟨r, 7, none⟩ v7).setCell ⟨r, 8, none⟩ v8).setCell ⟨r, 9, none⟩ v9).setCell ⟨r, 10, none⟩ v10) := rfl
theorem BK.store11 {w : World} {b : Nat} {t : TypeId} {z0 z1 z2 z3 z4 z5 z6 z7 z8 z9 z10 : Value} (h : BK w b t #[z0, z1, z2, z3, z4, z5, z6, z7, z8, z9, z10]) (v0 v1 v2 v3 v4 v5 v6 v7 v8 v9 v10 : Value) : BK (w.setCells b 0 [v0, v1, v2, v3, v4, v5, v6, v7, v8, v9, v10]) b t #[v0, v1, v2, v3, v4, v5, v6, v7, v8, v9, v10] := by
  rw [set11z]
  have h0 := h.set 0 v0
  simp only [List.setIfInBounds_toArray, List.set_cons_zero] at h0
  have h1 := h0.set 1 v1
  simp only [List.setIfInBounds_toArray, List.set_cons_zero, List.set_cons_succ] at h1
  have h2 := h1.set 2 v2
  simp only [List.setIfInBounds_toArray, List.set_cons_zero, List.set_cons_succ] at h2
  have h3 := h2.set 3 v3
  simp only [List.setIfInBounds_toArray, List.set_cons_zero, List.set_cons_succ] at h3
  have h4 := h3.set 4 v4
  simp only [List.setIfInBounds_toArray, List.set_cons_zero, List.set_cons_succ] at h4
  have h5 := h4.set 5 v5
  simp only [List.setIfInBounds_toArray, List.set_cons_zero, List.set_cons_succ] at h5
  have h6 := h5.set 6 v6
  simp only [List.setIfInBounds_toArray, List.set_cons_zero, List.set_cons_succ] at h6
  have h7 := h6.set 7 v7
  simp only [List.setIfInBounds_toArray, List.set_cons_zero, List.set_cons_succ] at h7
  have h8 := h7.set 8 v8
  simp only [List.setIfInBounds_toArray, List.set_cons_zero, List.set_cons_succ] at h8
  have h9 := h8.set 9 v9
  simp only [List.setIfInBounds_toArray, List.set_cons_zero, List.set_cons_succ] at h9
  have h10 := h9.set 10 v10
  simp only [List.setIfInBounds_toArray, List.set_cons_zero, List.set_cons_succ] at h10
  exact h10
/-- what lies elsewhere -/
theorem BK.apart {w : World} {b r o : Nat} {t : TypeId} {vs : Array Value} {us : List Value} (h : BK w b t vs) (hne : b ≠ r) : BK (w.setCells r o us) b t vs := ((grown_setCells w r us o).block b h.low fun e => hne (by cases e; rfl)).trans h
theorem keptCells {P : Nat → Prop} {w w0 w1 : World} (h0 : Below w.heap.size w w0) (h1 : Below w0.heap.size w0 w1) (hP : ∀ b, P b → b < w.heap.size) (r o : Nat) (hr : w.heap.size ≤ r) (hr0 : r < w0.heap.size) (us : List Value) :
    ∀ b, (P b ∨ Fresh w0 w1 b) → (P b ∨ Fresh w (w1.setCells r o us) b) ∧ (w1.setCells r o us).heap[b]? = w1.heap[b]? := by
  intro b hb
  have hs := grown_setCells w1 r us o
  have hlt : b < w1.heap.size := by
    rcases hb with q | q
    · exact Nat.lt_of_lt_of_le (hP b q) (Nat.le_trans h0.size h1.size)
    · exact q.2
  have hne : b ≠ r := by
    rcases hb with q | q
    · have := hP b q; omega
    · have := q.1; omega
  refine ⟨?_, hs.block b hlt fun e => hne (by cases e; rfl)⟩
  rcases hb with q | q
  · exact .inl q
  · exact .inr ⟨Nat.le_trans h0.size q.1, Nat.lt_of_lt_of_le hlt hs.size⟩
theorem keptNext {P S : Nat → Prop} {w w1 w2 : World} (ka : ∀ b, S b → (P b ∨ Fresh w w2 b) ∧ w2.heap[b]? = w1.heap[b]?) (hb : Below w.heap.size w w2) (hP : ∀ b, P b → b < w.heap.size) (r o : Nat) (us : List Value) (hne : ∀ b, S b → b ≠ r) : ∀ b, S b → (P b ∨ Fresh w (w2.setCells r o us) b) ∧ (w2.setCells r o us).heap[b]? = w1.heap[b]? := by
  intro b h
  obtain ⟨q1, q2⟩ := ka b h
  have hs := grown_setCells w2 r us o
  have hlt : b < w2.heap.size := by
    rcases q1 with q | q
    · exact Nat.lt_of_lt_of_le (hP b q) hb.size
    · exact q.2
  refine ⟨?_, (hs.block b hlt fun e => hne b h (by cases e; rfl)).trans q2⟩
  rcases q1 with q | q
  · exact .inl q
  · exact .inr ⟨q.1, Nat.lt_of_lt_of_le hlt hs.size⟩
/-- what a deed tells in the end -/
theorem toldDeed {P : Nat → Prop} {w w0 w1 w2 : World} {y : Rf.Node × List Rf.Msg} {v : Array Value} {m : Value} (hv : NV (fun b => P b ∨ Fresh w0 w1 b) w1 v y.1) (hm : MV (Fresh w0 w1) w1 m y.2) (hb : Below w.heap.size w w2) (h0 : w.heap.size ≤ w0.heap.size) (hP : ∀ b, P b → b < w.heap.size) (ka : ∀ b, (P b ∨ Fresh w0 w1 b) → (P b ∨ Fresh w w2 b) ∧ w2.heap[b]? = w1.heap[b]?) : PNM P w y (.returned (.tuple #[.agg v, m])) w2 := by
  refine ⟨v, m, rfl, hv.keep ka, hm.keep fun b hf => ?_, hb⟩
  obtain ⟨q1, q2⟩ := ka b (.inr hf)
  refine ⟨?_, q2⟩
  rcases q1 with q | q
  · have := hP b q
    have := hf.1
    omega
  · exact q
theorem belowCells {w w1 : World} (h : Below w.heap.size w w1) (r o : Nat) (hr : w.heap.size ≤ r) (us : List Value) : Below w.heap.size w (w1.setCells r o us) := h.grown (grown_setCells w1 r us o) h.size fun k hk => by cases hk; exact hr

set_option maxHeartbeats 4000000 in
set_option maxRecDepth 100000 in
theorem prop_any (P : Nat → Prop) (x : Rf.Node) (y : Rf.Node × List Rf.Msg × Bool) (v : Array Value) (bx : Nat) (k0 k1 c : Int) (w : World) (hv : NV P w v x) (hP : ∀ b, P b → b < w.heap.size) (he : BK w bx 38 #[.int .i64 k0, .int .i64 k1, .int .i64 c])
    (hc : ∀ w0, NV P w0 v x → (∀ b, P b → b < w0.heap.size) → Calls Try.prog 30 #[.agg v, .int .i64 c] w0 (PNMB P w0 y)) :
    Calls Try.prog 29 #[.agg v, .pointer (some ⟨bx, 0, none⟩)] w (PNM P w (y.1, y.2.1)) := by
  obtain ⟨a1, n1, c1, a2, n2, c2, a3, n3, c3, a4, n4, c4, rfl⟩ := hv.cellsC
  have HV := hide hv
  have HP := hide hP
  have HC := hide hc
  clear hv hP hc
  have HB0 : Hid (Below w.heap.size w ((w.alloc (.cells #[.int .i64 x.id, .int .i64 x.n, .int .i64 x.term, .int .i64 x.vote, .slice a1 n1 c1, .int .i64 x.commit, .int .i64 x.role, .int .i64 x.boss, .slice a2 n2 c2, .slice a3 n3 c3, .slice a4 n4 c4] 34)).alloc (.cells #[.int .i64 0, .int .i64 0, .int .i64 0, .int .i64 0, .slice none 0 0, .int .i64 0, .int .i64 0, .int .i64 0, .slice none 0 0, .slice none 0 0, .slice none 0 0] 34))) := hide ((below_new w _).alloc (by simp) _)
  have X0 : Hid (BK ((w.alloc (.cells #[.int .i64 x.id, .int .i64 x.n, .int .i64 x.term, .int .i64 x.vote, .slice a1 n1 c1, .int .i64 x.commit, .int .i64 x.role, .int .i64 x.boss, .slice a2 n2 c2, .slice a3 n3 c3, .slice a4 n4 c4] 34)).alloc (.cells #[.int .i64 0, .int .i64 0, .int .i64 0, .int .i64 0, .slice none 0 0, .int .i64 0, .int .i64 0, .int .i64 0, .slice none 0 0, .slice none 0 0, .slice none 0 0] 34)) w.heap.size 34 #[.int .i64 x.id, .int .i64 x.n, .int .i64 x.term, .int .i64 x.vote, .slice a1 n1 c1, .int .i64 x.commit, .int .i64 x.role, .int .i64 x.boss, .slice a2 n2 c2, .slice a3 n3 c3, .slice a4 n4 c4]) := hide ((BK.new w _ _).keep (below_new _ _))
  have Z0 : Hid (BK ((w.alloc (.cells #[.int .i64 x.id, .int .i64 x.n, .int .i64 x.term, .int .i64 x.vote, .slice a1 n1 c1, .int .i64 x.commit, .int .i64 x.role, .int .i64 x.boss, .slice a2 n2 c2, .slice a3 n3 c3, .slice a4 n4 c4] 34)).alloc (.cells #[.int .i64 0, .int .i64 0, .int .i64 0, .int .i64 0, .slice none 0 0, .int .i64 0, .int .i64 0, .int .i64 0, .slice none 0 0, .slice none 0 0, .slice none 0 0] 34)) (w.heap.size + 1) 34 #[.int .i64 0, .int .i64 0, .int .i64 0, .int .i64 0, .slice none 0 0, .int .i64 0, .int .i64 0, .int .i64 0, .slice none 0 0, .slice none 0 0, .slice none 0 0]) := hide (by
    have := BK.new (w.alloc (.cells #[.int .i64 x.id, .int .i64 x.n, .int .i64 x.term, .int .i64 x.vote, .slice a1 n1 c1, .int .i64 x.commit, .int .i64 x.role, .int .i64 x.boss, .slice a2 n2 c2, .slice a3 n3 c3, .slice a4 n4 c4] 34)) 34 #[.int .i64 0, .int .i64 0, .int .i64 0, .int .i64 0, .slice none 0 0, .int .i64 0, .int .i64 0, .int .i64 0, .slice none 0 0, .slice none 0 0, .slice none 0 0]
    rwa [show (w.alloc (.cells #[.int .i64 x.id, .int .i64 x.n, .int .i64 x.term, .int .i64 x.vote, .slice a1 n1 c1, .int .i64 x.commit, .int .i64 x.role, .int .i64 x.boss, .slice a2 n2 c2, .slice a3 n3 c3, .slice a4 n4 c4] 34)).heap.size = w.heap.size + 1 by simp] at this)
  go_enter Try.func29, Try.ntmps29
  go_upto_region 1 with fail
  generalize (w.alloc (.cells #[.int .i64 x.id, .int .i64 x.n, .int .i64 x.term, .int .i64 x.vote, .slice a1 n1 c1, .int .i64 x.commit, .int .i64 x.role, .int .i64 x.boss, .slice a2 n2 c2, .slice a3 n3 c3, .slice a4 n4 c4] 34)).alloc (.cells #[.int .i64 0, .int .i64 0, .int .i64 0, .int .i64 0, .slice none 0 0, .int .i64 0, .int .i64 0, .int .i64 0, .slice none 0 0, .slice none 0 0, .slice none 0 0] 34) = w0 at HB0 X0 Z0 ⊢
  obtain ⟨t0, t1, t2, t3, t4, t5, t6, t7, t8, t9, t10⟩ := (show NX w0 w.heap.size _ _ _ _ _ _ _ _ _ _ _ from unhide X0).tell
  have hr0 : Hid (w.heap.size + 1 < w0.heap.size) := hide (unhide Z0).low
  have hr1 : Hid (w.heap.size < w0.heap.size) := hide (unhide X0).low
  have e2 : w0.cell? ⟨bx, 2, none⟩ = some (.int .i64 c) := (BK.at (he.keep (unhide HB0)) rfl)
  have C := hide (unhide HC w0 (NV.keep (fun b hb => ⟨hb, (unhide HB0).block b (unhide HP b hb)⟩) (unhide HV)) (fun b hb => Nat.lt_of_lt_of_le (unhide HP b hb) (unhide HB0).size))
  clear HC he
  go_wp2_with fail
  refine (unhide C).mono ?_
  rintro e w1 ⟨v', m, rfl, hv', hm, hb⟩
  clear C t0 t1 t2 t3 t4 t5 t6 t7 t8 t9 t10 e2
  obtain ⟨b1, m1, r1, b2, m2, r2, b3, m3, r3, b4, m4, r4, rfl⟩ := hv'.cellsC
  obtain ⟨ma, ML, mc, rfl, hML, _, _⟩ := SC.shp hm.choose_spec.1
  have HM := hide hm
  have HB := hide hb
  have HV1 := hide hv'
  have X1 := hide ((unhide X0).keep hb)
  have Z1 := hide ((unhide Z0).keep hb)
  clear hm hb hv' X0 Z0
  obtain ⟨f0, f1, f2, f3, f4, f5, f6, f7, f8, f9, f10⟩ := (unhide X1).thaw11
  obtain ⟨t0, t1, t2, t3, t4, t5, t6, t7, t8, t9, t10⟩ := (show NX w1 w.heap.size _ _ _ _ _ _ _ _ _ _ _ from unhide X1).tell
  go_upto_region 2 with fail
  have ka := keptCells (unhide HB0) (unhide HB) (unhide HP) w.heap.size 0 (Nat.le_refl _) (unhide hr1) [.int .i64 y.1.id, .int .i64 y.1.n, .int .i64 y.1.term, .int .i64 y.1.vote, .slice b1 m1 r1, .int .i64 y.1.commit, .int .i64 y.1.role, .int .i64 y.1.boss, .slice b2 m2 r2, .slice b3 m3 r3, .slice b4 m4 r4]
  have kb := belowCells (below_via (unhide HB0) (unhide HB)) w.heap.size 0 (Nat.le_refl _) [.int .i64 y.1.id, .int .i64 y.1.n, .int .i64 y.1.term, .int .i64 y.1.vote, .slice b1 m1 r1, .int .i64 y.1.commit, .int .i64 y.1.role, .int .i64 y.1.boss, .slice b2 m2 r2, .slice b3 m3 r3, .slice b4 m4 r4]
  have X2 := hide (BK.store11 (unhide X1) (.int .i64 y.1.id) (.int .i64 y.1.n) (.int .i64 y.1.term) (.int .i64 y.1.vote) (.slice b1 m1 r1) (.int .i64 y.1.commit) (.int .i64 y.1.role) (.int .i64 y.1.boss) (.slice b2 m2 r2) (.slice b3 m3 r3) (.slice b4 m4 r4))
  have Z2 := hide (BK.apart (r := w.heap.size) (o := 0) (us := [.int .i64 y.1.id, .int .i64 y.1.n, .int .i64 y.1.term, .int .i64 y.1.vote, .slice b1 m1 r1, .int .i64 y.1.commit, .int .i64 y.1.role, .int .i64 y.1.boss, .slice b2 m2 r2, .slice b3 m3 r3, .slice b4 m4 r4]) (unhide Z1) (by omega))
  have kc := fun b (hb : Fresh w0 w1 b) => (ka b (.inr hb)).2
  have hs := grown_setCells w1 w.heap.size [.int .i64 y.1.id, .int .i64 y.1.n, .int .i64 y.1.term, .int .i64 y.1.vote, .slice b1 m1 r1, .int .i64 y.1.commit, .int .i64 y.1.role, .int .i64 y.1.boss, .slice b2 m2 r2, .slice b3 m3 r3, .slice b4 m4 r4] 0
  have kd := hs.size
  rw [set11z] at ka kb kc kd
  rw [set11z] at X2 Z2
  have KA := hide ka
  have KB := hide kb
  have KC := hide (And.intro kc kd)
  clear ka kb kc kd hs t0 t1 t2 t3 t4 t5 t6 t7 t8 t9 t10 f0 f1 f2 f3 f4 f5 f6 f7 f8 f9 f10 X1 Z1
  generalize (((((((((((w1.setCell ⟨w.heap.size, 0, none⟩ (.int .i64 y.1.id)).setCell ⟨w.heap.size, 1, none⟩ (.int .i64 y.1.n)).setCell ⟨w.heap.size, 2, none⟩ (.int .i64 y.1.term)).setCell ⟨w.heap.size, 3, none⟩ (.int .i64 y.1.vote)).setCell ⟨w.heap.size, 4, none⟩ (.slice b1 m1 r1)).setCell ⟨w.heap.size, 5, none⟩ (.int .i64 y.1.commit)).setCell ⟨w.heap.size, 6, none⟩ (.int .i64 y.1.role)).setCell ⟨w.heap.size, 7, none⟩ (.int .i64 y.1.boss)).setCell ⟨w.heap.size, 8, none⟩ (.slice b2 m2 r2)).setCell ⟨w.heap.size, 9, none⟩ (.slice b3 m3 r3)).setCell ⟨w.heap.size, 10, none⟩ (.slice b4 m4 r4)) = w2 at KA KB KC X2 Z2 ⊢
  obtain ⟨t0, t1, t2, t3, t4, t5, t6, t7, t8, t9, t10⟩ := (show NX w2 w.heap.size _ _ _ _ _ _ _ _ _ _ _ from unhide X2).tell
  obtain ⟨s0, s1, s2, s3, s4, s5, s6, s7, s8, s9, s10⟩ := (show NX w2 (w.heap.size + 1) _ _ _ _ _ _ _ _ _ _ _ from unhide Z2).tell
  obtain ⟨f0, f1, f2, f3, f4, f5, f6, f7, f8, f9, f10⟩ := (unhide Z2).thaw11
  have ka := keptNext (unhide KA) (unhide KB) (unhide HP) (w.heap.size + 1) 0 [.int .i64 y.1.id, .int .i64 y.1.n, .int .i64 y.1.term, .int .i64 y.1.vote, .slice b1 m1 r1, .int .i64 y.1.commit, .int .i64 y.1.role, .int .i64 y.1.boss, .slice b2 m2 r2, .slice b3 m3 r3, .slice b4 m4 r4] (fun b hb => by
    have h0 := unhide hr0
    rcases hb with q | q
    · have := unhide HP b q; omega
    · have := q.1; omega)
  have kb := belowCells (unhide KB) (w.heap.size + 1) 0 (by omega) [.int .i64 y.1.id, .int .i64 y.1.n, .int .i64 y.1.term, .int .i64 y.1.vote, .slice b1 m1 r1, .int .i64 y.1.commit, .int .i64 y.1.role, .int .i64 y.1.boss, .slice b2 m2 r2, .slice b3 m3 r3, .slice b4 m4 r4]
  have TE := toldDeed (y := (y.1, y.2.1)) (unhide HV1) (unhide HM) kb (unhide HB0).size (unhide HP) ka
  rw [set11z] at TE
  replace TE := hide TE
  clear ka kb
  go_wp2
  refine bodyPost_ret (v := .tuple #[.agg #[.int .i64 y.1.id, .int .i64 y.1.n, .int .i64 y.1.term, .int .i64 y.1.vote, .slice b1 m1 r1, .int .i64 y.1.commit, .int .i64 y.1.role, .int .i64 y.1.boss, .slice b2 m2 r2, .slice b3 m3 r3, .slice b4 m4 r4], .slice ma ML mc]) (by simp [results, Try.results29, go_sem, s0, s1, s2, s3, s4, s5, s6, s7, s8, s9, s10]) rfl ?_
  exact unhide TE

set_option maxHeartbeats 4000000 in
set_option maxRecDepth 100000 in
theorem rest_any (P : Nat → Prop) (x y : Rf.Node) (v : Array Value) (w : World) (hv : NV P w v x) (hP : ∀ b, P b → b < w.heap.size)
    (hc : ∀ w0, NV P w0 v x → (∀ b, P b → b < w0.heap.size) → Calls Try.prog 32 #[.agg v] w0 (PN P w0 y)) :
    Calls Try.prog 31 #[.agg v] w (PNM P w (y, [])) := by
  obtain ⟨a1, n1, c1, a2, n2, c2, a3, n3, c3, a4, n4, c4, rfl⟩ := hv.cellsC
  have HV := hide hv
  have HP := hide hP
  have HC := hide hc
  clear hv hP hc
  have HB0 : Hid (Below w.heap.size w ((w.alloc (.cells #[.int .i64 x.id, .int .i64 x.n, .int .i64 x.term, .int .i64 x.vote, .slice a1 n1 c1, .int .i64 x.commit, .int .i64 x.role, .int .i64 x.boss, .slice a2 n2 c2, .slice a3 n3 c3, .slice a4 n4 c4] 34)).alloc (.cells #[.int .i64 0, .int .i64 0, .int .i64 0, .int .i64 0, .slice none 0 0, .int .i64 0, .int .i64 0, .int .i64 0, .slice none 0 0, .slice none 0 0, .slice none 0 0] 34))) := hide ((below_new w _).alloc (by simp) _)
  have X0 : Hid (BK ((w.alloc (.cells #[.int .i64 x.id, .int .i64 x.n, .int .i64 x.term, .int .i64 x.vote, .slice a1 n1 c1, .int .i64 x.commit, .int .i64 x.role, .int .i64 x.boss, .slice a2 n2 c2, .slice a3 n3 c3, .slice a4 n4 c4] 34)).alloc (.cells #[.int .i64 0, .int .i64 0, .int .i64 0, .int .i64 0, .slice none 0 0, .int .i64 0, .int .i64 0, .int .i64 0, .slice none 0 0, .slice none 0 0, .slice none 0 0] 34)) w.heap.size 34 #[.int .i64 x.id, .int .i64 x.n, .int .i64 x.term, .int .i64 x.vote, .slice a1 n1 c1, .int .i64 x.commit, .int .i64 x.role, .int .i64 x.boss, .slice a2 n2 c2, .slice a3 n3 c3, .slice a4 n4 c4]) := hide ((BK.new w _ _).keep (below_new _ _))
  have Z0 : Hid (BK ((w.alloc (.cells #[.int .i64 x.id, .int .i64 x.n, .int .i64 x.term, .int .i64 x.vote, .slice a1 n1 c1, .int .i64 x.commit, .int .i64 x.role, .int .i64 x.boss, .slice a2 n2 c2, .slice a3 n3 c3, .slice a4 n4 c4] 34)).alloc (.cells #[.int .i64 0, .int .i64 0, .int .i64 0, .int .i64 0, .slice none 0 0, .int .i64 0, .int .i64 0, .int .i64 0, .slice none 0 0, .slice none 0 0, .slice none 0 0] 34)) (w.heap.size + 1) 34 #[.int .i64 0, .int .i64 0, .int .i64 0, .int .i64 0, .slice none 0 0, .int .i64 0, .int .i64 0, .int .i64 0, .slice none 0 0, .slice none 0 0, .slice none 0 0]) := hide (by
    have := BK.new (w.alloc (.cells #[.int .i64 x.id, .int .i64 x.n, .int .i64 x.term, .int .i64 x.vote, .slice a1 n1 c1, .int .i64 x.commit, .int .i64 x.role, .int .i64 x.boss, .slice a2 n2 c2, .slice a3 n3 c3, .slice a4 n4 c4] 34)) 34 #[.int .i64 0, .int .i64 0, .int .i64 0, .int .i64 0, .slice none 0 0, .int .i64 0, .int .i64 0, .int .i64 0, .slice none 0 0, .slice none 0 0, .slice none 0 0]
    rwa [show (w.alloc (.cells #[.int .i64 x.id, .int .i64 x.n, .int .i64 x.term, .int .i64 x.vote, .slice a1 n1 c1, .int .i64 x.commit, .int .i64 x.role, .int .i64 x.boss, .slice a2 n2 c2, .slice a3 n3 c3, .slice a4 n4 c4] 34)).heap.size = w.heap.size + 1 by simp] at this)
  go_enter Try.func31, Try.ntmps31
  go_upto_region 1 with fail
  generalize (w.alloc (.cells #[.int .i64 x.id, .int .i64 x.n, .int .i64 x.term, .int .i64 x.vote, .slice a1 n1 c1, .int .i64 x.commit, .int .i64 x.role, .int .i64 x.boss, .slice a2 n2 c2, .slice a3 n3 c3, .slice a4 n4 c4] 34)).alloc (.cells #[.int .i64 0, .int .i64 0, .int .i64 0, .int .i64 0, .slice none 0 0, .int .i64 0, .int .i64 0, .int .i64 0, .slice none 0 0, .slice none 0 0, .slice none 0 0] 34) = w0 at HB0 X0 Z0 ⊢
  obtain ⟨t0, t1, t2, t3, t4, t5, t6, t7, t8, t9, t10⟩ := (show NX w0 w.heap.size _ _ _ _ _ _ _ _ _ _ _ from unhide X0).tell
  have hr0 : Hid (w.heap.size + 1 < w0.heap.size) := hide (unhide Z0).low
  have hr1 : Hid (w.heap.size < w0.heap.size) := hide (unhide X0).low
  have C := hide (unhide HC w0 (NV.keep (fun b hb => ⟨hb, (unhide HB0).block b (unhide HP b hb)⟩) (unhide HV)) (fun b hb => Nat.lt_of_lt_of_le (unhide HP b hb) (unhide HB0).size))
  clear HC
  go_wp2_with fail
  refine (unhide C).mono ?_
  rintro e w1 ⟨v', rfl, hv', hb⟩
  clear C t0 t1 t2 t3 t4 t5 t6 t7 t8 t9 t10
  obtain ⟨b1, m1, r1, b2, m2, r2, b3, m3, r3, b4, m4, r4, rfl⟩ := hv'.cellsC
  have HB := hide hb
  have HV1 := hide hv'
  have Z1 := hide ((unhide Z0).keep hb)
  clear hb hv' X0 Z0
  obtain ⟨s0, s1, s2, s3, s4, s5, s6, s7, s8, s9, s10⟩ := (show NX w1 (w.heap.size + 1) _ _ _ _ _ _ _ _ _ _ _ from unhide Z1).tell
  obtain ⟨f0, f1, f2, f3, f4, f5, f6, f7, f8, f9, f10⟩ := (unhide Z1).thaw11
  have ka := keptCells (unhide HB0) (unhide HB) (unhide HP) (w.heap.size + 1) 0 (by omega) (unhide hr0) [.int .i64 y.id, .int .i64 y.n, .int .i64 y.term, .int .i64 y.vote, .slice b1 m1 r1, .int .i64 y.commit, .int .i64 y.role, .int .i64 y.boss, .slice b2 m2 r2, .slice b3 m3 r3, .slice b4 m4 r4]
  have kb := belowCells (below_via (unhide HB0) (unhide HB)) (w.heap.size + 1) 0 (by omega) [.int .i64 y.id, .int .i64 y.n, .int .i64 y.term, .int .i64 y.vote, .slice b1 m1 r1, .int .i64 y.commit, .int .i64 y.role, .int .i64 y.boss, .slice b2 m2 r2, .slice b3 m3 r3, .slice b4 m4 r4]
  have TE := toldDeed (y := (y, [])) (unhide HV1) (MV.nil _ _) kb (unhide HB0).size (unhide HP) ka
  rw [set11z] at TE
  replace TE := hide TE
  clear ka kb
  go_wp2
  refine bodyPost_ret (v := .tuple #[.agg #[.int .i64 y.id, .int .i64 y.n, .int .i64 y.term, .int .i64 y.vote, .slice b1 m1 r1, .int .i64 y.commit, .int .i64 y.role, .int .i64 y.boss, .slice b2 m2 r2, .slice b3 m3 r3, .slice b4 m4 r4], .slice none 0 0]) (by simp [results, Try.results31, go_sem, s0, s1, s2, s3, s4, s5, s6, s7, s8, s9, s10]) rfl ?_
  exact unhide TE

set_option maxHeartbeats 4000000 in
set_option maxRecDepth 100000 in
theorem recv_any (P : Nat → Prop) (x : Rf.Node) (m : Rf.Msg) (y : Rf.Node × List Rf.Msg) (v : Array Value) (bx : Nat) (ia : Option Addr) (IL ic : Nat) (w : World) (hv : NV P w v x) (hP : ∀ b, P b → b < w.heap.size) (he : BK w bx 40 #[.int .i64 m.kind, .int .i64 m.frm, .int .i64 m.dest, .int .i64 m.term, .int .i64 m.index, .int .i64 m.logTerm, .int .i64 m.commit, .slice ia IL ic, .bool m.yes])
    (hc : ∀ w0, Below w.heap.size w w0 → NV P w0 v x → (∀ b, P b → b < w0.heap.size) → Calls Try.prog 35 #[.agg v, .agg #[.int .i64 m.kind, .int .i64 m.frm, .int .i64 m.dest, .int .i64 m.term, .int .i64 m.index, .int .i64 m.logTerm, .int .i64 m.commit, .slice ia IL ic, .bool m.yes]] w0 (PNM P w0 y)) :
    Calls Try.prog 34 #[.agg v, .pointer (some ⟨bx, 0, none⟩)] w (PNM P w y) := by
  obtain ⟨a1, n1, c1, a2, n2, c2, a3, n3, c3, a4, n4, c4, rfl⟩ := hv.cellsC
  have HV := hide hv
  have HP := hide hP
  have HC := hide hc
  clear hv hP hc
  have HB0 : Hid (Below w.heap.size w ((w.alloc (.cells #[.int .i64 x.id, .int .i64 x.n, .int .i64 x.term, .int .i64 x.vote, .slice a1 n1 c1, .int .i64 x.commit, .int .i64 x.role, .int .i64 x.boss, .slice a2 n2 c2, .slice a3 n3 c3, .slice a4 n4 c4] 34)).alloc (.cells #[.int .i64 0, .int .i64 0, .int .i64 0, .int .i64 0, .slice none 0 0, .int .i64 0, .int .i64 0, .int .i64 0, .slice none 0 0, .slice none 0 0, .slice none 0 0] 34))) := hide ((below_new w _).alloc (by simp) _)
  have X0 : Hid (BK ((w.alloc (.cells #[.int .i64 x.id, .int .i64 x.n, .int .i64 x.term, .int .i64 x.vote, .slice a1 n1 c1, .int .i64 x.commit, .int .i64 x.role, .int .i64 x.boss, .slice a2 n2 c2, .slice a3 n3 c3, .slice a4 n4 c4] 34)).alloc (.cells #[.int .i64 0, .int .i64 0, .int .i64 0, .int .i64 0, .slice none 0 0, .int .i64 0, .int .i64 0, .int .i64 0, .slice none 0 0, .slice none 0 0, .slice none 0 0] 34)) w.heap.size 34 #[.int .i64 x.id, .int .i64 x.n, .int .i64 x.term, .int .i64 x.vote, .slice a1 n1 c1, .int .i64 x.commit, .int .i64 x.role, .int .i64 x.boss, .slice a2 n2 c2, .slice a3 n3 c3, .slice a4 n4 c4]) := hide ((BK.new w _ _).keep (below_new _ _))
  have Z0 : Hid (BK ((w.alloc (.cells #[.int .i64 x.id, .int .i64 x.n, .int .i64 x.term, .int .i64 x.vote, .slice a1 n1 c1, .int .i64 x.commit, .int .i64 x.role, .int .i64 x.boss, .slice a2 n2 c2, .slice a3 n3 c3, .slice a4 n4 c4] 34)).alloc (.cells #[.int .i64 0, .int .i64 0, .int .i64 0, .int .i64 0, .slice none 0 0, .int .i64 0, .int .i64 0, .int .i64 0, .slice none 0 0, .slice none 0 0, .slice none 0 0] 34)) (w.heap.size + 1) 34 #[.int .i64 0, .int .i64 0, .int .i64 0, .int .i64 0, .slice none 0 0, .int .i64 0, .int .i64 0, .int .i64 0, .slice none 0 0, .slice none 0 0, .slice none 0 0]) := hide (by
    have := BK.new (w.alloc (.cells #[.int .i64 x.id, .int .i64 x.n, .int .i64 x.term, .int .i64 x.vote, .slice a1 n1 c1, .int .i64 x.commit, .int .i64 x.role, .int .i64 x.boss, .slice a2 n2 c2, .slice a3 n3 c3, .slice a4 n4 c4] 34)) 34 #[.int .i64 0, .int .i64 0, .int .i64 0, .int .i64 0, .slice none 0 0, .int .i64 0, .int .i64 0, .int .i64 0, .slice none 0 0, .slice none 0 0, .slice none 0 0]
    rwa [show (w.alloc (.cells #[.int .i64 x.id, .int .i64 x.n, .int .i64 x.term, .int .i64 x.vote, .slice a1 n1 c1, .int .i64 x.commit, .int .i64 x.role, .int .i64 x.boss, .slice a2 n2 c2, .slice a3 n3 c3, .slice a4 n4 c4] 34)).heap.size = w.heap.size + 1 by simp] at this)
  go_enter Try.func34, Try.ntmps34
  go_upto_region 1 with fail
  generalize (w.alloc (.cells #[.int .i64 x.id, .int .i64 x.n, .int .i64 x.term, .int .i64 x.vote, .slice a1 n1 c1, .int .i64 x.commit, .int .i64 x.role, .int .i64 x.boss, .slice a2 n2 c2, .slice a3 n3 c3, .slice a4 n4 c4] 34)).alloc (.cells #[.int .i64 0, .int .i64 0, .int .i64 0, .int .i64 0, .slice none 0 0, .int .i64 0, .int .i64 0, .int .i64 0, .slice none 0 0, .slice none 0 0, .slice none 0 0] 34) = w0 at HB0 X0 Z0 ⊢
  obtain ⟨t0, t1, t2, t3, t4, t5, t6, t7, t8, t9, t10⟩ := (show NX w0 w.heap.size _ _ _ _ _ _ _ _ _ _ _ from unhide X0).tell
  have hr0 : Hid (w.heap.size + 1 < w0.heap.size) := hide (unhide Z0).low
  have hr1 : Hid (w.heap.size < w0.heap.size) := hide (unhide X0).low
  obtain ⟨e0, e1, e2, e3, e4, e5, e6, e7, e8⟩ := (show GX w0 bx _ _ _ _ _ _ _ _ _ from he.keep (unhide HB0)).tell
  have C := hide (unhide HC w0 (unhide HB0) (NV.keep (fun b hb => ⟨hb, (unhide HB0).block b (unhide HP b hb)⟩) (unhide HV)) (fun b hb => Nat.lt_of_lt_of_le (unhide HP b hb) (unhide HB0).size))
  clear HC he
  go_wp2_with fail
  refine (unhide C).mono ?_
  rintro e w1 ⟨v', mm, rfl, hv', hm, hb⟩
  clear C t0 t1 t2 t3 t4 t5 t6 t7 t8 t9 t10 e0 e1 e2 e3 e4 e5 e6 e7 e8
  obtain ⟨b1, m1, r1, b2, m2, r2, b3, m3, r3, b4, m4, r4, rfl⟩ := hv'.cellsC
  obtain ⟨ma, ML, mc, rfl, hML, _, _⟩ := SC.shp hm.choose_spec.1
  have HM := hide hm
  clear hm
  have HB := hide hb
  have HV1 := hide hv'
  have Z1 := hide ((unhide Z0).keep hb)
  clear hb hv' X0 Z0
  obtain ⟨s0, s1, s2, s3, s4, s5, s6, s7, s8, s9, s10⟩ := (show NX w1 (w.heap.size + 1) _ _ _ _ _ _ _ _ _ _ _ from unhide Z1).tell
  obtain ⟨f0, f1, f2, f3, f4, f5, f6, f7, f8, f9, f10⟩ := (unhide Z1).thaw11
  have ka := keptCells (unhide HB0) (unhide HB) (unhide HP) (w.heap.size + 1) 0 (by omega) (unhide hr0) [.int .i64 y.1.id, .int .i64 y.1.n, .int .i64 y.1.term, .int .i64 y.1.vote, .slice b1 m1 r1, .int .i64 y.1.commit, .int .i64 y.1.role, .int .i64 y.1.boss, .slice b2 m2 r2, .slice b3 m3 r3, .slice b4 m4 r4]
  have kb := belowCells (below_via (unhide HB0) (unhide HB)) (w.heap.size + 1) 0 (by omega) [.int .i64 y.1.id, .int .i64 y.1.n, .int .i64 y.1.term, .int .i64 y.1.vote, .slice b1 m1 r1, .int .i64 y.1.commit, .int .i64 y.1.role, .int .i64 y.1.boss, .slice b2 m2 r2, .slice b3 m3 r3, .slice b4 m4 r4]
  have TE := toldDeed (y := y) (unhide HV1) (unhide HM) kb (unhide HB0).size (unhide HP) ka
  rw [set11z] at TE
  replace TE := hide TE
  clear ka kb
  go_wp2
  refine bodyPost_ret (v := .tuple #[.agg #[.int .i64 y.1.id, .int .i64 y.1.n, .int .i64 y.1.term, .int .i64 y.1.vote, .slice b1 m1 r1, .int .i64 y.1.commit, .int .i64 y.1.role, .int .i64 y.1.boss, .slice b2 m2 r2, .slice b3 m3 r3, .slice b4 m4 r4], .slice ma ML mc]) (by simp [results, Try.results34, go_sem, s0, s1, s2, s3, s4, s5, s6, s7, s8, s9, s10]) rfl ?_
  exact unhide TE

end Go.Proofs.Ytneepoaimbnneaa.CL

namespace Go.Proofs.Ytneepoaimbnneaa.CL
open Go.RowKit
variable {A : Nat → Prop}

theorem MC.drop {P : Nat → Prop} {w : World} : ∀ {ms : List Rf.Msg} {cs : List Value}, MC P w ms cs → ∀ d, MC P w (ms.drop d) (cs.drop (d * 9))
  | _, _, h, 0 => by simpa using h
  | [], cs, h, d + 1 => by rw [MC] at h; subst h; simp [MC]
  | m :: ms, cs, ⟨iv, rest, h1, h2, h3⟩, d + 1 => by
    have := MC.drop h3 d
    subst h1
    have e : (d + 1) * 9 = (mcs m iv).length + d * 9 := by simp [mcs]; omega
    rw [List.drop_succ_cons, e, List.drop_length_add_append]
    exact this
theorem forgotten {B p : Nat} {W : Rf.Wd} {nv tv tv' : Value} {nc tc tc' : List Value} {w : World} {T : List Rf.Msg} (h : CW A B w p W nv tv nc tc) (ho : RO B w tv' 9 T.length tc') (hu : tv'.ownBlock = tv.ownBlock) (hm : MC (Fp A w p nv tv) w T tc') : PC A B p nv tv w { W with net := T } (.returned (.tuple #[])) (w.setCell ⟨p, 1, none⟩ tv').drew := by
  have h1 := h.setNet (World.grownBy.refl w _) ho (.inl hu) hm
  exact ⟨rfl, _, _, _, _, h1.below (below_drew _), ((Below.refl B w).setCell h.low _).trans ((below_drew _).mono h1.szB), (h.setNetFr (World.grownBy.refl w _) (.inl hu)).trans (Frm.below (below_drew _))⟩

set_option maxHeartbeats 4000000 in
set_option maxRecDepth 100000 in
theorem forget_any (B p : Nat) (W : Rf.Wd) (nv tv : Value) (nc tc : List Value) (w : World) (h : CW A B w p W nv tv nc tc) (hT : W.net.length ≤ 1000) :
    Calls Try.prog 21 #[.pointer (some ⟨p, 0, none⟩)] w (PC A B p nv tv w { W with net := Rf.trim W.net }) := by
  have H := hide h
  have hb := h.blk
  rcases h.net.2 with ⟨rfl, hn⟩ | ⟨g, off, cap, rfl, -, -, hle, hcm, -⟩
  · have q1 : w.cell? ⟨p, 1, none⟩ = some (.slice none 0 0) := hb.at rfl
    have z1 : w.frozen? ⟨p, 1, none⟩ = false := hb.thaw _
    have HF : Hid (PC A B p nv (.slice none 0 0) w { W with net := Rf.trim W.net } (.returned (.tuple #[])) (w.setCell ⟨p, 1, none⟩ (.slice none 0 0)).drew) := hide (by
      have e : Rf.trim W.net = W.net := by unfold Rf.trim; rw [hn]; simp
      rw [e]
      exact forgotten h h.net rfl h.tC)
    clear h hb hn hT
    go_enter Try.func21, Try.ntmps21
    go_region
    go_wp2
    go_end0
    exact unhide HF
  · generalize hNL : W.net.length = n at hle hT
    have q1 : w.cell? ⟨p, 1, none⟩ = some (.slice (some ⟨g, off, none⟩) n cap) := by rw [← hNL]; exact hb.at rfl
    have z1 : w.frozen? ⟨p, 1, none⟩ = false := hb.thaw _
    have w1 : IntKind.i64.wrap ((n : Int) - 60) = (n : Int) - 60 := wrap_i64 (by omega) (by omega)
    by_cases h60 : n ≤ 60
    · have HF : Hid (PC A B p nv (.slice (some ⟨g, off, none⟩) W.net.length cap) w { W with net := Rf.trim W.net } (.returned (.tuple #[])) (w.setCell ⟨p, 1, none⟩ (.slice (some ⟨g, off, none⟩) n cap)).drew) := hide (by
        have e : Rf.trim W.net = W.net := by unfold Rf.trim; rw [hNL, show n - 60 = 0 by omega]; rfl
        rw [e, ← hNL]
        exact forgotten h h.net rfl h.tC)
      have m1 : max (0 : Int) ((n : Int) - 60) = 0 := by omega
      clear h hb
      go_enter Try.func21, Try.ntmps21
      go_region
      go_wp2
      go_end0
      exact unhide HF
    · obtain ⟨d, hd⟩ : ∃ d, n = d + 60 := ⟨n - 60, by omega⟩
      have HF : Hid (PC A B p nv (.slice (some ⟨g, off, none⟩) W.net.length cap) w { W with net := Rf.trim W.net } (.returned (.tuple #[])) (w.setCell ⟨p, 1, none⟩ (.slice (some ⟨g, off + d * 9, none⟩) 60 (cap - d))).drew) := hide (by
        have e : Rf.trim W.net = W.net.drop d := by unfold Rf.trim; rw [hNL, show n - 60 = d by omega]
        have hl : (W.net.drop d).length = 60 := by rw [List.length_drop]; omega
        have ho := h.net.drop (d := d) (by omega)
        rw [show W.net.length - d = 60 by omega] at ho
        rw [e]
        exact forgotten h (by rw [hl]; exact ho) rfl (MC.drop h.tC d))
      subst hd
      have m1 : max (0 : Int) (((d + 60 : Nat) : Int) - 60) = (d : Int) := by omega
      have hdc : d ≤ cap := by omega
      have hne : ¬ cap = d := by omega
      have hl2 : d + 60 - d = 60 := by omega
      clear h hb
      go_enter Try.func21, Try.ntmps21
      go_region
      go_wp2
      go_end0
      exact unhide HF

end Go.Proofs.Ytneepoaimbnneaa.CL

namespace Go.Proofs.Ytneepoaimbnneaa.CL
open Go.RowKit
variable {A : Nat → Prop}

abbrev evW (w : World) (k n c : Int) : World := w.alloc (.cells #[.int .i64 k, .int .i64 n, .int .i64 c] 38)
theorem ev_bk (w : World) (k n c : Int) : BK (evW w k n c) w.heap.size 38 #[.int .i64 k, .int .i64 n, .int .i64 c] := BK.new _ _ _
theorem ev_below (w : World) (k n c : Int) : Below w.heap.size w (evW w k n c) := below_new _ _

theorem deedOf_timeout (n c : Int) (w : World) : Calls Try.prog 18 #[.agg #[.int .i64 1, .int .i64 n, .int .i64 c]] w fun e w' => e = .returned (.func (.func 27) #[] #[]) ∧ w' = evW w 1 n c := by
  obtain ⟨U, hU⟩ : ∃ U, U = evW w 1 n c := ⟨_, rfl⟩
  have c0 : U.cell? ⟨w.heap.size, 0, none⟩ = some (.int .i64 1) := by rw [hU]; exact (ev_bk w 1 n c).at rfl
  have HU := hide hU
  unfold evW at hU
  go_enter Try.func18, Try.ntmps18
  go_upto_region 1 with fail
  rw [← hU]
  clear hU
  go_wp2
  go_ret
  exact ⟨rfl, unhide HU⟩

theorem deedOf_beat (n c : Int) (w : World) : Calls Try.prog 18 #[.agg #[.int .i64 2, .int .i64 n, .int .i64 c]] w fun e w' => e = .returned (.func (.func 28) #[] #[]) ∧ w' = evW w 2 n c := by
  obtain ⟨U, hU⟩ : ∃ U, U = evW w 2 n c := ⟨_, rfl⟩
  have c0 : U.cell? ⟨w.heap.size, 0, none⟩ = some (.int .i64 2) := by rw [hU]; exact (ev_bk w 2 n c).at rfl
  have HU := hide hU
  unfold evW at hU
  go_enter Try.func18, Try.ntmps18
  go_upto_region 1 with fail
  rw [← hU]
  clear hU
  go_wp2
  go_ret
  exact ⟨rfl, unhide HU⟩

theorem deedOf_prop (n c : Int) (w : World) : Calls Try.prog 18 #[.agg #[.int .i64 3, .int .i64 n, .int .i64 c]] w fun e w' => e = .returned (.func (.func 29) #[] #[.pointer (some ⟨w.heap.size, 0, none⟩)]) ∧ w' = evW w 3 n c := by
  obtain ⟨U, hU⟩ : ∃ U, U = evW w 3 n c := ⟨_, rfl⟩
  have c0 : U.cell? ⟨w.heap.size, 0, none⟩ = some (.int .i64 3) := by rw [hU]; exact (ev_bk w 3 n c).at rfl
  have HU := hide hU
  unfold evW at hU
  go_enter Try.func18, Try.ntmps18
  go_upto_region 1 with fail
  rw [← hU]
  clear hU
  go_wp2
  go_ret
  exact ⟨rfl, unhide HU⟩

theorem deedOf_rest (n c : Int) (w : World) : Calls Try.prog 18 #[.agg #[.int .i64 7, .int .i64 n, .int .i64 c]] w fun e w' => e = .returned (.func (.func 31) #[] #[]) ∧ w' = evW w 7 n c := by
  obtain ⟨U, hU⟩ : ∃ U, U = evW w 7 n c := ⟨_, rfl⟩
  have c0 : U.cell? ⟨w.heap.size, 0, none⟩ = some (.int .i64 7) := by rw [hU]; exact (ev_bk w 7 n c).at rfl
  have HU := hide hU
  unfold evW at hU
  go_enter Try.func18, Try.ntmps18
  go_upto_region 1 with fail
  rw [← hU]
  clear hU
  go_wp2
  go_ret
  exact ⟨rfl, unhide HU⟩

theorem deedOf_none (k n c : Int) (w : World) (h1 : k ≠ 1) (h2 : k ≠ 2) (h3 : k ≠ 3) (h7 : k ≠ 7) : Calls Try.prog 18 #[.agg #[.int .i64 k, .int .i64 n, .int .i64 c]] w fun e w' => e = .returned .nilFunc ∧ w' = evW w k n c := by
  obtain ⟨U, hU⟩ : ∃ U, U = evW w k n c := ⟨_, rfl⟩
  have c0 : U.cell? ⟨w.heap.size, 0, none⟩ = some (.int .i64 k) := by rw [hU]; exact (ev_bk w k n c).at rfl
  have HU := hide hU
  unfold evW at hU
  have e1 : (k == 1) = false := by simpa using h1
  have e2 : (k == 2) = false := by simpa using h2
  have e3 : (k == 3) = false := by simpa using h3
  have e7 : (k == 7) = false := by simpa using h7
  go_enter Try.func18, Try.ntmps18
  go_upto_region 1 with fail
  rw [← hU]
  clear hU
  go_wp2
  go_ret
  exact ⟨rfl, unhide HU⟩

end Go.Proofs.Ytneepoaimbnneaa.CL
