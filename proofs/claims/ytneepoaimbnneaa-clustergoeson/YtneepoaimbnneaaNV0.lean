/- Walks: Receive (raft), given heeds. Written by gen_nv.py. -/
import Derived.Test.YtneepoaimbnneaaNX0
import Derived.Test.YtneepoaimbnneaaNS0
import Derived.Test.YtneepoaimbnneaaNN
import Derived.Test.YtneepoaimbnneaaNP
import Derived.Test.YtneepoaimbnneaaNR
import Derived.Test.YtneepoaimbnneaaNQ3
namespace Go.Proofs.Ytneepoaimbnneaa.RW
open Go.RowKit

/-- what heeds tells, of all -/
def Heeds : Prop := ∀ (B p : Nat) (x : Rf.Node) (o : Own) (m : Rf.Msg) (g : Array Value) (w : World), WK B w p x [] o → Gv w g m → m.items.length ≤ 4611686018427387904 →
    Calls Try.prog 43 #[.pointer (some ⟨p, 0, none⟩), .agg g] w (PH x m w)

set_option maxHeartbeats 16000000 in
set_option maxRecDepth 100000 in
theorem receive_no (P : Nat → Prop) (x : Rf.Node) (m : Rf.Msg) (v g : Array Value) (w : World) (hv : NV P w v x) (hg : GV P w g m) (hP : ∀ b, P b → b < w.heap.size) (hfit : FitN x) (hbig : m.items.length ≤ 4611686018427387904) (hno : Rf.wrongN x ≠ 0 ∨ ¬ Rf.inB m.kind 1 4) : Calls Try.prog 35 #[.agg v, .agg g] w (PNM P w (Rf.receive x m)) := by
  have HNo := hide hno
  clear hno
  obtain ⟨iv, rfl, hit⟩ := hg
  obtain ⟨ia, IL, ic, rfl, hIL, _, _⟩ := SC.shp hit
  have HIT := hide hit
  have HBig := hide hbig
  clear hit hbig
  obtain ⟨lv, vv, nv, mv, rfl, h2, h3, h4, h5⟩ := hv
  obtain ⟨la, LL, lc, rfl, hLL, _, _⟩ := SC.shp h2
  obtain ⟨va, VL, vc, rfl, hVL, _, _⟩ := SC.shp h3
  obtain ⟨na, NL, nc, rfl, hNL, _, _⟩ := SC.shp h4
  obtain ⟨ma, ML, mc, rfl, hML, _, _⟩ := SC.shp h5
  have HV : Hid (NV P w #[.int .i64 x.id, .int .i64 x.n, .int .i64 x.term, .int .i64 x.vote, .slice la LL lc, .int .i64 x.commit, .int .i64 x.role, .int .i64 x.boss, .slice va VL vc, .slice na NL nc, .slice ma ML mc] x) := hide ⟨_, _, _, _, rfl, h2, h3, h4, h5⟩
  have HP := hide hP
  have HFt := hide hfit
  clear h2 h3 h4 h5 hP hfit
  have HB0 : Hid (Below w.heap.size w (((w.alloc (.cells #[.int .i64 x.id, .int .i64 x.n, .int .i64 x.term, .int .i64 x.vote, .slice la LL lc, .int .i64 x.commit, .int .i64 x.role, .int .i64 x.boss, .slice va VL vc, .slice na NL nc, .slice ma ML mc] 34)).alloc (.cells #[.int .i64 m.kind, .int .i64 m.frm, .int .i64 m.dest, .int .i64 m.term, .int .i64 m.index, .int .i64 m.logTerm, .int .i64 m.commit, .slice ia IL ic, .bool m.yes] 40)).alloc (.cells #[.int .i64 0, .int .i64 0, .int .i64 0, .int .i64 0, .slice none 0 0, .int .i64 0, .int .i64 0, .int .i64 0, .slice none 0 0, .slice none 0 0, .slice none 0 0] 34))) := hide (((below_new w _).alloc (by simp) _).alloc (by simp; omega) _)
  have HC0 : Hid (BK (((w.alloc (.cells #[.int .i64 x.id, .int .i64 x.n, .int .i64 x.term, .int .i64 x.vote, .slice la LL lc, .int .i64 x.commit, .int .i64 x.role, .int .i64 x.boss, .slice va VL vc, .slice na NL nc, .slice ma ML mc] 34)).alloc (.cells #[.int .i64 m.kind, .int .i64 m.frm, .int .i64 m.dest, .int .i64 m.term, .int .i64 m.index, .int .i64 m.logTerm, .int .i64 m.commit, .slice ia IL ic, .bool m.yes] 40)).alloc (.cells #[.int .i64 0, .int .i64 0, .int .i64 0, .int .i64 0, .slice none 0 0, .int .i64 0, .int .i64 0, .int .i64 0, .slice none 0 0, .slice none 0 0, .slice none 0 0] 34)) w.heap.size 34 #[.int .i64 x.id, .int .i64 x.n, .int .i64 x.term, .int .i64 x.vote, .slice la LL lc, .int .i64 x.commit, .int .i64 x.role, .int .i64 x.boss, .slice va VL vc, .slice na NL nc, .slice ma ML mc]) := hide (((BK.new w 34 #[.int .i64 x.id, .int .i64 x.n, .int .i64 x.term, .int .i64 x.vote, .slice la LL lc, .int .i64 x.commit, .int .i64 x.role, .int .i64 x.boss, .slice va VL vc, .slice na NL nc, .slice ma ML mc]).keep (below_new _ _)).keep (below_new _ _))
  have HM0 : Hid (BK (((w.alloc (.cells #[.int .i64 x.id, .int .i64 x.n, .int .i64 x.term, .int .i64 x.vote, .slice la LL lc, .int .i64 x.commit, .int .i64 x.role, .int .i64 x.boss, .slice va VL vc, .slice na NL nc, .slice ma ML mc] 34)).alloc (.cells #[.int .i64 m.kind, .int .i64 m.frm, .int .i64 m.dest, .int .i64 m.term, .int .i64 m.index, .int .i64 m.logTerm, .int .i64 m.commit, .slice ia IL ic, .bool m.yes] 40)).alloc (.cells #[.int .i64 0, .int .i64 0, .int .i64 0, .int .i64 0, .slice none 0 0, .int .i64 0, .int .i64 0, .int .i64 0, .slice none 0 0, .slice none 0 0, .slice none 0 0] 34)) (w.heap.size + 1) 40 #[.int .i64 m.kind, .int .i64 m.frm, .int .i64 m.dest, .int .i64 m.term, .int .i64 m.index, .int .i64 m.logTerm, .int .i64 m.commit, .slice ia IL ic, .bool m.yes]) := hide (by
    have := (BK.new (w.alloc (.cells #[.int .i64 x.id, .int .i64 x.n, .int .i64 x.term, .int .i64 x.vote, .slice la LL lc, .int .i64 x.commit, .int .i64 x.role, .int .i64 x.boss, .slice va VL vc, .slice na NL nc, .slice ma ML mc] 34)) 40 #[.int .i64 m.kind, .int .i64 m.frm, .int .i64 m.dest, .int .i64 m.term, .int .i64 m.index, .int .i64 m.logTerm, .int .i64 m.commit, .slice ia IL ic, .bool m.yes]).keep (below_new _ (.cells #[.int .i64 0, .int .i64 0, .int .i64 0, .int .i64 0, .slice none 0 0, .int .i64 0, .int .i64 0, .int .i64 0, .slice none 0 0, .slice none 0 0, .slice none 0 0] 34))
    rwa [show (w.alloc (.cells #[.int .i64 x.id, .int .i64 x.n, .int .i64 x.term, .int .i64 x.vote, .slice la LL lc, .int .i64 x.commit, .int .i64 x.role, .int .i64 x.boss, .slice va VL vc, .slice na NL nc, .slice ma ML mc] 34)).heap.size = w.heap.size + 1 by simp] at this)
  have HZ0 : Hid (BK (((w.alloc (.cells #[.int .i64 x.id, .int .i64 x.n, .int .i64 x.term, .int .i64 x.vote, .slice la LL lc, .int .i64 x.commit, .int .i64 x.role, .int .i64 x.boss, .slice va VL vc, .slice na NL nc, .slice ma ML mc] 34)).alloc (.cells #[.int .i64 m.kind, .int .i64 m.frm, .int .i64 m.dest, .int .i64 m.term, .int .i64 m.index, .int .i64 m.logTerm, .int .i64 m.commit, .slice ia IL ic, .bool m.yes] 40)).alloc (.cells #[.int .i64 0, .int .i64 0, .int .i64 0, .int .i64 0, .slice none 0 0, .int .i64 0, .int .i64 0, .int .i64 0, .slice none 0 0, .slice none 0 0, .slice none 0 0] 34)) (w.heap.size + 2) 34 #[.int .i64 0, .int .i64 0, .int .i64 0, .int .i64 0, .slice none 0 0, .int .i64 0, .int .i64 0, .int .i64 0, .slice none 0 0, .slice none 0 0, .slice none 0 0]) := hide (by
    have := BK.new ((w.alloc (.cells #[.int .i64 x.id, .int .i64 x.n, .int .i64 x.term, .int .i64 x.vote, .slice la LL lc, .int .i64 x.commit, .int .i64 x.role, .int .i64 x.boss, .slice va VL vc, .slice na NL nc, .slice ma ML mc] 34)).alloc (.cells #[.int .i64 m.kind, .int .i64 m.frm, .int .i64 m.dest, .int .i64 m.term, .int .i64 m.index, .int .i64 m.logTerm, .int .i64 m.commit, .slice ia IL ic, .bool m.yes] 40)) 34 #[.int .i64 0, .int .i64 0, .int .i64 0, .int .i64 0, .slice none 0 0, .int .i64 0, .int .i64 0, .int .i64 0, .slice none 0 0, .slice none 0 0, .slice none 0 0]
    rwa [show ((w.alloc (.cells #[.int .i64 x.id, .int .i64 x.n, .int .i64 x.term, .int .i64 x.vote, .slice la LL lc, .int .i64 x.commit, .int .i64 x.role, .int .i64 x.boss, .slice va VL vc, .slice na NL nc, .slice ma ML mc] 34)).alloc (.cells #[.int .i64 m.kind, .int .i64 m.frm, .int .i64 m.dest, .int .i64 m.term, .int .i64 m.index, .int .i64 m.logTerm, .int .i64 m.commit, .slice ia IL ic, .bool m.yes] 40)).heap.size = w.heap.size + 2 by simp] at this)
  go_enter Try.func35, Try.ntmps35
  go_upto_region 1 with fail
  generalize ((w.alloc (.cells #[.int .i64 x.id, .int .i64 x.n, .int .i64 x.term, .int .i64 x.vote, .slice la LL lc, .int .i64 x.commit, .int .i64 x.role, .int .i64 x.boss, .slice va VL vc, .slice na NL nc, .slice ma ML mc] 34)).alloc (.cells #[.int .i64 m.kind, .int .i64 m.frm, .int .i64 m.dest, .int .i64 m.term, .int .i64 m.index, .int .i64 m.logTerm, .int .i64 m.commit, .slice ia IL ic, .bool m.yes] 40)).alloc (.cells #[.int .i64 0, .int .i64 0, .int .i64 0, .int .i64 0, .slice none 0 0, .int .i64 0, .int .i64 0, .int .i64 0, .slice none 0 0, .slice none 0 0, .slice none 0 0] 34) = w0 at HB0 HC0 HM0 HZ0 ⊢
  obtain ⟨c0, c1, c2, c3, c4, c5, c6, c7, c8, c9, c10⟩ := (show NX w0 w.heap.size _ _ _ _ _ _ _ _ _ _ _ from unhide HC0).tell
  have CB := hide (begin_any x _ w0 (NV.keep (fun b hb => ⟨Nat.lt_of_lt_of_le (unhide HP b hb) (unhide HB0).size, (unhide HB0).block b (unhide HP b hb)⟩) (unhide HV)) (unhide HFt))
  have hrl := (unhide HZ0).low
  have hbl := (unhide HM0).low
  have hrw : Hid (w.heap.size ≤ w.heap.size + 2) := hide (by omega)
  have HG : Hid (∀ wx, Below w0.heap.size w0 wx → GV (· < w0.heap.size) wx #[.int .i64 m.kind, .int .i64 m.frm, .int .i64 m.dest, .int .i64 m.term, .int .i64 m.index, .int .i64 m.logTerm, .int .i64 m.commit, .slice ia IL ic, .bool m.yes] m) := hide (fun wx hx => ⟨_, rfl, TV.keep (fun b hb => ⟨Nat.lt_of_lt_of_le (unhide HP b hb) (unhide HB0).size, (hx.block b (Nat.lt_of_lt_of_le (unhide HP b hb) (unhide HB0).size)).trans ((unhide HB0).block b (unhide HP b hb))⟩) (unhide HIT)⟩)
  generalize hrr : w.heap.size + 2 = r at HZ0 hrl hrw ⊢
  generalize hbb : w.heap.size + 1 = bx at HM0 hbl ⊢
  clear hrr hbb
  have ET : Hid (Rf.receive x m = (x, [])) := hide (by
    rw [Rf.receive, if_pos]
    rcases unhide HNo with q | q
    · exact .inl q
    · exact .inr ((lost_iff x m).2 (fun z => q z.1)))
  have CD : Hid (∀ p w, ∃ f, Calls Try.prog 42 #[.pointer (some ⟨p, 0, none⟩), .int .i64 m.kind] w fun e w' => e = .returned f ∧ w' = w) := hide (fun p w => by
    by_cases q : Rf.inB m.kind 1 4
    · unfold Rf.inB at q
      rcases (by omega : m.kind = 1 ∨ m.kind = 2 ∨ m.kind = 3 ∨ m.kind = 4) with e | e | e | e <;> rw [e]
      · exact ⟨_, deed_vote p w⟩
      · exact ⟨_, deed_count p w⟩
      · exact ⟨_, deed_take p w⟩
      · exact ⟨_, deed_goOn p w⟩
    · exact ⟨_, deed_no p m.kind w q⟩)
  by_cases hs : Rf.wrongN x = 0
  rotate_left
  · have db := decide_eq_false hs
    clear hs
    have CB2 : Hid (Calls Try.prog 36 #[.agg #[.int .i64 x.id, .int .i64 x.n, .int .i64 x.term, .int .i64 x.vote, .slice la LL lc, .int .i64 x.commit, .int .i64 x.role, .int .i64 x.boss, .slice va VL vc, .slice na NL nc, .slice ma ML mc]] w0 fun e w1 => ∃ p o, e = .returned (.tuple #[.pointer (some ⟨p, 0, none⟩), .bool false]) ∧ WK w0.heap.size w1 p x [] o ∧ Below w0.heap.size w0 w1) := hide (by have := unhide CB; unfold PB at this; rwa [db] at this)
    go_upto_region 2 with (go_at_call 36; refine (unhide CB2).mono ?_; rintro e w1 ⟨p, o, rfl, hK1, hb1⟩)
    have HK1 := hide hK1
    have HB1 := hide hb1
    have HM1 := hide (show BK w1 bx _ _ from (hb1.block bx hbl).trans (unhide HM0))
    have p1 := hK1.lo
    clear hK1 hb1 CB CB2 c0 c1 c2 c3 c4 c5 c6 c7 c8 c9 c10
    obtain ⟨g0, g1, g2, g3, g4, g5, g6, g7, g8⟩ := (show GX w1 bx _ _ _ _ _ _ _ _ _ from unhide HM1).tell
    obtain ⟨fv, CD1⟩ := unhide CD p w1
    replace CD1 := hide CD1
    go_upto_region 4 with (go_at_call 42; refine (unhide CD1).mono ?_; rintro e w2 ⟨rfl, rfl⟩)
    clear p1 g0 g1 g2 g3 g4 g5 g6 g7 g8
    obtain ⟨la9, LL9, lc9, va9, VL9, vc9, na9, NL9, nc9, ma9, ML9, mc9, sa9, SL9, sc9, HE9, _, _, _, _, _, _, ⟨d0, d1, d2, d3, d4, d5, d6, d7, d8, d9, d10, d11⟩, ⟨_, _, _, _, _, _, _, _, _, _, _, _⟩⟩ := (unhide HK1).tell
    have p9 := (unhide HK1).lo
    have HZ9 := hide (show NX w2 r _ _ _ _ _ _ _ _ _ _ _ from ((unhide HB1).block r hrl).trans (unhide HZ0))
    obtain ⟨z0, z1, z2, z3, z4, z5, z6, z7, z8, z9, z10⟩ := (unhide HZ9).tell
    obtain ⟨y0, y1, y2, y3, y4, y5, y6, y7, y8, y9, y10⟩ := (unhide HZ9).thaw11
    have r9 := (unhide HZ9).low
    have hpr : p ≠ r := by have := (unhide HK1).low; omega
    have TE := hide (fun wF hw => told_end (P := P) (w := w) (w0 := w0) (wE := w2) (wF := wF) (r := r) (p := p) hw (unhide HB0) (by have := unhide hrw; omega) hrl rfl (unhide HK1) (unhide HB1))
    rw [(unhide HE9).1, (unhide HE9).2.1, (unhide HE9).2.2.1, (unhide HE9).2.2.2.1, (unhide HE9).2.2.2.2] at TE
    go_wp2
    refine bodyPost_ret (v := .tuple #[.agg #[.int .i64 (x).id, .int .i64 (x).n, .int .i64 (x).term, .int .i64 (x).vote, .slice la9 LL9 lc9, .int .i64 (x).commit, .int .i64 (x).role, .int .i64 (x).boss, .slice va9 VL9 vc9, .slice na9 NL9 nc9, .slice ma9 ML9 mc9], .slice none 0 0]) (by simp [results, Try.results35, go_sem, z0, z1, z2, z3, z4, z5, z6, z7, z8, z9, z10]) rfl ?_
    obtain ⟨t1, t2, t3⟩ := unhide TE _ (.inl rfl)
    rw [unhide ET]
    exact ⟨_, _, rfl, t1, MV.nil _ _, t3⟩
  have db := decide_eq_true hs
  have CN := hide (fun p w => deed_no p m.kind w ((unhide HNo).elim (fun q => absurd hs q) id))
  clear hs
  have CB2 : Hid (Calls Try.prog 36 #[.agg #[.int .i64 x.id, .int .i64 x.n, .int .i64 x.term, .int .i64 x.vote, .slice la LL lc, .int .i64 x.commit, .int .i64 x.role, .int .i64 x.boss, .slice va VL vc, .slice na NL nc, .slice ma ML mc]] w0 fun e w1 => ∃ p o, e = .returned (.tuple #[.pointer (some ⟨p, 0, none⟩), .bool true]) ∧ WK w0.heap.size w1 p x [] o ∧ Below w0.heap.size w0 w1) := hide (by have := unhide CB; unfold PB at this; rwa [db] at this)
  go_upto_region 2 with (go_at_call 36; refine (unhide CB2).mono ?_; rintro e w1 ⟨p, o, rfl, hK1, hb1⟩)
  have HK1 := hide hK1
  have HB1 := hide hb1
  have HM1 := hide (show BK w1 bx _ _ from (hb1.block bx hbl).trans (unhide HM0))
  have p1 := hK1.lo
  clear hK1 hb1 CB CB2 c0 c1 c2 c3 c4 c5 c6 c7 c8 c9 c10
  obtain ⟨g0, g1, g2, g3, g4, g5, g6, g7, g8⟩ := (show GX w1 bx _ _ _ _ _ _ _ _ _ from unhide HM1).tell
  have hnn := nil_nil
  go_upto_region 4 with (go_at_call 42; refine (unhide CN _ _).mono ?_; rintro e w2 ⟨rfl, rfl⟩)
  clear p1 g0 g1 g2 g3 g4 g5 g6 g7 g8
  obtain ⟨la9, LL9, lc9, va9, VL9, vc9, na9, NL9, nc9, ma9, ML9, mc9, sa9, SL9, sc9, HE9, _, _, _, _, _, _, ⟨d0, d1, d2, d3, d4, d5, d6, d7, d8, d9, d10, d11⟩, ⟨_, _, _, _, _, _, _, _, _, _, _, _⟩⟩ := (unhide HK1).tell
  have p9 := (unhide HK1).lo
  have HZ9 := hide (show NX w2 r _ _ _ _ _ _ _ _ _ _ _ from ((unhide HB1).block r hrl).trans (unhide HZ0))
  obtain ⟨z0, z1, z2, z3, z4, z5, z6, z7, z8, z9, z10⟩ := (unhide HZ9).tell
  obtain ⟨y0, y1, y2, y3, y4, y5, y6, y7, y8, y9, y10⟩ := (unhide HZ9).thaw11
  have r9 := (unhide HZ9).low
  have hpr : p ≠ r := by have := (unhide HK1).low; omega
  have TE := hide (fun wF hw => told_end (P := P) (w := w) (w0 := w0) (wE := w2) (wF := wF) (r := r) (p := p) hw (unhide HB0) (by have := unhide hrw; omega) hrl rfl (unhide HK1) (unhide HB1))
  rw [(unhide HE9).1, (unhide HE9).2.1, (unhide HE9).2.2.1, (unhide HE9).2.2.2.1, (unhide HE9).2.2.2.2] at TE
  go_wp2
  refine bodyPost_ret (v := .tuple #[.agg #[.int .i64 (x).id, .int .i64 (x).n, .int .i64 (x).term, .int .i64 (x).vote, .slice la9 LL9 lc9, .int .i64 (x).commit, .int .i64 (x).role, .int .i64 (x).boss, .slice va9 VL9 vc9, .slice na9 NL9 nc9, .slice ma9 ML9 mc9], .slice none 0 0]) (by simp [results, Try.results35, go_sem, z0, z1, z2, z3, z4, z5, z6, z7, z8, z9, z10]) rfl ?_
  obtain ⟨t1, t2, t3⟩ := unhide TE _ (.inl rfl)
  rw [unhide ET]
  exact ⟨_, _, rfl, t1, MV.nil _ _, t3⟩

end Go.Proofs.Ytneepoaimbnneaa.RW
