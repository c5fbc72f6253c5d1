/- Walks: begin (raft). -/
import Derived.Test.YtiplnegiphhdlaaND
import Derived.Deep.Cut
import Derived.Deep.CutRange
namespace Go.Proofs.Ytiplnegiphhdlaa.RW
open Go.RowKit

theorem own_mono {w : World} {base base' : Nat} {e : TypeId} {size : Nat} {v : Value} {n : Nat} {xs : List Value} (h : w.ownsRow base e size v n xs) (hb : base' ≤ base) : w.ownsRow base' e size v n xs := by
  obtain ⟨h1, h2⟩ := h
  refine ⟨h1, ?_⟩
  rcases h2 with h2 | ⟨g, cap, cur, h3, hg, r⟩
  · exact .inl h2
  · exact .inr ⟨g, cap, cur, h3, Nat.le_trans hb hg, r⟩
/-- two copies are made, one behind the other, and stored -/
theorem two_copies (B : Nat) (w1 : World) (t : TypeId) (cs : Array Value) (f1 f2 : Nat) (a1 a2 : Value) (e1 e2 : TypeId) (z1 z2 n1 n2 i j : Nat) (xs1 xs2 : List Value) (hX : BK w1 B t cs)
    (h1 : ∀ wx, Below w1.heap.size w1 wx → Calls Try.prog f1 #[a1] wx fun e w' => ∃ v', e = .returned v' ∧ w'.ownsRow wx.heap.size e1 z1 v' n1 xs1 ∧ Below wx.heap.size wx w')
    (h2 : ∀ wx, Below w1.heap.size w1 wx → Calls Try.prog f2 #[a2] wx fun e w' => ∃ v', e = .returned v' ∧ w'.ownsRow wx.heap.size e2 z2 v' n2 xs2 ∧ Below wx.heap.size wx w') :
    Calls Try.prog f1 #[a1] w1.drew fun e wL => ∃ ja JL jc, e = .returned (.slice ja JL jc) ∧ BK wL B t cs ∧ Hid (Calls Try.prog f2 #[a2] wL fun e wV => ∃ ka KL kc, e = .returned (.slice ka KL kc) ∧ BK wV B t cs ∧
      Hid (∃ u1 u2, u1 = .slice ja JL jc ∧ u2 = .slice ka KL kc ∧ BK ((wV.setCell ⟨B, i, none⟩ u1).setCell ⟨B, j, none⟩ u2) B t ((cs.setIfInBounds i u1).setIfInBounds j u2) ∧ ((wV.setCell ⟨B, i, none⟩ u1).setCell ⟨B, j, none⟩ u2).ownsRow w1.heap.size e1 z1 u1 n1 xs1 ∧ ((wV.setCell ⟨B, i, none⟩ u1).setCell ⟨B, j, none⟩ u2).ownsRow w1.heap.size e2 z2 u2 n2 xs2 ∧ dis u1 u2 ∧ Below B w1 ((wV.setCell ⟨B, i, none⟩ u1).setCell ⟨B, j, none⟩ u2) ∧ w1.heap.size ≤ ((wV.setCell ⟨B, i, none⟩ u1).setCell ⟨B, j, none⟩ u2).heap.size ∧ (∀ b, b < w1.heap.size → b ≠ B → ((wV.setCell ⟨B, i, none⟩ u1).setCell ⟨B, j, none⟩ u2).heap[b]? = w1.heap[b]?))) := by
  refine (h1 w1.drew (Below.refl _ _).drew).mono ?_
  rintro e wL ⟨v1, rfl, ho1, hb1⟩
  obtain ⟨ja, JL, jc, rfl, _, _, _⟩ := SC.shp (SC.own ho1)
  have hb1' : Below w1.heap.size w1 wL := (Below.refl _ w1).drew.trans hb1
  have hXL : BK wL B t cs := hX.keep hb1'
  refine ⟨ja, JL, jc, rfl, hXL, hide ?_⟩
  refine (h2 wL hb1').mono ?_
  rintro e wV ⟨v2, rfl, ho2, hb2⟩
  obtain ⟨ka, KL, kc, rfl, _, _, _⟩ := SC.shp (SC.own ho2)
  have hXV : BK wV B t cs := hXL.keep hb2
  have l0 : B < w1.heap.size := hX.low
  have s1 : w1.heap.size ≤ wL.heap.size := hb1'.size
  have hbV : Below w1.heap.size w1 wV := below_via hb1' hb2
  have hbB : Below B w1 wV := hbV.mono (Nat.le_of_lt l0)
  refine ⟨ka, KL, kc, rfl, hXV, hide ⟨_, _, rfl, rfl, (hXV.set i _).set j _, ?_, ?_, ?_, ?_, ?_, ?_⟩⟩
  · exact ownsRow_setCell_below (ownsRow_setCell_below (own_below ho1 hb2) (a := ⟨B, i, none⟩) (by exact l0) _) (a := ⟨B, j, none⟩) (by exact l0) _
  · exact own_mono (ownsRow_setCell_below (ownsRow_setCell_below ho2 (a := ⟨B, i, none⟩) (by show B < wL.heap.size; omega) _) (a := ⟨B, j, none⟩) (by show B < wL.heap.size; omega) _) s1
  · intro k k1 k2
    have q1 := (World.ownsRow.lt ho1 k k1).2
    have q2 := (World.ownsRow.lt ho2 k k2).1
    omega
  · exact (hbB.setCell (Nat.le_refl _) _).setCell (Nat.le_refl _) _
  · have := hbV.size
    simp [World.setCell]
    omega
  · intro b hb hn
    exact ((Below.heap_setCell _ _ _ b hn).trans (Below.heap_setCell _ _ _ b hn)).trans (hbV.block b hb)
/-- all is copied: the node goes to work -/
theorem began {w w1 wc W : World} {x : Rf.Node} {jv kv pv qv : Value} (h : wc.ownsRow w1.heap.size 58 2 jv x.log.length (its x.log) ∧ wc.ownsRow w1.heap.size 3 1 kv x.votes.length (ints x.votes) ∧ dis jv kv ∧ Below w.heap.size w wc ∧ w1.heap.size ≤ wc.heap.size) (hw : w.heap.size < w1.heap.size)
    (g2 : W.ownsRow wc.heap.size 3 1 pv x.next.length (ints x.next)) (g3 : W.ownsRow wc.heap.size 3 1 qv x.mtch.length (ints x.mtch)) (g4 : dis pv qv) (g5 : Below w.heap.size wc W) (g6 : wc.heap.size ≤ W.heap.size) (g7 : ∀ b, b < wc.heap.size → b ≠ w.heap.size → W.heap[b]? = wc.heap[b]?) :
    ∃ o, WK w.heap.size (W.alloc (.cells #[.int .i64 x.id, .int .i64 x.n, .int .i64 x.term, .int .i64 x.vote, jv, .int .i64 x.commit, .int .i64 x.role, .int .i64 x.boss, kv, pv, qv, .slice none 0 0] 46)) W.heap.size x [] o ∧ Below w.heap.size w (W.alloc (.cells #[.int .i64 x.id, .int .i64 x.n, .int .i64 x.term, .int .i64 x.vote, jv, .int .i64 x.commit, .int .i64 x.role, .int .i64 x.boss, kv, pv, qv, .slice none 0 0] 46)) := by
  obtain ⟨h1, h2, h3, h4, h5⟩ := h
  have j1 : W.ownsRow w1.heap.size 58 2 jv x.log.length (its x.log) := own_same h1 fun k hk => g7 k (World.ownsRow.lt h1 k hk).2 (by have := (World.ownsRow.lt h1 k hk).1; omega)
  have j2 : W.ownsRow w1.heap.size 3 1 kv x.votes.length (ints x.votes) := own_same h2 fun k hk => g7 k (World.ownsRow.lt h2 k hk).2 (by have := (World.ownsRow.lt h2 k hk).1; omega)
  have e1 := World.ownsRow.lt j1
  have e2 := World.ownsRow.lt j2
  have e3 := World.ownsRow.lt g2
  have e4 := World.ownsRow.lt g3
  have i1 := World.ownsRow.lt h1
  have i2 := World.ownsRow.lt h2
  have hB : w.heap.size ≤ W.heap.size := by omega
  refine ⟨⟨jv, kv, pv, qv, .slice none 0 0, []⟩, ⟨BK.new W _ _, hB, own_mono (j1.alloc _) (by omega), own_mono (j2.alloc _) (by omega), own_mono (g2.alloc _) (by omega), own_mono (g3.alloc _) (by omega), World.ownsRow_nil _ _ _ _, rfl, ?_⟩, (h4.trans g5).alloc hB _⟩
  refine ⟨fun e => ?_, fun e => ?_, fun e => ?_, fun e => ?_, fun e => (by cases e), h3, fun k a b => ?_, fun k a b => ?_, fun k a b => (by cases b), fun k a b => ?_, fun k a b => ?_, fun k a b => (by cases b), g4, fun k a b => (by cases b), fun k a b => (by cases b)⟩
  · have := (e1 _ e).2; omega
  · have := (e2 _ e).2; omega
  · have := (e3 _ e).2; omega
  · have := (e4 _ e).2; omega
  · have := (i1 _ a).2; have := (e3 _ b).1; omega
  · have := (i1 _ a).2; have := (e4 _ b).1; omega
  · have := (i2 _ a).2; have := (e3 _ b).1; omega
  · have := (i2 _ a).2; have := (e4 _ b).1; omega

/-- what is small enough to be copied -/
def FitN (x : Rf.Node) : Prop := x.log.length * 16 ≤ 140737488355328 ∧ x.votes.length * 8 ≤ 140737488355328 ∧ x.next.length * 8 ≤ 140737488355328 ∧ x.mtch.length * 8 ≤ 140737488355328

/-- a node at work has begun -/
def PB (w : World) (x : Rf.Node) (e : Ending) (w' : World) : Prop := ∃ p o, e = .returned (.tuple #[.pointer (some ⟨p, 0, none⟩), .bool (decide (Rf.wrongN x = 0))]) ∧ WK w.heap.size w' p x [] o ∧ Below w.heap.size w w'

set_option maxHeartbeats 4000000 in
set_option maxRecDepth 100000 in
theorem begin_any (x : Rf.Node) (v : Array Value) (w : World) (hv : Nv w v x) (hf : FitN x) : Calls Try.prog 24 #[.agg v] w (PB w x) := by
  obtain ⟨lv, vv, nv, mv, rfl, h2, h3, h4, h5⟩ := hv
  obtain ⟨la, LL, lc, rfl, hLL, _, _⟩ := SC.shp h2
  obtain ⟨va, VL, vc, rfl, hVL, _, _⟩ := SC.shp h3
  obtain ⟨na, NL, nc, rfl, hNL, _, _⟩ := SC.shp h4
  obtain ⟨ma, ML, mc, rfl, hML, _, _⟩ := SC.shp h5
  have HV : Hid (Nv w #[.int .i64 x.id, .int .i64 x.n, .int .i64 x.term, .int .i64 x.vote, .slice la LL lc, .int .i64 x.commit, .int .i64 x.role, .int .i64 x.boss, .slice va VL vc, .slice na NL nc, .slice ma ML mc] x) := hide ⟨_, _, _, _, rfl, h2, h3, h4, h5⟩
  have H2 := hide h2
  have H3 := hide h3
  have H4 := hide h4
  have H5 := hide h5
  have HX := hide (BK.new w 25 #[.int .i64 x.id, .int .i64 x.n, .int .i64 x.term, .int .i64 x.vote, .slice la LL lc, .int .i64 x.commit, .int .i64 x.role, .int .i64 x.boss, .slice va VL vc, .slice na NL nc, .slice ma ML mc])
  have HB := hide (below_new w (.cells #[.int .i64 x.id, .int .i64 x.n, .int .i64 x.term, .int .i64 x.vote, .slice la LL lc, .int .i64 x.commit, .int .i64 x.role, .int .i64 x.boss, .slice va VL vc, .slice na NL nc, .slice ma ML mc] 25))
  clear h2 h3 h4 h5
  go_enter Try.func24, Try.ntmps24
  go_wp2_with fail
  generalize w.alloc (.cells #[.int .i64 x.id, .int .i64 x.n, .int .i64 x.term, .int .i64 x.vote, .slice la LL lc, .int .i64 x.commit, .int .i64 x.role, .int .i64 x.boss, .slice va VL vc, .slice na NL nc, .slice ma ML mc] 25) = w0 at HX HB ⊢
  have CW := hide (wrong_any x _ w0 (NV.keep (kept (unhide HB)) (unhide HV)))
  have EB : Hid ((Rf.wrongN x == 0) = decide (Rf.wrongN x = 0)) := hide (by rw [Bool.eq_iff_iff]; simp)
  go_wp2_with (go_at_call 4; refine (unhide CW).mono ?_; rintro e w1 ⟨rfl, hb⟩)
  have HX1 := hide ((unhide HX).keep hb)
  have HB1 := hide (below_via (unhide HB) hb)
  have hS : w.heap.size < w1.heap.size := (unhide HX1).low
  clear hb HX HB CW
  have CA := hide (two_copies w.heap.size w1 25 #[.int .i64 x.id, .int .i64 x.n, .int .i64 x.term, .int .i64 x.vote, .slice la LL lc, .int .i64 x.commit, .int .i64 x.role, .int .i64 x.boss, .slice va VL vc, .slice na NL nc, .slice ma ML mc] 38 39 (.slice la LL lc) (.slice va VL vc) _ _ _ _ _ _ 4 8 _ _ (unhide HX1)
    (fun wx hx => copiedT_any x.log (.slice la LL lc) wx (TV.keep (kept (below_via (unhide HB1) hx)) (unhide H2)) hf.1) (fun wx hx => copiedI_any x.votes (.slice va VL vc) wx (IV.keep (kept (below_via (unhide HB1) hx)) (unhide H3)) hf.2.1))
  obtain ⟨c0, c1, c2, c3, c4, c5, c6, c7, c8, c9, c10⟩ := (show NX w1 w.heap.size _ _ _ _ _ _ _ _ _ _ _ from unhide HX1).tell
  obtain ⟨f0, f1, f2, f3, f4, f5, f6, f7, f8, f9, f10⟩ := (unhide HX1).thaw11
  go_cut [] from 8 (fun wx => ∃ ja JL jc ka KL kc, Hid (BK wx w.heap.size 25 #[.int .i64 x.id, .int .i64 x.n, .int .i64 x.term, .int .i64 x.vote, .slice ja JL jc, .int .i64 x.commit, .int .i64 x.role, .int .i64 x.boss, .slice ka KL kc, .slice na NL nc, .slice ma ML mc]) ∧ Hid (wx.ownsRow w1.heap.size 58 2 (.slice ja JL jc) x.log.length (its x.log) ∧ wx.ownsRow w1.heap.size 3 1 (.slice ka KL kc) x.votes.length (ints x.votes) ∧ dis (.slice ja JL jc) (.slice ka KL kc) ∧ Below w.heap.size w wx ∧ w1.heap.size ≤ wx.heap.size))
  case first =>
    go_region_with (first
      | (go_at_call 38; with_reducible refine (unhide CA).mono ?_; rintro e wL ⟨ja, JL, jc, rfl, hXL, CV⟩; clear c0 c1 c2 c3 c4 c5 c6 c7 c8 c9 c10 f0 f1 f2 f3 f4 f5 f6 f7 f8 f9 f10; have lL := hXL.low; obtain ⟨c0, c1, c2, c3, c4, c5, c6, c7, c8, c9, c10⟩ := (show NX wL w.heap.size _ _ _ _ _ _ _ _ _ _ _ from hXL).tell; obtain ⟨f0, f1, f2, f3, f4, f5, f6, f7, f8, f9, f10⟩ := hXL.thaw11; clear hXL)
      | (go_at_call 39; with_reducible refine (unhide CV).mono ?_; rintro e wV ⟨ka, KL, kc, rfl, hXV, FA⟩; clear c0 c1 c2 c3 c4 c5 c6 c7 c8 c9 c10 f0 f1 f2 f3 f4 f5 f6 f7 f8 f9 f10; have lV := hXV.low; obtain ⟨c0, c1, c2, c3, c4, c5, c6, c7, c8, c9, c10⟩ := (show NX wV w.heap.size _ _ _ _ _ _ _ _ _ _ _ from hXV).tell; obtain ⟨f0, f1, f2, f3, f4, f5, f6, f7, f8, f9, f10⟩ := hXV.thaw11; clear hXV))
    all_goals go_wp2_with fail
    all_goals go_meet
    all_goals
      obtain ⟨u1, u2, rfl, rfl, g1, g2, g3, g4, g5, g6, _⟩ := unhide FA
      simp only [List.setIfInBounds_toArray, List.set_cons_zero, List.set_cons_succ] at g1
      exact ⟨ja, JL, jc, ka, KL, kc, hide g1, hide ⟨g2, g3, g4, (unhide HB1).trans g5, g6⟩⟩
  case rest =>
  obtain ⟨ja, JL, jc, ka, KL, kc, HX2, HY2⟩ := hcut
  clear c0 c1 c2 c3 c4 c5 c6 c7 c8 c9 c10 f0 f1 f2 f3 f4 f5 f6 f7 f8 f9 f10 CA
  have hB2 := hide (unhide HY2).2.2.2.1
  have CA := hide (two_copies w.heap.size wc 25 #[.int .i64 x.id, .int .i64 x.n, .int .i64 x.term, .int .i64 x.vote, .slice ja JL jc, .int .i64 x.commit, .int .i64 x.role, .int .i64 x.boss, .slice ka KL kc, .slice na NL nc, .slice ma ML mc] 39 39 (.slice na NL nc) (.slice ma ML mc) _ _ _ _ _ _ 9 10 _ _ (unhide HX2)
    (fun wx hx => copiedI_any x.next (.slice na NL nc) wx (IV.keep (kept (below_via (unhide hB2) hx)) (unhide H4)) hf.2.2.1) (fun wx hx => copiedI_any x.mtch (.slice ma ML mc) wx (IV.keep (kept (below_via (unhide hB2) hx)) (unhide H5)) hf.2.2.2))
  obtain ⟨c0, c1, c2, c3, c4, c5, c6, c7, c8, c9, c10⟩ := (show NX wc w.heap.size _ _ _ _ _ _ _ _ _ _ _ from unhide HX2).tell
  obtain ⟨f0, f1, f2, f3, f4, f5, f6, f7, f8, f9, f10⟩ := (unhide HX2).thaw11
  have hS2 := (unhide HX2).low
  go_wp2_with fail
  go_region_with (first
    | (go_at_call 39; with_reducible refine (unhide CA).mono ?_; rintro e wL ⟨pa, PL, pc, rfl, hXL, CV⟩; clear c0 c1 c2 c3 c4 c5 c6 c7 c8 c9 c10 f0 f1 f2 f3 f4 f5 f6 f7 f8 f9 f10; have lL := hXL.low; obtain ⟨c0, c1, c2, c3, c4, c5, c6, c7, c8, c9, c10⟩ := (show NX wL w.heap.size _ _ _ _ _ _ _ _ _ _ _ from hXL).tell; obtain ⟨f0, f1, f2, f3, f4, f5, f6, f7, f8, f9, f10⟩ := hXL.thaw11; clear hXL)
    | (go_at_call 39; with_reducible refine (unhide CV).mono ?_; rintro e wV ⟨qa, QL, qc, rfl, hXV, FA⟩; clear c0 c1 c2 c3 c4 c5 c6 c7 c8 c9 c10 f0 f1 f2 f3 f4 f5 f6 f7 f8 f9 f10; have lV := hXV.low; obtain ⟨c0, c1, c2, c3, c4, c5, c6, c7, c8, c9, c10⟩ := (show NX wV w.heap.size _ _ _ _ _ _ _ _ _ _ _ from hXV).tell; obtain ⟨f0, f1, f2, f3, f4, f5, f6, f7, f8, f9, f10⟩ := hXV.thaw11; clear hXV))
  all_goals
    obtain ⟨u1, u2, rfl, rfl, g1, g2, g3, g4, g5, g6, g7⟩ := unhide FA
    simp only [List.setIfInBounds_toArray, List.set_cons_zero, List.set_cons_succ] at g1
    have FN0 := began (unhide HY2) hS g2 g3 g4 g5 g6 g7
    rw [show (World.setCell (World.setCell wV ⟨w.heap.size, 9, none⟩ (.slice pa PL pc)) ⟨w.heap.size, 10, none⟩ (.slice qa QL qc)).heap.size = wV.heap.size by simp [World.setCell]] at FN0
    have FN := hide FN0
    obtain ⟨d0, d1, d2, d3, d4, d5, d6, d7, d8, d9, d10⟩ := (show NX _ w.heap.size _ _ _ _ _ _ _ _ _ _ _ from g1).tell
    clear g1 g2 g3 g4 g5 g6 g7 FA FN0
    go_wp2
    go_ret2
    obtain ⟨oo, k1, k2⟩ := unhide FN
    refine ⟨wV.heap.size, oo, ?_, k1, k2⟩
    rw [← unhide EB]
    rfl

end Go.Proofs.Ytiplnegiphhdlaa.RW
