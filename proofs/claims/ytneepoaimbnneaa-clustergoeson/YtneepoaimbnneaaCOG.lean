/- Walks: Start (cluster). -/
import Derived.Test.YtneepoaimbnneaaCEG
import Derived.Test.YtneepoaimbnneaaNJ
import Derived.Deep.Cut
import Derived.Deep.CutRange
import Derived.Test.YtneepoaimbnneaaCGG
import Derived.Test.YtneepoaimbnneaaCJG
import Derived.Test.YtneepoaimbnneaaML
namespace Go.Proofs.Ytneepoaimbnneaa.CL
open Go.RowKit
variable {A : Nat → Prop}

/-- a world at work has begun -/
def PG (A : Nat → Prop) (w : World) (W : Rf.Wd) (e : Ending) (w' : World) : Prop := ∃ p nv tv nc tc, e = .returned (.pointer (some ⟨p, 0, none⟩)) ∧ CW A w.heap.size w' p W nv tv nc tc ∧ Below w.heap.size w w'
theorem begunC {w w1 wV : World} {W : Rf.Wd} {nv tv : Value} {nc tc : List Value} (hA : ∀ b, w.heap.size ≤ b → A b) (hn : NC (fun b => b < w.heap.size ∧ A b) w W.nodes nc) (ht : MC (fun b => b < w.heap.size ∧ A b) w W.net tc) (h1 : wV.ownsRow w1.heap.size 34 11 nv W.nodes.length nc) (h2 : wV.ownsRow w1.heap.size 40 9 tv W.net.length tc) (hd : dis nv tv) (hb : Below w.heap.size w wV) (hw : w.heap.size ≤ w1.heap.size) :
    CW A w.heap.size (wV.alloc (.cells #[nv, tv] 56)) wV.heap.size W nv tv nc tc ∧ Below w.heap.size w (wV.alloc (.cells #[nv, tv] 56)) := by
  have hB : w.heap.size ≤ wV.heap.size := hb.size
  have bn := below_new wV (.cells #[nv, tv] 56)
  have l1 := World.ownsRow.lt h1
  have l2 := World.ownsRow.lt h2
  have hk : ∀ b, (b < w.heap.size ∧ A b) → Fp A (wV.alloc (.cells #[nv, tv] 56)) wV.heap.size nv tv b ∧ (wV.alloc (.cells #[nv, tv] 56)).heap[b]? = w.heap[b]? := by
    intro b ⟨hbl, ha⟩
    refine ⟨⟨Nat.lt_of_lt_of_le (by omega) bn.size, by omega, fun e => ?_, fun e => ?_, ha⟩, (bn.block b (by omega)).trans (hb.block b hbl)⟩
    · have := (l1 b e).1; omega
    · have := (l2 b e).1; omega
  refine ⟨⟨BK.new wV _ _, hB, (RO.of (own_below h1 bn)).mono hw, (RO.of (own_below h2 bn)).mono hw, hn.keep hk, ht.keep hk, fun e => ?_, fun e => ?_, hd, hA⟩, hb.alloc hB _⟩
  · have := (l1 _ e).2; omega
  · have := (l2 _ e).2; omega

set_option maxHeartbeats 4000000 in
set_option maxRecDepth 100000 in
theorem begin_any (W : Rf.Wd) (v : Array Value) (w : World) (hv : Wv A w v W) (hA : ∀ b, w.heap.size ≤ b → A b) (hN : W.nodes.length ≤ 1000) (hT : W.net.length ≤ 1000) : Calls Try.prog 11 #[.agg v] w (PG A w W) := by
  obtain ⟨nv, tv, rfl, ⟨nc, n1, n2⟩, ⟨tc, t1, t2⟩⟩ := hv
  obtain ⟨na, NL, ncap, rfl, hNL, _, _⟩ := SC.shp n1
  obtain ⟨ta, TL, tcap, rfl, hTL, _, _⟩ := SC.shp t1
  have HA := hide hA
  clear hA
  have HN := hide (And.intro n1 n2)
  have HT := hide (And.intro t1 t2)
  obtain ⟨w1, hw1⟩ : ∃ w1, w1 = w.alloc (.cells #[.slice na NL ncap, .slice ta TL tcap] 27) := ⟨_, rfl⟩
  have HX : Hid (BK w1 w.heap.size 27 #[.slice na NL ncap, .slice ta TL tcap]) := hide (by rw [hw1]; exact BK.new _ _ _)
  have HB : Hid (Below w.heap.size w w1) := hide (by rw [hw1]; exact below_new _ _)
  have CA := hide (RW.two_copies w.heap.size w1 27 #[.slice na NL ncap, .slice ta TL tcap] 16 17 (.slice na NL ncap) (.slice ta TL tcap) 34 40 11 9 W.nodes.length W.net.length 0 1 nc tc (unhide HX)
    (fun wx hx => copiedN_any (.slice na NL ncap) W.nodes.length nc wx (SC.keep (fun b hb => kept (below_via (unhide HB) hx) b hb.1) (unhide HN).1) (unhide HN).2.one (by omega)) (fun wx hx => copiedM_any (.slice ta TL tcap) W.net.length tc wx (SC.keep (fun b hb => kept (below_via (unhide HB) hx) b hb.1) (unhide HT).1) (unhide HT).2.one (by omega)))
  have c0 : w1.cell? ⟨w.heap.size, 0, none⟩ = some (.slice na NL ncap) := (unhide HX).at rfl
  have c1 : w1.cell? ⟨w.heap.size, 1, none⟩ = some (.slice ta TL tcap) := (unhide HX).at rfl
  have f0 : w1.frozen? ⟨w.heap.size, 0, none⟩ = false := (unhide HX).thaw _
  have f1 : w1.frozen? ⟨w.heap.size, 1, none⟩ = false := (unhide HX).thaw _
  clear n1 n2 t1 t2
  go_enter Try.func11, Try.ntmps11
  go_upto_region 1 with fail
  rw [← hw1]
  clear hw1
  go_region_with (first
    | (go_at_call 16; with_reducible refine (unhide CA).mono ?_; rintro e wL ⟨ja, JL, jc, rfl, hXL, CV⟩; clear c0 c1 f0 f1; have lL := hXL.low; have c0 := hXL.at (j := 0) rfl; have c1 := hXL.at (j := 1) rfl; have f0 := hXL.thaw 0; have f1 := hXL.thaw 1; clear hXL)
    | (go_at_call 17; with_reducible refine (unhide CV).mono ?_; rintro e wV ⟨ka, KL, kc, rfl, hXV, FA⟩; clear c0 c1 f0 f1; have lV := hXV.low; have c0 := hXV.at (j := 0) rfl; have c1 := hXV.at (j := 1) rfl; have f0 := hXV.thaw 0; have f1 := hXV.thaw 1; clear hXV))
  all_goals
    obtain ⟨u1, u2, rfl, rfl, g1, g2, g3, g4, g5, g6, g7⟩ := unhide FA
    simp only [List.setIfInBounds_toArray, List.set_cons_zero, List.set_cons_succ] at g1
    have FN0 := begunC (unhide HA) (unhide HN).2 (unhide HT).2 g2 g3 g4 ((unhide HB).trans g5) (unhide HB).size
    rw [show (World.setCell (World.setCell wV ⟨w.heap.size, 0, none⟩ (.slice ja JL jc)) ⟨w.heap.size, 1, none⟩ (.slice ka KL kc)).heap.size = wV.heap.size by simp [World.setCell]] at FN0
    have FN := hide FN0
    have d0 := g1.at (j := 0) rfl
    have d1 := g1.at (j := 1) rfl
    clear g1 g2 g3 g4 g5 g6 g7 FA FN0
    go_wp2
    go_ret
    exact ⟨wV.heap.size, _, _, _, _, rfl, (unhide FN).1, (unhide FN).2⟩

end Go.Proofs.Ytneepoaimbnneaa.CL

namespace Go.Proofs.Ytneepoaimbnneaa.CL
open Go.RowKit
variable {A : Nat → Prop}

theorem RO.set {B : Nat} {w : World} {g off cap n k : Nat} {xs : List Value} (h : RO B w (.slice (some ⟨g, off, none⟩) n cap) k n xs) (j : Nat) (u : Value) (hj : j < n * k) : RO B (w.setCell ⟨g, off + j, none⟩ u) (.slice (some ⟨g, off, none⟩) n cap) k n (xs.set j u) := by
  have := h.put j [u] (by simp; omega)
  rw [List.length_singleton] at this
  have e : xs.set j u = xs.take j ++ [u] ++ xs.drop (j + 1) := by
    rw [List.set_eq_take_append_cons_drop, if_pos (by rw [h.1]; exact hj)]
    simp
  rw [e]
  exact this
theorem NC.cell {P : Nat → Prop} {w : World} {u : Value} {j : Nat} (hj : j < 11) : ∀ {xs : List Rf.Node} {cs : List Value}, NC P w xs cs → ∀ {k : Nat} {x : Rf.Node}, xs[k]? = some x → (∀ v, NV P w v x → NV P w (v.setIfInBounds j u) x) → NC P w xs (cs.set (k * 11 + j) u)
  | [], _, _, k, x, hx, _ => by simp at hx
  | y :: xs, cs, ⟨v, rest, h1, h2, h3⟩, 0, x, hx, hu => by
    have hl : v.toList.length = 11 := by simpa using h2.size
    simp at hx
    subst hx h1
    refine ⟨v.setIfInBounds j u, rest, ?_, hu v h2, h3⟩
    rw [Nat.zero_mul, Nat.zero_add, List.set_append_left _ _ (by omega), Array.toList_setIfInBounds]
  | y :: xs, cs, ⟨v, rest, h1, h2, h3⟩, k + 1, x, hx, hu => by
    have hl : v.toList.length = 11 := by simpa using h2.size
    subst h1
    refine ⟨v, _, ?_, h2, NC.cell hj h3 (k := k) (x := x) (by simpa using hx) hu⟩
    rw [List.set_append_right _ _ (by omega), hl, show (k + 1) * 11 + j - 11 = k * 11 + j by omega]
theorem MC.cell {P : Nat → Prop} {w : World} {u : Value} : ∀ {ms : List Rf.Msg} {cs : List Value}, MC P w ms cs → ∀ {k : Nat} {m : Rf.Msg}, ms[k]? = some m → TV P w u m.items → MC P w ms (cs.set (k * 9 + 7) u)
  | [], _, _, k, x, hx, _ => by simp at hx
  | y :: xs, cs, ⟨iv, rest, h1, h2, h3⟩, 0, x, hx, hu => by
    simp at hx
    subst hx h1
    refine ⟨u, rest, ?_, hu, h3⟩
    rw [Nat.zero_mul, Nat.zero_add, List.set_append_left _ _ (by simp [mcs])]
    rfl
  | y :: xs, cs, ⟨iv, rest, h1, h2, h3⟩, k + 1, x, hx, hu => by
    have hl : (mcs y iv).length = 9 := rfl
    subst h1
    refine ⟨iv, _, ?_, h2, MC.cell h3 (k := k) (m := x) (by simpa using hx) hu⟩
    rw [List.set_append_right _ _ (by omega), hl, show (k + 1) * 9 + 7 - 9 = k * 9 + 7 by omega]
theorem nv_log {P : Nat → Prop} {w : World} {x : Rf.Node} {u : Value} (hu : TV P w u x.log) : ∀ v, NV P w v x → NV P w (v.setIfInBounds 4 u) x := by
  rintro v ⟨lv, vv, nv, mv, rfl, h2, h3, h4, h5⟩
  exact ⟨u, vv, nv, mv, rfl, hu, h3, h4, h5⟩
theorem nv_votes {P : Nat → Prop} {w : World} {x : Rf.Node} {u : Value} (hu : IV P w u x.votes) : ∀ v, NV P w v x → NV P w (v.setIfInBounds 8 u) x := by
  rintro v ⟨lv, vv, nv, mv, rfl, h2, h3, h4, h5⟩
  exact ⟨lv, u, nv, mv, rfl, h2, hu, h4, h5⟩
theorem nv_next {P : Nat → Prop} {w : World} {x : Rf.Node} {u : Value} (hu : IV P w u x.next) : ∀ v, NV P w v x → NV P w (v.setIfInBounds 9 u) x := by
  rintro v ⟨lv, vv, nv, mv, rfl, h2, h3, h4, h5⟩
  exact ⟨lv, vv, u, mv, rfl, h2, h3, hu, h5⟩
theorem nv_mtch {P : Nat → Prop} {w : World} {x : Rf.Node} {u : Value} (hu : IV P w u x.mtch) : ∀ v, NV P w v x → NV P w (v.setIfInBounds 10 u) x := by
  rintro v ⟨lv, vv, nv, mv, rfl, h2, h3, h4, h5⟩
  exact ⟨lv, vv, nv, u, rfl, h2, h3, h4, hu⟩
theorem CW.cellNode {B : Nat} {w : World} {p : Nat} {W : Rf.Wd} {g off cap n : Nat} {tv : Value} {nc tc : List Value} (h : CW A B w p W (.slice (some ⟨g, off, none⟩) n cap) tv nc tc) {k j : Nat} (hj : j < 11) {x : Rf.Node} (hx : W.nodes[k]? = some x) {u : Value} (hu : ∀ v, NV (Fp A w p (.slice (some ⟨g, off, none⟩) n cap) tv) w v x → NV (Fp A w p (.slice (some ⟨g, off, none⟩) n cap) tv) w (v.setIfInBounds j u) x) :
    CW A B (w.setCell ⟨g, off + k * 11 + j, none⟩ u) p W (.slice (some ⟨g, off, none⟩) n cap) tv (nc.set (k * 11 + j) u) tc ∧ Below B w (w.setCell ⟨g, off + k * 11 + j, none⟩ u) ∧ Frm A p w (.slice (some ⟨g, off, none⟩) n cap) tv (w.setCell ⟨g, off + k * 11 + j, none⟩ u) (.slice (some ⟨g, off, none⟩) n cap) tv := by
  obtain ⟨_, _, e, _, _⟩ := SC.shape h.nodes.sc
  obtain rfl : n = W.nodes.length := by cases e; rfl
  have hk : k < W.nodes.length := (List.getElem?_eq_some_iff.1 hx).1
  have ho := RO.set h.nodes (k * 11 + j) u (by omega)
  rw [← Nat.add_assoc] at ho
  have hg := grown_set w ⟨g, off + k * 11 + j, none⟩ u
  exact ⟨h.inNodes hg ho (NC.cell hj h.nC hx hu), (Below.refl B w).setCell (h.nodes.lt g rfl).1 _, fun b hp => ⟨⟨Nat.lt_of_lt_of_le hp.1 hg.size, hp.2⟩, hg.block b hp.1 fun e => hp.2.2.1 (by cases e; rfl)⟩⟩
theorem CW.inNet {B : Nat} {w w1 : World} {p : Nat} {W : Rf.Wd} {nv tv : Value} {nc tc tc' : List Value} (h : CW A B w p W nv tv nc tc) (hg : w.grownBy w1 tv.ownBlock) (ho : RO B w1 tv 9 W.net.length tc') (hn : MC (Fp A w p nv tv) w W.net tc') : CW A B w1 p W nv tv nc tc' := by
  have hk : ∀ b, Fp A w p nv tv b → Fp A w1 p nv tv b ∧ w1.heap[b]? = w.heap[b]? := fun b hp => ⟨⟨Nat.lt_of_lt_of_le hp.1 hg.size, hp.2⟩, hg.block b hp.1 fun e => hp.2.2.2.1 e.symm⟩
  exact ⟨(hg.block p h.lo fun e => h.pt e.symm).trans h.blk, h.low, h.nodes.ne hg fun b hb e => h.nt b hb e, ho, h.nC.keep hk, hn.keep hk, h.pn, h.pt, h.nt, h.hA⟩
theorem CW.cellMsg {B : Nat} {w : World} {p : Nat} {W : Rf.Wd} {g off cap n : Nat} {nv : Value} {nc tc : List Value} (h : CW A B w p W nv (.slice (some ⟨g, off, none⟩) n cap) nc tc) {k : Nat} {m : Rf.Msg} (hx : W.net[k]? = some m) {u : Value} (hu : TV (Fp A w p nv (.slice (some ⟨g, off, none⟩) n cap)) w u m.items) :
    CW A B (w.setCell ⟨g, off + k * 9 + 7, none⟩ u) p W nv (.slice (some ⟨g, off, none⟩) n cap) nc (tc.set (k * 9 + 7) u) ∧ Below B w (w.setCell ⟨g, off + k * 9 + 7, none⟩ u) ∧ Frm A p w nv (.slice (some ⟨g, off, none⟩) n cap) (w.setCell ⟨g, off + k * 9 + 7, none⟩ u) nv (.slice (some ⟨g, off, none⟩) n cap) := by
  obtain ⟨_, _, e, _, _⟩ := SC.shape h.net.sc
  obtain rfl : n = W.net.length := by cases e; rfl
  have hk : k < W.net.length := (List.getElem?_eq_some_iff.1 hx).1
  have ho := RO.set h.net (k * 9 + 7) u (by omega)
  rw [← Nat.add_assoc] at ho
  have hg := grown_set w ⟨g, off + k * 9 + 7, none⟩ u
  exact ⟨CW.inNet h hg ho (MC.cell h.tC hx hu), (Below.refl B w).setCell (h.net.lt g rfl).1 _, fun b hp => ⟨⟨Nat.lt_of_lt_of_le hp.1 hg.size, hp.2⟩, hg.block b hp.1 fun e => hp.2.2.2.1 (by cases e; rfl)⟩⟩
/-- what is new is no part of it -/
theorem SC.fresh {B : Nat} {w w1 w2 : World} {p : Nat} {W : Rf.Wd} {nv tv : Value} {nc tc : List Value} (h : CW A B w p W nv tv nc tc) {e : TypeId} {k n : Nat} {v : Value} {xs : List Value} (ho : w1.ownsRow w.heap.size e k v n xs) (hb : Below w1.heap.size w1 w2) : SC (Fp A w2 p nv tv) w2 v k n xs :=
  SC.keep (fun b hb' => ⟨Fp.new h hb'.1 (Nat.lt_of_lt_of_le hb'.2 hb.size), hb.block b hb'.2⟩) (SC.own' ho)
/-- two of its lists are copied, and stored -/
theorem relaid (B p k : Nat) (W : Rf.Wd) (x : Rf.Node) (g off n cap : Nat) (tv : Value) (nc tc : List Value) (w : World) (h : CW A B w p W (.slice (some ⟨g, off, none⟩) n cap) tv nc tc) (hx : W.nodes[k]? = some x) (f1 f2 : Nat) (a1 a2 : Value) (e1 e2 : TypeId) (z1 z2 n1 n2 i j : Nat) (hi : i < 11) (hj : j < 11) (xs1 xs2 : List Value)
    (h1 : ∀ wx, Below w.heap.size w wx → Calls Try.prog f1 #[a1] wx fun e w' => ∃ v', e = .returned v' ∧ w'.ownsRow wx.heap.size e1 z1 v' n1 xs1 ∧ Below wx.heap.size wx w')
    (h2 : ∀ wx, Below w.heap.size w wx → Calls Try.prog f2 #[a2] wx fun e w' => ∃ v', e = .returned v' ∧ w'.ownsRow wx.heap.size e2 z2 v' n2 xs2 ∧ Below wx.heap.size wx w')
    (k1 : ∀ wx u, SC (Fp A wx p (.slice (some ⟨g, off, none⟩) n cap) tv) wx u z1 n1 xs1 → ∀ v, NV (Fp A wx p (.slice (some ⟨g, off, none⟩) n cap) tv) wx v x → NV (Fp A wx p (.slice (some ⟨g, off, none⟩) n cap) tv) wx (v.setIfInBounds i u) x)
    (k2 : ∀ wx u, SC (Fp A wx p (.slice (some ⟨g, off, none⟩) n cap) tv) wx u z2 n2 xs2 → ∀ v, NV (Fp A wx p (.slice (some ⟨g, off, none⟩) n cap) tv) wx v x → NV (Fp A wx p (.slice (some ⟨g, off, none⟩) n cap) tv) wx (v.setIfInBounds j u) x) :
    Calls Try.prog f1 #[a1] w.drew fun e wL => ∃ ja JL jc, e = .returned (.slice ja JL jc) ∧ Below w.heap.size w wL ∧ Hid (Calls Try.prog f2 #[a2] wL fun e wV => ∃ ka KL kc, e = .returned (.slice ka KL kc) ∧ Below w.heap.size w wV ∧
      Hid ((∃ nc', CW A B ((wV.setCell ⟨g, off + k * 11 + i, none⟩ (.slice ja JL jc)).setCell ⟨g, off + k * 11 + j, none⟩ (.slice ka KL kc)) p W (.slice (some ⟨g, off, none⟩) n cap) tv nc' tc) ∧ Below B w ((wV.setCell ⟨g, off + k * 11 + i, none⟩ (.slice ja JL jc)).setCell ⟨g, off + k * 11 + j, none⟩ (.slice ka KL kc)) ∧ Frm A p w (.slice (some ⟨g, off, none⟩) n cap) tv ((wV.setCell ⟨g, off + k * 11 + i, none⟩ (.slice ja JL jc)).setCell ⟨g, off + k * 11 + j, none⟩ (.slice ka KL kc)) (.slice (some ⟨g, off, none⟩) n cap) tv)) := by
  refine (h1 w.drew (Below.refl _ _).drew).mono ?_
  rintro e wL ⟨v1, rfl, ho1, hb1⟩
  obtain ⟨ja, JL, jc, rfl, _, _, _⟩ := SC.shp (SC.own ho1)
  have hb1' : Below w.heap.size w wL := (Below.refl _ w).drew.trans hb1
  refine ⟨ja, JL, jc, rfl, hb1', hide ?_⟩
  refine (h2 wL hb1').mono ?_
  rintro e wV ⟨v2, rfl, ho2, hb2⟩
  obtain ⟨ka, KL, kc, rfl, _, _, _⟩ := SC.shp (SC.own ho2)
  have hbV : Below w.heap.size w wV := below_via hb1' hb2
  have hL := h.below hb1'
  have hV := hL.below hb2
  have s1 : SC (Fp A wV p (.slice (some ⟨g, off, none⟩) n cap) tv) wV (.slice ja JL jc) z1 n1 xs1 := SC.fresh h ho1 hb2
  have s2 : SC (Fp A wV p (.slice (some ⟨g, off, none⟩) n cap) tv) wV (.slice ka KL kc) z2 n2 xs2 := SC.fresh hL ho2 (Below.refl _ _)
  obtain ⟨c1, b1, r1⟩ := CW.cellNode hV hi hx (k1 wV _ s1)
  have s2' : SC (Fp A (wV.setCell ⟨g, off + k * 11 + i, none⟩ (.slice ja JL jc)) p (.slice (some ⟨g, off, none⟩) n cap) tv) (wV.setCell ⟨g, off + k * 11 + i, none⟩ (.slice ja JL jc)) (.slice ka KL kc) z2 n2 xs2 := by
    have hg := grown_set wV ⟨g, off + k * 11 + i, none⟩ (.slice ja JL jc)
    exact s2.keep fun b hp => ⟨⟨Nat.lt_of_lt_of_le hp.1 hg.size, hp.2⟩, hg.block b hp.1 fun e => hp.2.2.1 (by cases e; rfl)⟩
  obtain ⟨c2, b2, r2⟩ := CW.cellNode c1 hj hx (k2 _ _ s2')
  exact ⟨ka, KL, kc, rfl, hbV, hide ⟨⟨_, c2⟩, ((hbV.mono h.szB).trans b1).trans b2, ((Frm.below hbV).trans r1).trans r2⟩⟩

/-- a message's items are copied, and stored -/
theorem remsg (B p k : Nat) (W : Rf.Wd) (m : Rf.Msg) (g off n cap : Nat) (nv : Value) (nc tc : List Value) (w : World) (h : CW A B w p W nv (.slice (some ⟨g, off, none⟩) n cap) nc tc) (hx : W.net[k]? = some m) (a1 : Value)
    (h1 : ∀ wx, Below w.heap.size w wx → Calls Try.prog 25 #[a1] wx fun e w' => ∃ v', e = .returned v' ∧ w'.ownsRow wx.heap.size 43 2 v' m.items.length (its m.items) ∧ Below wx.heap.size wx w') :
    Calls Try.prog 25 #[a1] w.drew fun e wL => ∃ ja JL jc, e = .returned (.slice ja JL jc) ∧ Below w.heap.size w wL ∧
      Hid ((∃ tc', CW A B (wL.setCell ⟨g, off + k * 9 + 7, none⟩ (.slice ja JL jc)) p W nv (.slice (some ⟨g, off, none⟩) n cap) nc tc') ∧ Below B w (wL.setCell ⟨g, off + k * 9 + 7, none⟩ (.slice ja JL jc)) ∧ Frm A p w nv (.slice (some ⟨g, off, none⟩) n cap) (wL.setCell ⟨g, off + k * 9 + 7, none⟩ (.slice ja JL jc)) nv (.slice (some ⟨g, off, none⟩) n cap)) := by
  refine (h1 w.drew (Below.refl _ _).drew).mono ?_
  rintro e wL ⟨v1, rfl, ho1, hb1⟩
  obtain ⟨ja, JL, jc, rfl, _, _, _⟩ := SC.shp (SC.own ho1)
  have hb1' : Below w.heap.size w wL := (Below.refl _ w).drew.trans hb1
  have hL := h.below hb1'
  have s1 : SC (Fp A wL p nv (.slice (some ⟨g, off, none⟩) n cap)) wL (.slice ja JL jc) 2 m.items.length (its m.items) := SC.fresh h ho1 (Below.refl _ _)
  obtain ⟨c1, b1, r1⟩ := CW.cellMsg hL hx s1
  exact ⟨ja, JL, jc, rfl, hb1', hide ⟨⟨_, c1⟩, (hb1'.mono h.szB).trans b1, (Frm.below hb1').trans r1⟩⟩
/-- a block of slices holds no numbers -/
theorem not_in {w : World} {r off : Nat} {t : TypeId} {z : Int} (hr : BK w r t #[.slice none 0 0, .slice none 0 0]) (h : w.cell? ⟨r, off, none⟩ = some (.int .i64 z)) : False := by
  unfold BK at hr
  simp only [World.cell?, hr] at h
  match off, h with
  | 0, h => simp at h
  | 1, h => simp at h
  | n + 2, h => simp at h
theorem tv_out {P Q : Nat → Prop} {w w' : World} {r : Nat} {t : TypeId} {v : Value} {l : List Rf.Item} (hr : BK w r t #[.slice none 0 0, .slice none 0 0]) (hk : ∀ b, P b → b ≠ r → Q b ∧ w'.heap[b]? = w.heap[b]?) (h : TV P w v l) : TV Q w' v l := by
  obtain ⟨h1, a, cap, h2, h3, h4, h5⟩ := h
  refine ⟨h1, a, cap, h2, h3, h4, fun hn => ?_⟩
  obtain ⟨b, off, e1, e2, e3⟩ := h5 hn
  have hne : b ≠ r := by
    rintro rfl
    match l, hn, e3 with
    | x :: l, _, e3 => exact not_in hr (e3 0 _ rfl)
  exact ⟨b, off, e1, (hk b e2 hne).1, fun j u hj => (World.cell?_of_block (w := w) (a := ⟨b, off + j, none⟩) (hk b e2 hne).2).trans (e3 j u hj)⟩
theorem iv_out {P Q : Nat → Prop} {w w' : World} {r : Nat} {t : TypeId} {v : Value} {l : List Int} (hr : BK w r t #[.slice none 0 0, .slice none 0 0]) (hk : ∀ b, P b → b ≠ r → Q b ∧ w'.heap[b]? = w.heap[b]?) (h : IV P w v l) : IV Q w' v l := by
  obtain ⟨h1, a, cap, h2, h3, h4, h5⟩ := h
  refine ⟨h1, a, cap, h2, h3, h4, fun hn => ?_⟩
  obtain ⟨b, off, e1, e2, e3⟩ := h5 hn
  have hne : b ≠ r := by
    rintro rfl
    match l, hn, e3 with
    | x :: l, _, e3 => exact not_in hr (e3 0 _ rfl)
  exact ⟨b, off, e1, (hk b e2 hne).1, fun j u hj => (World.cell?_of_block (w := w) (a := ⟨b, off + j, none⟩) (hk b e2 hne).2).trans (e3 j u hj)⟩
theorem nc_out {P Q : Nat → Prop} {w w' : World} {r : Nat} {t : TypeId} (hr : BK w r t #[.slice none 0 0, .slice none 0 0]) (hk : ∀ b, P b → b ≠ r → Q b ∧ w'.heap[b]? = w.heap[b]?) : ∀ {xs : List Rf.Node} {cs : List Value}, NC P w xs cs → NC Q w' xs cs
  | [], _, h => h
  | _ :: _, _, ⟨v, rest, h1, ⟨lv, vv, nv, mv, e, s2, s3, s4, s5⟩, h3⟩ => ⟨v, rest, h1, ⟨lv, vv, nv, mv, e, tv_out hr hk s2, iv_out hr hk s3, iv_out hr hk s4, iv_out hr hk s5⟩, nc_out hr hk h3⟩
theorem mc_out {P Q : Nat → Prop} {w w' : World} {r : Nat} {t : TypeId} (hr : BK w r t #[.slice none 0 0, .slice none 0 0]) (hk : ∀ b, P b → b ≠ r → Q b ∧ w'.heap[b]? = w.heap[b]?) : ∀ {xs : List Rf.Msg} {cs : List Value}, MC P w xs cs → MC Q w' xs cs
  | [], _, h => h
  | _ :: _, _, ⟨iv, rest, h1, s2, h3⟩ => ⟨iv, rest, h1, tv_out hr hk s2, mc_out hr hk h3⟩
theorem told_end {B : Nat} {w : World} {p r : Nat} {W : Rf.Wd} {nv tv : Value} {nc tc : List Value} {t : TypeId} (h : CW A B w p W nv tv nc tc) (hr : BK w r t #[.slice none 0 0, .slice none 0 0]) (hf : Fp A w p nv tv r) (u0 u1 : Value) : Wv A ((w.setCell ⟨r, 0, none⟩ u0).setCell ⟨r, 1, none⟩ u1) #[nv, tv] W := by
  have hs : ∀ b, b ≠ r → ((w.setCell ⟨r, 0, none⟩ u0).setCell ⟨r, 1, none⟩ u1).heap[b]? = w.heap[b]? := fun b hn => (Below.heap_setCell _ ⟨r, 1, none⟩ u1 b hn).trans (Below.heap_setCell _ ⟨r, 0, none⟩ u0 b hn)
  have hz : ((w.setCell ⟨r, 0, none⟩ u0).setCell ⟨r, 1, none⟩ u1).heap.size = w.heap.size := by simp [World.setCell]
  have hk : ∀ b, Fp A w p nv tv b → b ≠ r → (b < ((w.setCell ⟨r, 0, none⟩ u0).setCell ⟨r, 1, none⟩ u1).heap.size ∧ A b) ∧ ((w.setCell ⟨r, 0, none⟩ u0).setCell ⟨r, 1, none⟩ u1).heap[b]? = w.heap[b]? := fun b hp hn => ⟨⟨by rw [hz]; exact hp.1, hp.2.2.2.2⟩, hs b hn⟩
  refine ⟨nv, tv, rfl, ⟨nc, h.nodes.sc.keep fun b hb => ?_, nc_out hr hk h.nC⟩, ⟨tc, h.net.sc.keep fun b hb => ?_, mc_out hr hk h.tC⟩⟩
  · have hn : b ≠ r := fun e => hf.2.2.1 (e ▸ hb)
    exact ⟨⟨by rw [hz]; exact (h.nodes.lt b hb).2, h.hA b (h.nodes.lt b hb).1⟩, hs b hn⟩
  · have hn : b ≠ r := fun e => hf.2.2.2.1 (e ▸ hb)
    exact ⟨⟨by rw [hz]; exact (h.net.lt b hb).2, h.hA b (h.net.lt b hb).1⟩, hs b hn⟩

end Go.Proofs.Ytneepoaimbnneaa.CL

namespace Go.Proofs.Ytneepoaimbnneaa.CL
open Go.RowKit
variable {A : Nat → Prop}

theorem At11.keep {w w' : World} {g o : Nat} {v0 v1 v2 v3 v4 v5 v6 v7 v8 v9 v10 : Value} (h : At11 w g o v0 v1 v2 v3 v4 v5 v6 v7 v8 v9 v10) (hb : w'.heap[g]? = w.heap[g]?) : At11 w' g o v0 v1 v2 v3 v4 v5 v6 v7 v8 v9 v10 := by
  obtain ⟨h0, h1, h2, h3, h4, h5, h6, h7, h8, h9, h10⟩ := h
  have k : ∀ j, w'.cell? ⟨g, j, none⟩ = w.cell? ⟨g, j, none⟩ := fun j => World.cell?_of_block (a := ⟨g, j, none⟩) hb
  exact ⟨(k _).trans h0, (k _).trans h1, (k _).trans h2, (k _).trans h3, (k _).trans h4, (k _).trans h5, (k _).trans h6, (k _).trans h7, (k _).trans h8, (k _).trans h9, (k _).trans h10⟩
theorem Thaw11.keep {w w' : World} {g o : Nat} (h : Thaw11 w g o) (hb : w'.heap[g]? = w.heap[g]?) : Thaw11 w' g o := by
  obtain ⟨h0, h1, h2, h3, h4, h5, h6, h7, h8, h9, h10⟩ := h
  have k : ∀ j, w'.frozen? ⟨g, j, none⟩ = w.frozen? ⟨g, j, none⟩ := fun j => frozen_of_block (a := ⟨g, j, none⟩) hb
  exact ⟨(k _).trans h0, (k _).trans h1, (k _).trans h2, (k _).trans h3, (k _).trans h4, (k _).trans h5, (k _).trans h6, (k _).trans h7, (k _).trans h8, (k _).trans h9, (k _).trans h10⟩
/-- a world is told -/
def PTo (A : Nat → Prop) (B : Nat) (w : World) (W : Rf.Wd) (e : Ending) (w' : World) : Prop := ∃ v, e = .returned (.agg v) ∧ Wv A w' v W ∧ Below B w w'

set_option maxHeartbeats 16000000 in
set_option maxRecDepth 100000 in
theorem told_any (B p : Nat) (W : Rf.Wd) (nv tv : Value) (nc tc : List Value) (w : World) (h : CW A B w p W nv tv nc tc) (hf : ∀ x ∈ W.nodes, RW.FitN x) (hm : ∀ m ∈ W.net, m.items.length * 16 ≤ 140737488355328) (hN : W.nodes.length ≤ 1000) (hT : W.net.length ≤ 1000) :
    Calls Try.prog 13 #[.pointer (some ⟨p, 0, none⟩)] w (PTo A B w W) := by
  obtain ⟨na, NL, ncap, ta, TL, tcap, hNV, hTV, hNL, hTL, hnle, htle, htc, -, -, -, -⟩ := h.tell
  have hnv := unhide hNV
  have htv := unhide hTV
  subst hnv htv
  clear hNV hTV
  have HF := hide hf
  have HMs := hide hm
  have HN := hide hN
  have HTT := hide hT
  obtain ⟨w0, hw0⟩ : ∃ w0, w0 = w.alloc (.cells #[.slice none 0 0, .slice none 0 0] 27) := ⟨_, rfl⟩
  have b0 : Below w.heap.size w w0 := by rw [hw0]; exact below_new _ _
  have R0 : BK w0 w.heap.size 27 #[.slice none 0 0, .slice none 0 0] := by rw [hw0]; exact BK.new _ _ _
  have HC0 := hide (h.below b0)
  have HR0 := hide R0
  have FR0 : Hid (Fp A w0 p (.slice na NL ncap) (.slice ta TL tcap) w.heap.size) := hide (Fp.new h (Nat.le_refl _) R0.low)
  have HB0 := hide (b0.mono h.szB)
  have HSB : Hid (B ≤ w.heap.size) := hide h.szB
  have q0 : w0.cell? ⟨p, 0, none⟩ = some (.slice na NL ncap) := (h.below b0).blk.at rfl
  clear h hf hm hN hT b0 R0
  go_enter Try.func13, Try.ntmps13
  go_upto_region 1 with fail
  rw [← hw0]
  clear hw0
  go_wp2_with fail
  go_loopw [12] (fun i wr => ∃ k : Nat, k ≤ NL ∧ i = .int .i64 (k : Int) ∧ Hid (∃ nc, CW A B wr p W (.slice na NL ncap) (.slice ta TL tcap) nc tc) ∧ Hid (BK wr w.heap.size 27 #[.slice none 0 0, .slice none 0 0]) ∧ Hid (Fp A wr p (.slice na NL ncap) (.slice ta TL tcap) w.heap.size) ∧ Hid (Below B w wr)) (fun i _ => NL - (intOf i).toNat)
  case atStart => exact ⟨0, Nat.zero_le _, rfl, hide ⟨_, unhide HC0⟩, HR0, FR0, HB0⟩
  case round =>
    obtain ⟨k, hk, rfl, HC, HR, FR, HB⟩ := hrel
    clear q0
    obtain ⟨nc1, hc1⟩ := unhide HC
    by_cases hlt : k < NL
    · have hi1 : (k : Int) < (NL : Int) := by omega
      have hk1000 : NL ≤ 1000 := by have := unhide hNL; have := unhide HN; omega
      obtain ⟨x, hx⟩ : ∃ x, W.nodes[k]? = some x := ⟨_, List.getElem?_eq_getElem (by have := unhide hNL; omega)⟩
      have fx := unhide HF x (List.mem_of_getElem? hx)
      obtain ⟨g, off, cap', a1, n1, c1, a2, n2, c2, a3, n3, c3, a4, n4, c4, e, hv, hat, hth⟩ := hc1.node hx
      obtain rfl : na = some ⟨g, off, none⟩ := by cases e; rfl
      clear e
      have q0 : wr.cell? ⟨p, 0, none⟩ = some (.slice (some ⟨g, off, none⟩) NL ncap) := hc1.blk.at rfl
      have HAT := hide hat
      have HTH := hide hth
      have HGL : Hid (g < wr.heap.size) := hide (hc1.nodes.lt g rfl).2
      have HX := hide hx
      have FX := hide fx
      obtain ⟨lv, vv, nv', mv, hve, s2, s3, s4, s5⟩ := hv
      simp only [Array.mk.injEq, List.cons.injEq, and_true, true_and] at hve
      obtain ⟨rfl, rfl, rfl, rfl⟩ := hve
      have CA := hide (relaid B p k W x g off NL ncap (.slice ta TL tcap) nc1 tc wr hc1 hx 25 26 (.slice a1 n1 c1) (.slice a2 n2 c2) 43 3 2 1 x.log.length x.votes.length 4 8 (by omega) (by omega) (its x.log) (ints x.votes)
        (fun wx hb => copiedT_any _ _ _ wx (SC.keep (fun b hp => ⟨Nat.lt_of_lt_of_le hp.1 hb.size, hb.block b hp.1⟩) s2) (its_one _) fx.1) (fun wx hb => copiedI_any _ _ _ wx (SC.keep (fun b hp => ⟨Nat.lt_of_lt_of_le hp.1 hb.size, hb.block b hp.1⟩) s3) (ints_one _) fx.2.1)
        (fun wx u hu => nv_log hu) (fun wx u hu => nv_votes hu))
      obtain ⟨d0, d1, d2, d3, d4, d5, d6, d7, d8, d9, d10⟩ := hat
      obtain ⟨f0, f1, f2, f3, f4, f5, f6, f7, f8, f9, f10⟩ := hth
      clear hc1 hx fx s2 s3 s4 s5 HC
      go_upto_region 5 with fail
      go_cut [12] from 12 to 54 (fun i wx => i = .int .i64 (k : Int) ∧ Hid (∃ nc, CW A B wx p W (.slice (some ⟨g, off, none⟩) NL ncap) (.slice ta TL tcap) nc tc) ∧ Hid (Below B wr wx) ∧ Hid (Frm A p wr (.slice (some ⟨g, off, none⟩) NL ncap) (.slice ta TL tcap) wx (.slice (some ⟨g, off, none⟩) NL ncap) (.slice ta TL tcap)))
      case first =>
        go_region_with (first
          | (go_at_call 25; (with_reducible refine (unhide CA).mono ?_); rintro e wL ⟨ja, JL, jc, rfl, hbL, CV⟩; clear d0 d1 d2 d3 d4 d5 d6 d7 d8 d9 d10 f0 f1 f2 f3 f4 f5 f6 f7 f8 f9 f10; obtain ⟨d0, d1, d2, d3, d4, d5, d6, d7, d8, d9, d10⟩ := At11.keep (unhide HAT) (hbL.block g (unhide HGL)); obtain ⟨f0, f1, f2, f3, f4, f5, f6, f7, f8, f9, f10⟩ := Thaw11.keep (unhide HTH) (hbL.block g (unhide HGL)); clear hbL)
          | (go_at_call 26; (with_reducible refine (unhide CV).mono ?_); rintro e wV ⟨ka, KL, kc, rfl, hbV, FA⟩; clear d0 d1 d2 d3 d4 d5 d6 d7 d8 d9 d10 f0 f1 f2 f3 f4 f5 f6 f7 f8 f9 f10; obtain ⟨d0, d1, d2, d3, d4, d5, d6, d7, d8, d9, d10⟩ := At11.keep (unhide HAT) (hbV.block g (unhide HGL)); obtain ⟨f0, f1, f2, f3, f4, f5, f6, f7, f8, f9, f10⟩ := Thaw11.keep (unhide HTH) (hbV.block g (unhide HGL)); clear hbV))
        all_goals go_wp2_with fail
        all_goals go_meet
        all_goals
          obtain ⟨g1, g2, g3⟩ := unhide FA
          exact ⟨rfl, hide g1, hide g2, hide g3⟩
      case rest =>
      obtain ⟨rfl, HC1, HB1, HR1⟩ := hcut
      clear d0 d1 d2 d3 d4 d5 d6 d7 d8 d9 d10 f0 f1 f2 f3 f4 f5 f6 f7 f8 f9 f10 CA HAT HTH HGL q0
      obtain ⟨nc2, hc1⟩ := unhide HC1
      have hx := unhide HX
      have fx := unhide FX
      obtain ⟨g', off', cap'', a1', n1', c1', a2', n2', c2', a3', n3', c3', a4', n4', c4', e, hv, hat, hth⟩ := hc1.node hx
      obtain ⟨rfl, rfl⟩ : g' = g ∧ off' = off := by cases e; exact ⟨rfl, rfl⟩
      clear e
      have HAT := hide hat
      have HTH := hide hth
      have HGL : Hid (g' < wc.heap.size) := hide (hc1.nodes.lt g' rfl).2
      obtain ⟨lv, vv, nv', mv, hve, s2, s3, s4, s5⟩ := hv
      simp only [Array.mk.injEq, List.cons.injEq, and_true, true_and] at hve
      obtain ⟨rfl, rfl, rfl, rfl⟩ := hve
      have CA := hide (relaid B p k W x g' off' NL ncap (.slice ta TL tcap) nc2 tc wc hc1 hx 26 26 (.slice a3' n3' c3') (.slice a4' n4' c4') 3 3 1 1 x.next.length x.mtch.length 9 10 (by omega) (by omega) (ints x.next) (ints x.mtch)
        (fun wx hb => copiedI_any _ _ _ wx (SC.keep (fun b hp => ⟨Nat.lt_of_lt_of_le hp.1 hb.size, hb.block b hp.1⟩) s4) (ints_one _) fx.2.2.1) (fun wx hb => copiedI_any _ _ _ wx (SC.keep (fun b hp => ⟨Nat.lt_of_lt_of_le hp.1 hb.size, hb.block b hp.1⟩) s5) (ints_one _) fx.2.2.2)
        (fun wx u hu => nv_next hu) (fun wx u hu => nv_mtch hu))
      obtain ⟨d0, d1, d2, d3, d4, d5, d6, d7, d8, d9, d10⟩ := hat
      obtain ⟨f0, f1, f2, f3, f4, f5, f6, f7, f8, f9, f10⟩ := hth
      clear hc1 hx fx s2 s3 s4 s5 HC1
      go_wp2_with fail
      go_region_with (first
          | (go_at_call 26; (with_reducible refine (unhide CA).mono ?_); rintro e wL ⟨ja, JL, jc, rfl, hbL, CV⟩; clear d0 d1 d2 d3 d4 d5 d6 d7 d8 d9 d10 f0 f1 f2 f3 f4 f5 f6 f7 f8 f9 f10; obtain ⟨d0, d1, d2, d3, d4, d5, d6, d7, d8, d9, d10⟩ := At11.keep (unhide HAT) (hbL.block g' (unhide HGL)); obtain ⟨f0, f1, f2, f3, f4, f5, f6, f7, f8, f9, f10⟩ := Thaw11.keep (unhide HTH) (hbL.block g' (unhide HGL)); clear hbL)
          | (go_at_call 26; (with_reducible refine (unhide CV).mono ?_); rintro e wV ⟨ka, KL, kc, rfl, hbV, FA⟩; clear d0 d1 d2 d3 d4 d5 d6 d7 d8 d9 d10 f0 f1 f2 f3 f4 f5 f6 f7 f8 f9 f10; obtain ⟨d0, d1, d2, d3, d4, d5, d6, d7, d8, d9, d10⟩ := At11.keep (unhide HAT) (hbV.block g' (unhide HGL)); obtain ⟨f0, f1, f2, f3, f4, f5, f6, f7, f8, f9, f10⟩ := Thaw11.keep (unhide HTH) (hbV.block g' (unhide HGL)); clear hbV))
      all_goals go_wp2
      all_goals go_roundw
      all_goals first
        | (case rel =>
            obtain ⟨g1, g2, g3⟩ := unhide FA
            have r2 := (unhide HR1).trans g3
            exact ⟨k + 1, by omega, by go_num, hide g1, hide ((r2 _ (unhide FR)).2.trans (unhide HR)), hide (r2 _ (unhide FR)).1, hide (((unhide HB).trans (unhide HB1)).trans g2)⟩)
        | skip
      all_goals (simp [intOf]; omega)
    · obtain rfl : k = NL := by omega
      have q1 : wr.cell? ⟨p, 1, none⟩ = some (.slice ta TL tcap) := hc1.blk.at rfl
      have HC1 := hide hc1
      clear hc1 HC
      go_wp2_with fail
      go_loopw [61] (fun i ws => ∃ j : Nat, j ≤ TL ∧ i = .int .i64 (j : Int) ∧ Hid (∃ tc, CW A B ws p W (.slice na k ncap) (.slice ta TL tcap) nc1 tc) ∧ Hid (BK ws w.heap.size 27 #[.slice none 0 0, .slice none 0 0]) ∧ Hid (Fp A ws p (.slice na k ncap) (.slice ta TL tcap) w.heap.size) ∧ Hid (Below B w ws)) (fun i _ => TL - (intOf i).toNat)
      case atStart => exact ⟨0, Nat.zero_le _, rfl, hide ⟨_, unhide HC1⟩, HR, FR, HB⟩
      case round =>
        obtain ⟨j, hj, rfl, HD, HS, FS, HE⟩ := hrel
        clear q1
        obtain ⟨tc1, hd1⟩ := unhide HD
        have q1 : wr.cell? ⟨p, 1, none⟩ = some (.slice ta TL tcap) := hd1.blk.at rfl
        by_cases hlt2 : j < TL
        · have hj1 : (j : Int) < (TL : Int) := by omega
          have hj1000 : TL ≤ 1000 := by have := unhide hTL; have := unhide HTT; omega
          obtain ⟨m, hx⟩ : ∃ m, W.net[j]? = some m := ⟨_, List.getElem?_eq_getElem (by have := unhide hTL; omega)⟩
          have fm := unhide HMs m (List.mem_of_getElem? hx)
          obtain ⟨g, off, cap', ia, IL, ic, e, hv, hat, hth⟩ := CW.msg hd1 hx
          obtain rfl : ta = some ⟨g, off, none⟩ := by cases e; rfl
          clear e
          obtain ⟨d0, d1, d2, d3, d4, d5, d6, d7, d8⟩ := hat
          have f7 := hth 7 (by omega)
          have HD7 := hide d7
          have HF7 := hide f7
          have HGL : Hid (g < wr.heap.size) := hide (hd1.net.lt g rfl).2
          have HLO := hide hd1.lo
          obtain ⟨iv, hve, s2⟩ := hv
          simp only [Array.mk.injEq, List.cons.injEq, and_true, true_and] at hve
          subst hve
          have CA := hide (remsg B p j W m g off TL tcap (.slice na k ncap) nc1 tc1 wr hd1 hx (.slice ia IL ic) (fun wx hb => copiedT_any _ _ _ wx (SC.keep (fun b hp => ⟨Nat.lt_of_lt_of_le hp.1 hb.size, hb.block b hp.1⟩) s2) (its_one _) fm))
          clear hd1 hx fm s2 HD d0 d1 d2 d3 d4 d5 d6 d8 hth
          go_wp2_with fail
          go_region_with (go_at_call 25; (with_reducible refine (unhide CA).mono ?_); rintro e wL ⟨ja, JL, jc, rfl, hbL, FA⟩; have q1' : wL.cell? ⟨p, 1, none⟩ = some (.slice (some ⟨g, off, none⟩) TL tcap) := (World.cell?_of_block (a := ⟨p, 1, none⟩) (hbL.block p (unhide HLO))).trans q1; have d7' : wL.cell? ⟨g, off + j * 9 + 7, none⟩ = some (.slice ia IL ic) := (World.cell?_of_block (a := ⟨g, off + j * 9 + 7, none⟩) (hbL.block g (unhide HGL))).trans (unhide HD7); have f7' : wL.frozen? ⟨g, off + j * 9 + 7, none⟩ = false := (frozen_of_block (a := ⟨g, off + j * 9 + 7, none⟩) (hbL.block g (unhide HGL))).trans (unhide HF7); clear hbL)
          all_goals go_wp2
          all_goals go_roundw
          all_goals first
            | (case rel =>
                obtain ⟨g1, g2, g3⟩ := unhide FA
                exact ⟨j + 1, by omega, by go_num, hide g1, hide ((g3 _ (unhide FS)).2.trans (unhide HS)), hide (g3 _ (unhide FS)).1, hide ((unhide HE).trans g2)⟩)
            | skip
          all_goals (simp [intOf]; omega)
        · obtain rfl : j = TL := by omega
          have q0 : wr.cell? ⟨p, 0, none⟩ = some (.slice na k ncap) := hd1.blk.at rfl
          have y0 := (unhide HS).at (j := 0) rfl
          have y1 := (unhide HS).at (j := 1) rfl
          have x0 := (unhide HS).thaw 0
          have x1 := (unhide HS).thaw 1
          have TE := hide (told_end hd1 (unhide HS) (unhide FS) (.slice na k ncap) (.slice ta j tcap))
          have BE : Hid (Below B w ((wr.setCell ⟨w.heap.size, 0, none⟩ (.slice na k ncap)).setCell ⟨w.heap.size, 1, none⟩ (.slice ta j tcap))) := hide (((unhide HE).setCell (unhide HSB) _).setCell (unhide HSB) _)
          clear hd1 HD
          go_wp2
          refine bodyPost_ret (v := .agg #[.slice na k ncap, .slice ta j tcap]) (by simp [results, Try.results13, go_sem, y0, y1]) rfl ?_
          exact ⟨_, rfl, unhide TE, unhide BE⟩

end Go.Proofs.Ytneepoaimbnneaa.CL

namespace Go.Proofs.Ytneepoaimbnneaa.CL
open Go.RowKit
variable {A : Nat → Prop}

theorem step_append_own_c {P : Program} {ops : Array Oper} {o : Oper} {a : Act} {w : World} {K : Act → World → Prop} {Q : Exit → Act → World → Prop} {E : Prop}
    (hg : o.guard = none) (s x : Operand) (t : TypeId) (ho : o.op = Op.call { callee := Callee.builtin Builtin.append, args := #[s, x], argTypes := #[t, t] })
    (base : Nat) (e : TypeId) (i : TypeInfo) (z : Value) (size bytes : Nat) (ht : P.underlying t = some (.slice e)) (hi : P.info? e = some i) (hz : i.zero = some z)
    (hsize : i.size = size) (hby : i.bytes = bytes) (hzs : z.cells.size = size) (hsz : 0 < size)
    (v : Value) (n : Nat) (xs : List Value) (hs : a.eval s = v) (hown : w.ownsRow base e size v n xs)
    (ad : Addr) (m c : Nat) (news : List Value) (hx : a.eval x = .slice (some ad) m c) (hl : news.length = m * size) (hnews : ∀ j u, news[j]? = some u → w.cell? (ad.add j) = some u) (h1 : ∀ u ∈ news, u.oneCell' = true)
    (h63 : n + m ≤ maxLen) (hbytes : (n + m) * bytes ≤ 140737488355328) (hbase : base ≤ w.heap.size)
    (hK : ∀ v' w', w'.ownsRow base e size v' (n + m) (xs ++ news) → w.grownBy w' v.ownBlock → (v'.ownBlock = v.ownBlock ∨ v'.ownBlock = some w.heap.size) → K (a.put o.dst v') w') :
    if Region.wanted o (yielded ops a.tmps) = true then Oper.wp P o a w K Q else E := by
  have hw : Region.wanted o (yielded ops a.tmps) = true := by simp [Region.wanted, hg]
  rw [if_pos hw]
  obtain ⟨v', w', hr, h2, h3, _, h5⟩ := run_append_own_at (P := P) w base t o.type e i z size bytes ht hi hz hsize hby hzs hsz v n xs hown ad m c news hl hnews h1 h63 hbytes hbase
  unfold Oper.wp execOp
  simp only [ho, resolve, invoke, builtin, Sem.run_bind, Sem.run_pure, Result.andThen_ok, List.map_toArray, List.map_cons, List.map_nil, hs, hx, hr]
  exact hK v' w' h2 h3 h5
theorem block_cells (W : World) (t : TypeId) (vs : Array Value) : ∀ j u, vs.toList[j]? = some u → (W.alloc (.cells vs t)).cell? ((⟨W.heap.size, 0, none⟩ : Addr).add j) = some u := by
  intro j u h
  rw [Addr.add_lit, Nat.zero_add]
  exact (BK.new W t vs).at (by simpa using h)
/-- a node at first holds nothing -/
theorem sc_none {P Q : Nat → Prop} {w w' : World} {v : Value} {k : Nat} {cs : List Value} (h : SC P w v k 0 cs) : SC Q w' v k 0 cs := by
  obtain ⟨h1, a, cap, h2, h3, h4, _⟩ := h
  exact ⟨h1, a, cap, h2, h3, h4, fun hn => absurd rfl hn⟩
theorem nv_first {P Q : Nat → Prop} {w w' : World} {v : Array Value} {i n : Int} (h : NV P w v (Rf.start i n)) : NV Q w' v (Rf.start i n) := by
  obtain ⟨lv, vv, nv, mv, e, s2, s3, s4, s5⟩ := h
  exact ⟨lv, vv, nv, mv, e, sc_none s2, sc_none s3, sc_none s4, sc_none s5⟩
/-- nodes at first -/
def firsts (n : Int) (k : Nat) : List Rf.Node := (List.range k).map (fun i : Nat => Rf.start ((i : Int) + 1) n)
theorem firsts_next (n : Int) (k : Nat) : firsts n (k + 1) = firsts n k ++ [Rf.start ((k : Int) + 1) n] := by
  unfold firsts
  rw [List.range_succ, List.map_append]
  rfl
theorem firsts_len (n : Int) (k : Nat) : (firsts n k).length = k := by simp [firsts]
theorem NC.app {P : Nat → Prop} {w : World} {b : List Rf.Node} {ds : List Value} (k : NC P w b ds) : ∀ {a : List Rf.Node} {cs : List Value}, NC P w a cs → NC P w (a ++ b) (cs ++ ds)
  | [], _, h => by rw [NC] at h; subst h; exact k
  | _ :: _, _, ⟨v, rest, h1, h2, h3⟩ => ⟨v, rest ++ ds, by rw [h1, List.append_assoc], h2, NC.app k h3⟩
theorem nc_firsts {w w' : World} {n : Int} {k : Nat} {cs : List Value} (h : NC (fun _ => False) w (firsts n k) cs) : NC (fun _ => False) w' (firsts n k) cs := h.keep fun _ hb => hb.elim
theorem nc_any {Q : Nat → Prop} {w w' : World} {xs : List Rf.Node} {cs : List Value} (h : NC (fun _ => False) w xs cs) : NC Q w' xs cs := h.keep fun _ hb => hb.elim
theorem nc_next {P : Nat → Prop} {w w2 w' : World} {n : Int} {k : Nat} {cs : List Value} {v : Array Value} (h : NC (fun _ => False) w (firsts n k) cs) (hv : NV P w2 v (Rf.start ((k : Int) + 1) n)) : NC (fun _ => False) w' (firsts n (k + 1)) (cs ++ v.toList) := by
  have h1 : NC (fun _ => False) w' [Rf.start ((k : Int) + 1) n] v.toList := ⟨v, [], by simp, nv_first hv, rfl⟩
  rw [firsts_next]
  exact NC.app h1 (nc_any h)
theorem node_one {P : Nat → Prop} {w : World} {v : Array Value} {x : Rf.Node} (h : NV P w v x) : ∀ u ∈ v.toList, u.oneCell' = true := by
  have : NC P w [x] (v.toList ++ []) := ⟨v, [], rfl, h, rfl⟩
  rw [List.append_nil] at this
  exact this.one

set_option maxHeartbeats 4000000 in
set_option maxRecDepth 100000 in
theorem start_bad (n : Int) (w : World) (h : ¬ (1 ≤ n ∧ n ≤ 5)) : Calls Try.prog 10 #[.int .i64 n] w fun e w' => e = .returned (.tuple #[.agg #[.slice none 0 0, .slice none 0 0], .int .i64 3]) ∧ Below w.heap.size w w' := by
  obtain ⟨w0, hw0⟩ : ∃ w0, w0 = w.alloc (.cells #[.slice none 0 0, .slice none 0 0] 27) := ⟨_, rfl⟩
  have HB : Hid (Below w.heap.size w w0) := hide (by rw [hw0]; exact below_new _ _)
  have R0 : BK w0 w.heap.size 27 #[.slice none 0 0, .slice none 0 0] := by rw [hw0]; exact BK.new _ _ _
  have z0 := R0.at (j := 0) rfl
  have z1 := R0.at (j := 1) rfl
  have f0 := R0.thaw 0
  have f1 := R0.thaw 1
  have BE : Hid (Below w.heap.size w ((w0.setCell ⟨w.heap.size, 0, none⟩ (.slice none 0 0)).setCell ⟨w.heap.size, 1, none⟩ (.slice none 0 0))) := hide (((unhide HB).setCell (Nat.le_refl _) _).setCell (Nat.le_refl _) _)
  by_cases h1 : n < 1
  · go_enter Try.func10, Try.ntmps10
    go_upto_region 1 with fail
    rw [← hw0]
    clear hw0
    go_wp2
    refine bodyPost_ret (v := .tuple #[.agg #[.slice none 0 0, .slice none 0 0], .int .i64 3]) (by simp [results, Try.results10, go_sem, z0, z1]) rfl ?_
    exact ⟨rfl, unhide BE⟩
  · have h5 : 5 < n := by omega
    clear h
    go_enter Try.func10, Try.ntmps10
    go_upto_region 1 with fail
    rw [← hw0]
    clear hw0
    go_wp2
    refine bodyPost_ret (v := .tuple #[.agg #[.slice none 0 0, .slice none 0 0], .int .i64 3]) (by simp [results, Try.results10, go_sem, z0, z1]) rfl ?_
    exact ⟨rfl, unhide BE⟩

set_option maxHeartbeats 4000000 in
set_option maxRecDepth 100000 in
theorem start_good {Fit : Rf.Node → Prop} {FitM : Rf.Msg → Prop} (R : RC Fit FitM) (N : Nat) (w : World) (hA : ∀ b, w.heap.size ≤ b → A b) (h1 : 1 ≤ N) (h5 : N ≤ 5) : Calls Try.prog 10 #[.int .i64 (N : Int)] w fun e w' => ∃ v, e = .returned (.tuple #[.agg v, .int .i64 0]) ∧ Wv A w' v (Rf.startW N) ∧ Below w.heap.size w w' := by
  obtain ⟨w0, hw0⟩ : ∃ w0, w0 = (w.alloc (.cells #[.slice none 0 0, .slice none 0 0] 27)).alloc (.cells #[.slice none 0 0, .slice none 0 0] 27) := ⟨_, rfl⟩
  have HB : Hid (Below w.heap.size w w0) := hide (by rw [hw0]; exact (below_new _ _).alloc (by simp) _)
  have R0 : Hid (BK w0 w.heap.size 27 #[.slice none 0 0, .slice none 0 0]) := hide (by rw [hw0]; exact (BK.new _ _ _).keep (below_new _ _))
  have Q0 : Hid (BK w0 (w.heap.size + 1) 27 #[.slice none 0 0, .slice none 0 0]) := hide (by
    have := BK.new (w.alloc (.cells #[.slice none 0 0, .slice none 0 0] 27)) 27 #[.slice none 0 0, .slice none 0 0]
    rw [show (w.alloc (.cells #[.slice none 0 0, .slice none 0 0] 27)).heap.size = w.heap.size + 1 by simp] at this
    rw [hw0]
    exact this)
  have HA := hide hA
  clear hA
  have g1 : ¬ (N : Int) < 1 := by omega
  have g5 : ¬ (5 : Int) < (N : Int) := by omega
  have HS : Hid (w.heap.size + 2 = w0.heap.size) := hide (by rw [hw0]; simp)
  go_enter Try.func10, Try.ntmps10
  go_upto_region 4 with fail
  rw [← hw0]
  clear hw0
  go_wp2_with fail
  go_loopw [5] (fun i wr => ∃ k : Nat, k ≤ N ∧ i = .int .i64 ((k : Int) + 1) ∧ ∃ sv cs, Hid (BK wr (w.heap.size + 1) 27 #[sv, .slice none 0 0]) ∧ Hid (wr.ownsRow w0.heap.size 34 11 sv k cs) ∧ Hid (NC (fun _ => False) wr (firsts N k) cs) ∧ Hid (BK wr w.heap.size 27 #[.slice none 0 0, .slice none 0 0]) ∧ Hid (Below w.heap.size w wr)) (fun i _ => N + 1 - (intOf i).toNat)
  case atStart => exact ⟨0, Nat.zero_le _, rfl, .slice none 0 0, [], Q0, hide (World.ownsRow_nil _ _ _ _), hide rfl, R0, HB⟩
  case round =>
    obtain ⟨k, hk, rfl, sv, cs, HQ, HO, HC, HR, HW⟩ := hrel
    obtain ⟨sa, SL, sc, rfl, hSL, _, _⟩ := SC.shp (SC.own (unhide HO))
    have q0 : wr.cell? ⟨w.heap.size + 1, 0, none⟩ = some (.slice sa SL sc) := (unhide HQ).at rfl
    have q1 : wr.cell? ⟨w.heap.size + 1, 1, none⟩ = some (.slice none 0 0) := (unhide HQ).at rfl
    by_cases hlt : k < N
    · have hi1 : (k : Int) + 1 ≤ (N : Int) := by omega
      have CS := hide (fun wx => R.start ((k : Int) + 1) (N : Int) wx)
      obtain ⟨i0, hi, hz0, hz1, hz2⟩ := info_parts info_Nd
      have HI := hide (And.intro hi (And.intro hz0 (And.intro hz1 hz2)))
      clear hi hz0 hz1 hz2
      have HK5 : Hid (k + 1 ≤ 5) := hide (by omega)
      have hw1 : IntKind.i64.wrap ((k : Int) + 1 + 1) = ((k + 1 : Nat) : Int) + 1 := by rw [show (k : Int) + 1 + 1 = ((k + 1 : Nat) : Int) + 1 by omega]; exact wrap_i64 (by omega) (by omega)
      go_wp2_with fail
      go_region_law (first
        | (go_simp
           (with_reducible refine (unhide CS _).mono ?_)
           rintro e w2 ⟨v', rfl, hN2, hb2x⟩
           have hb2 : Below wr.heap.size wr w2 := (Below.refl _ wr).drew.trans hb2x
           obtain ⟨a1, n1, c1, a2, n2, c2, a3, n3, c3, a4, n4, c4, rfl⟩ := hN2.cellsC
           have X2 := (unhide HQ).keep hb2
           have O2 := own_below (unhide HO) hb2
           have l2 := X2.low
           have k0 := X2.at (j := 0) rfl
           have k1 := X2.at (j := 1) rfl)
        | (refine step_append_own_c rfl _ _ 24 rfl w0.heap.size 34 i0 (.agg #[.int .i64 0, .int .i64 0, .int .i64 0, .int .i64 0, .slice none 0 0, .int .i64 0, .int .i64 0, .int .i64 0, .slice none 0 0, .slice none 0 0, .slice none 0 0]) 11 152 Try.underlying24 (unhide HI).1 (unhide HI).2.1 (unhide HI).2.2.1 (unhide HI).2.2.2 rfl (by decide) _ _ cs rfl (O2.alloc _) ⟨w2.heap.size, 0, none⟩ 1 1 _ rfl rfl (block_cells _ _ _) (node_one hN2) ?p1 ?p2 ?p3 ?_
           case p1 => unfold maxLen; have := unhide HK5; omega
           case p2 => have := unhide HK5; omega
           case p3 => simp; have := unhide HS; omega
           intro v3' w3 hown hgrow hat
           obtain ⟨sa3, SL3, sc3, rfl, hSL3, _, _⟩ := SC.shp (SC.own hown)
           have X3 : BK w3 (w.heap.size + 1) 27 #[.slice sa SL sc, .slice none 0 0] := (hgrow.block _ (by simp; omega) (fun e => by have := (World.ownsRow.lt (unhide HO) _ e.symm).1; have := unhide HS; omega)).trans (X2.keep (below_new _ _))
           have j0 := X3.at (j := 0) rfl
           have j1 := X3.at (j := 1) rfl
           have o0 := X3.thaw 0
           have o1 := X3.thaw 1
           have l3 := X3.low))
      all_goals
        have hsz := unhide HS
        have bn := below_new w2 (.cells #[.int .i64 (Rf.start ((k : Int) + 1) (N : Int)).id, .int .i64 (Rf.start ((k : Int) + 1) (N : Int)).n, .int .i64 (Rf.start ((k : Int) + 1) (N : Int)).term, .int .i64 (Rf.start ((k : Int) + 1) (N : Int)).vote, .slice a1 n1 c1, .int .i64 (Rf.start ((k : Int) + 1) (N : Int)).commit, .int .i64 (Rf.start ((k : Int) + 1) (N : Int)).role, .int .i64 (Rf.start ((k : Int) + 1) (N : Int)).boss, .slice a2 n2 c2, .slice a3 n3 c3, .slice a4 n4 c4] 34)
        have hol := World.ownsRow.lt (unhide HO)
        have Y0 : Hid (BK (w3.setCell ⟨w.heap.size + 1, 0, none⟩ (.slice sa3 SL3 sc3)) (w.heap.size + 1) 27 #[.slice sa3 SL3 sc3, .slice none 0 0]) := hide (X3.set 0 _)
        have Y1 : Hid ((w3.setCell ⟨w.heap.size + 1, 0, none⟩ (.slice sa3 SL3 sc3)).ownsRow w0.heap.size 34 11 (.slice sa3 SL3 sc3) (k + 1) _) := hide (ownsRow_setCell_below hown (a := ⟨w.heap.size + 1, 0, none⟩) (by show w.heap.size + 1 < w0.heap.size; omega) _)
        have Y2 : Hid (NC (fun _ => False) (w3.setCell ⟨w.heap.size + 1, 0, none⟩ (.slice sa3 SL3 sc3)) (firsts N (k + 1)) _) := hide (nc_next (unhide HC) hN2)
        have l1 : w.heap.size < w2.heap.size := by omega
        have Y3 : Hid (BK (w3.setCell ⟨w.heap.size + 1, 0, none⟩ (.slice sa3 SL3 sc3)) w.heap.size 27 #[.slice none 0 0, .slice none 0 0]) := hide ((Below.heap_setCell w3 ⟨w.heap.size + 1, 0, none⟩ _ w.heap.size (by simp)).trans ((hgrow.block w.heap.size (Nat.lt_of_lt_of_le l1 bn.size) (fun e => by have := (hol _ e.symm).1; omega)).trans ((bn.block _ l1).trans ((unhide HR).keep hb2))))
        have Y4 : Hid (Below w.heap.size w (w3.setCell ⟨w.heap.size + 1, 0, none⟩ (.slice sa3 SL3 sc3))) := hide ((((below_via (unhide HW) hb2).trans (bn.mono (by omega))).grown hgrow (by have := bn.size; omega) (fun b hb => by have := (hol b hb).1; omega)).setCell (by show w.heap.size ≤ w.heap.size + 1; omega) _)
        clear X3 j0 j1 o0 o1 X2 k0 k1 O2 hown hgrow hat hN2 hb2 hb2x bn hol q0 q1 CS
        go_wp2
        go_roundw
        case rel => exact ⟨k + 1, by omega, by go_num, _, _, Y0, Y1, Y2, Y3, Y4⟩
        case measure => simp [intOf]; omega
    · obtain rfl : k = N := by omega
      have hng : ¬ (k : Int) + 1 ≤ (k : Int) := by omega
      have z0 := (unhide HR).at (j := 0) rfl
      have z1 := (unhide HR).at (j := 1) rfl
      have f0 := (unhide HR).thaw 0
      have f1 := (unhide HR).thaw 1
      have hz : ((wr.setCell ⟨w.heap.size, 0, none⟩ (.slice sa SL sc)).setCell ⟨w.heap.size, 1, none⟩ (.slice none 0 0)).heap.size = wr.heap.size := by simp [World.setCell]
      have hs : ∀ b, b ≠ w.heap.size → ((wr.setCell ⟨w.heap.size, 0, none⟩ (.slice sa SL sc)).setCell ⟨w.heap.size, 1, none⟩ (.slice none 0 0)).heap[b]? = wr.heap[b]? := fun b hn => (Below.heap_setCell _ ⟨w.heap.size, 1, none⟩ _ b hn).trans (Below.heap_setCell _ ⟨w.heap.size, 0, none⟩ _ b hn)
      have TE : Hid (Wv A ((wr.setCell ⟨w.heap.size, 0, none⟩ (.slice sa SL sc)).setCell ⟨w.heap.size, 1, none⟩ (.slice none 0 0)) #[.slice sa SL sc, .slice none 0 0] (Rf.startW k)) := hide (by
        refine ⟨_, _, rfl, ⟨cs, ?_, ?_⟩, MV.nil _ _⟩
        · have e : (Rf.startW (k : Int)).nodes.length = k := by simp [Rf.startW]
          rw [e]
          exact SC.keep (fun b hb => ⟨⟨by rw [hz]; exact hb.2, unhide HA b (by have := hb.1; have := unhide HS; omega)⟩, hs b (by have := hb.1; have := unhide HS; omega)⟩) (SC.own' (unhide HO))
        · have e : (Rf.startW (k : Int)).nodes = firsts k k := by simp [Rf.startW, firsts]
          rw [e]
          exact nc_any (unhide HC))
      have BE : Hid (Below w.heap.size w ((wr.setCell ⟨w.heap.size, 0, none⟩ (.slice sa SL sc)).setCell ⟨w.heap.size, 1, none⟩ (.slice none 0 0))) := hide (((unhide HW).setCell (Nat.le_refl _) _).setCell (Nat.le_refl _) _)
      clear hz hs
      go_wp2
      refine bodyPost_ret (v := .tuple #[.agg #[.slice sa SL sc, .slice none 0 0], .int .i64 0]) (by simp [results, Try.results10, go_sem, z0, z1]) rfl ?_
      exact ⟨_, rfl, unhide TE, unhide BE⟩

end Go.Proofs.Ytneepoaimbnneaa.CL
