/- Events that came in. -/
import Derived.Test.YtneepoaimbnneaaRfPG
import Derived.Test.YtneepoaimbnneaaCLG
import Derived.Test.YtneepoaimbnneaaCOG
import Derived.Test.YtneepoaimbnneaaNWG
import Derived.ProofKit
import Derived.OpenShut
import Derived.ChangeOld
import Derived.Lib.SmallJoins
import Derived.Carry
namespace Go.Proofs.Ytneepoaimbnneaa.CL
open Go.RowKit
variable {A : Nat → Prop}

/-- a block of two slices -/
def SB (w : World) (r : Nat) : Prop := ∃ t a n c a' n' c', BK w r t #[.slice a n c, .slice a' n' c']
theorem SB.low {w : World} {r : Nat} (h : SB w r) : r < w.heap.size := by
  obtain ⟨_, _, _, _, _, _, _, h⟩ := h
  exact h.low
theorem not_int {w : World} {r off : Nat} {z : Int} (hr : SB w r) (h : w.cell? ⟨r, off, none⟩ = some (.int .i64 z)) : False := by
  obtain ⟨t, a, n, c, a', n', c', hr⟩ := hr
  unfold BK at hr
  simp only [World.cell?, hr] at h
  match off, h with
  | 0, h => simp at h
  | 1, h => simp at h
  | k + 2, h => simp at h
theorem sc_away {P Q : Nat → Prop} {w w' : World} {r k n : Nat} {v : Value} {cs : List Value} (hr : SB w r) (hk : ∀ b, P b → b ≠ r → Q b ∧ w'.heap[b]? = w.heap[b]?) (h0 : n ≠ 0 → ∃ z, cs[0]? = some (.int .i64 z)) (h : SC P w v k n cs) : SC Q w' v k n cs := by
  obtain ⟨h1, a, cap, h2, h3, h4, h5⟩ := h
  refine ⟨h1, a, cap, h2, h3, h4, fun hn => ?_⟩
  obtain ⟨b, off, e1, e2, e3⟩ := h5 hn
  have hne : b ≠ r := by
    rintro rfl
    obtain ⟨z, hz⟩ := h0 hn
    exact not_int hr (e3 0 _ hz)
  exact ⟨b, off, e1, (hk b e2 hne).1, fun j u hj => (World.cell?_of_block (w := w) (a := ⟨b, off + j, none⟩) (hk b e2 hne).2).trans (e3 j u hj)⟩
theorem tv_away {P Q : Nat → Prop} {w w' : World} {r : Nat} {v : Value} {l : List Rf.Item} (hr : SB w r) (hk : ∀ b, P b → b ≠ r → Q b ∧ w'.heap[b]? = w.heap[b]?) (h : TV P w v l) : TV Q w' v l :=
  sc_away hr hk (fun hn => by
    match l, hn with
    | x :: l, _ => exact ⟨x.1, rfl⟩) h
theorem iv_away {P Q : Nat → Prop} {w w' : World} {r : Nat} {v : Value} {l : List Int} (hr : SB w r) (hk : ∀ b, P b → b ≠ r → Q b ∧ w'.heap[b]? = w.heap[b]?) (h : IV P w v l) : IV Q w' v l :=
  sc_away hr hk (fun hn => by
    match l, hn with
    | x :: l, _ => exact ⟨x, rfl⟩) h
theorem nc_away {P Q : Nat → Prop} {w w' : World} {r : Nat} (hr : SB w r) (hk : ∀ b, P b → b ≠ r → Q b ∧ w'.heap[b]? = w.heap[b]?) : ∀ {xs : List Rf.Node} {cs : List Value}, NC P w xs cs → NC Q w' xs cs
  | [], _, h => h
  | _ :: _, _, ⟨v, rest, h1, ⟨lv, vv, nv, mv, e, s2, s3, s4, s5⟩, h3⟩ => ⟨v, rest, h1, ⟨lv, vv, nv, mv, e, tv_away hr hk s2, iv_away hr hk s3, iv_away hr hk s4, iv_away hr hk s5⟩, nc_away hr hk h3⟩
theorem mc_away {P Q : Nat → Prop} {w w' : World} {r : Nat} (hr : SB w r) (hk : ∀ b, P b → b ≠ r → Q b ∧ w'.heap[b]? = w.heap[b]?) : ∀ {xs : List Rf.Msg} {cs : List Value}, MC P w xs cs → MC Q w' xs cs
  | [], _, h => h
  | _ :: _, _, ⟨iv, rest, h1, s2, h3⟩ => ⟨iv, rest, h1, tv_away hr hk s2, mc_away hr hk h3⟩
theorem wv_away {w w' : World} {r : Nat} {v : Array Value} {W : Rf.Wd} (hr : SB w r) (hk : ∀ b, (b < w.heap.size ∧ A b) → b ≠ r → (b < w'.heap.size ∧ A b) ∧ w'.heap[b]? = w.heap[b]?) (h : Wv A w v W) : Wv A w' v W := by
  obtain ⟨nv, tv, e, ⟨nc, n1, n2⟩, ⟨tc, t1, t2⟩⟩ := h
  refine ⟨nv, tv, e, ⟨nc, sc_away hr hk (fun hn => ?_) n1, nc_away hr hk n2⟩, ⟨tc, sc_away hr hk (fun hn => ?_) t1, mc_away hr hk t2⟩⟩
  · match hW : W.nodes, hn with
    | x :: l, _ =>
      rw [hW] at n2
      obtain ⟨u, rest, rfl, ⟨lv, vv, nv, mv, rfl, _⟩, _⟩ := n2
      exact ⟨x.id, rfl⟩
  · match hW : W.net, hn with
    | m :: l, _ =>
      rw [hW] at t2
      obtain ⟨iv, rest, rfl, _⟩ := t2
      exact ⟨m.kind, rfl⟩
theorem wv_put {w : World} {r : Nat} {v : Array Value} {W : Rf.Wd} (hr : SB w r) (h : Wv A w v W) (u0 u1 : Value) : Wv A ((w.setCell ⟨r, 0, none⟩ u0).setCell ⟨r, 1, none⟩ u1) v W := by
  have hz : ((w.setCell ⟨r, 0, none⟩ u0).setCell ⟨r, 1, none⟩ u1).heap.size = w.heap.size := by simp [World.setCell]
  exact wv_away hr (fun b hb hn => ⟨⟨by rw [hz]; exact hb.1, hb.2⟩, (Below.heap_setCell _ ⟨r, 1, none⟩ u1 b hn).trans (Below.heap_setCell _ ⟨r, 0, none⟩ u0 b hn)⟩) h
/-- events -/
def evc (l : List Rf.Ev) : List Value := l.flatMap fun e => [.int .i64 e.kind, .int .i64 e.node, .int .i64 e.pick]
theorem evc_len (l : List Rf.Ev) : (evc l).length = l.length * 3 := by
  induction l with
  | nil => rfl
  | cons x l ih => simp only [evc, List.flatMap_cons, List.length_append, List.length_cons, List.length_nil] at ih ⊢; omega
theorem evc_at : ∀ {l : List Rf.Ev} {i : Nat} {x : Rf.Ev}, l[i]? = some x → (evc l)[i * 3]? = some (.int .i64 x.kind) ∧ (evc l)[i * 3 + 1]? = some (.int .i64 x.node) ∧ (evc l)[i * 3 + 2]? = some (.int .i64 x.pick)
  | [], i, x, h => by simp at h
  | y :: l, 0, x, h => by
    simp at h
    subst h
    simp [evc]
  | y :: l, i + 1, x, h => by
    have := evc_at (l := l) (i := i) (x := x) (by simpa using h)
    have e : evc (y :: l) = [.int .i64 y.kind, .int .i64 y.node, .int .i64 y.pick] ++ evc l := by simp [evc]
    rw [e, List.getElem?_append_right (by simp; omega), List.getElem?_append_right (by simp; omega), List.getElem?_append_right (by simp; omega)]
    rw [show (i + 1) * 3 - [Value.int .i64 y.kind, .int .i64 y.node, .int .i64 y.pick].length = i * 3 by simp; omega, show (i + 1) * 3 + 1 - [Value.int .i64 y.kind, .int .i64 y.node, .int .i64 y.pick].length = i * 3 + 1 by simp; omega, show (i + 1) * 3 + 2 - [Value.int .i64 y.kind, .int .i64 y.node, .int .i64 y.pick].length = i * 3 + 2 by simp; omega]
    exact this
def EV (P : Nat → Prop) (w : World) (v : Value) (l : List Rf.Ev) : Prop := SC P w v 3 l.length (evc l)
theorem EV.keep {P Q : Nat → Prop} {w w' : World} {v : Value} {l : List Rf.Ev} (hb : ∀ b, P b → Q b ∧ w'.heap[b]? = w.heap[b]?) (h : EV P w v l) : EV Q w' v l := SC.keep hb h
abbrev Ev' (w : World) (v : Value) (l : List Rf.Ev) : Prop := EV (· < w.heap.size) w v l
theorem EV.at {P : Nat → Prop} {w : World} {a : Option Addr} {cap n : Nat} {l : List Rf.Ev} (h : EV P w (.slice a n cap) l) {i : Nat} {x : Rf.Ev} (hx : l[i]? = some x) : ∃ b off, a = some ⟨b, off, none⟩ ∧ P b ∧ w.cell? ⟨b, off + i * 3, none⟩ = some (.int .i64 x.kind) ∧ w.cell? ⟨b, off + i * 3 + 1, none⟩ = some (.int .i64 x.node) ∧ w.cell? ⟨b, off + i * 3 + 2, none⟩ = some (.int .i64 x.pick) := by
  obtain ⟨_, a', cap', e, _, _, h5⟩ := h
  have hl : l.length ≠ 0 := by intro e; rw [List.length_eq_zero_iff.1 e] at hx; simp at hx
  obtain ⟨b', off', e1, e2, e3⟩ := h5 hl
  cases e
  obtain ⟨k1, k2, k3⟩ := evc_at hx
  exact ⟨b', off', e1, e2, e3 _ _ k1, by have := e3 _ _ k2; rwa [← Nat.add_assoc] at this, by have := e3 _ _ k3; rwa [← Nat.add_assoc] at this⟩
/-- what is small enough -/
structure FitW (W : Rf.Wd) : Prop where
  nl : W.nodes.length ≤ 5
  tl : W.net.length ≤ 60
  nf : ∀ x ∈ W.nodes, RW.FitN x
  tf : ∀ m ∈ W.net, m.items.length ≤ 60
theorem FitW.of {N : Int} {g : Rf.Gh} {W : Rf.Wd} (h : Rf.Come N g W) (h5 : N ≤ 5) : FitW W :=
  ⟨by have := h.1.len; omega, h.1.net, fun x hx => right_fits x ((Rf.wrongN_ok x).2 (Rf.inv_right h.1 x hx)), h.2⟩
theorem FitW.ms {W : Rf.Wd} (h : FitW W) : ∀ m ∈ W.net, FitG m := fun m hm => by have := h.tf m hm; unfold FitG; omega
theorem FitW.it {W : Rf.Wd} (h : FitW W) : ∀ m ∈ W.net, m.items.length * 16 ≤ 140737488355328 := fun m hm => by have := h.tf m hm; omega

end Go.Proofs.Ytneepoaimbnneaa.CL

namespace Go.Proofs.Ytneepoaimbnneaa.CL
open Go.RowKit
variable {A : Nat → Prop}

set_option maxHeartbeats 4000000 in
set_option maxRecDepth 100000 in
theorem step_any (W : Rf.Wd) (v : Array Value) (kind node pick : Int) (w : World) (hA : ∀ b, w.heap.size ≤ b → A b) (hv : Wv A w v W) (hf : FitW W) (hf' : FitW (Rf.stepW W ⟨kind, node, pick⟩)) :
    Calls Try.prog 7 #[.agg v, .agg #[.int .i64 kind, .int .i64 node, .int .i64 pick]] w (PTo A w.heap.size w (Rf.stepW W ⟨kind, node, pick⟩)) := by
  have HV := hide hv
  obtain ⟨nv, tv, rfl, ⟨nc, n1, _⟩, ⟨tc, t1, _⟩⟩ := hv
  obtain ⟨na, NL, ncap, rfl, hNL, _, _⟩ := SC.shp n1
  obtain ⟨ta, TL, tcap, rfl, hTL, _, _⟩ := SC.shp t1
  clear n1 t1
  obtain ⟨w0, hw0⟩ : ∃ w0, w0 = ((w.alloc (.cells #[.slice na NL ncap, .slice ta TL tcap] 27)).alloc (.cells #[.int .i64 kind, .int .i64 node, .int .i64 pick] 38)).alloc (.cells #[.slice none 0 0, .slice none 0 0] 27) := ⟨_, rfl⟩
  have HB : Hid (Below w.heap.size w w0) := hide (by rw [hw0]; exact ((below_new _ _).alloc (by simp) _).alloc (by simp; omega) _)
  have A0 : BK w0 w.heap.size 27 #[.slice na NL ncap, .slice ta TL tcap] := by rw [hw0]; exact ((BK.new _ _ _).keep (below_new _ _)).keep (below_new _ _)
  have E0 : Hid (BK w0 (w.heap.size + 1) 38 #[.int .i64 kind, .int .i64 node, .int .i64 pick]) := hide (by
    have := (BK.new (w.alloc (.cells #[.slice na NL ncap, .slice ta TL tcap] 27)) 38 #[.int .i64 kind, .int .i64 node, .int .i64 pick]).keep (below_new _ (.cells #[.slice none 0 0, .slice none 0 0] 27))
    rw [show (w.alloc (.cells #[.slice na NL ncap, .slice ta TL tcap] 27)).heap.size = w.heap.size + 1 by simp] at this
    rw [hw0]
    exact this)
  have R0 : Hid (BK w0 (w.heap.size + 2) 27 #[.slice none 0 0, .slice none 0 0]) := hide (by
    have := BK.new ((w.alloc (.cells #[.slice na NL ncap, .slice ta TL tcap] 27)).alloc (.cells #[.int .i64 kind, .int .i64 node, .int .i64 pick] 38)) 27 #[.slice none 0 0, .slice none 0 0]
    rw [show ((w.alloc (.cells #[.slice na NL ncap, .slice ta TL tcap] 27)).alloc (.cells #[.int .i64 kind, .int .i64 node, .int .i64 pick] 38)).heap.size = w.heap.size + 2 by simp] at this
    rw [hw0]
    exact this)
  have a0 : w0.cell? ⟨w.heap.size, 0, none⟩ = some (.slice na NL ncap) := A0.at rfl
  have a1 : w0.cell? ⟨w.heap.size, 1, none⟩ = some (.slice ta TL tcap) := A0.at rfl
  have CB := hide (begin_any W _ w0 ((unhide HV).below (unhide HB)) (fun b hb => hA b (Nat.le_trans (unhide HB).size hb)) (by have := hf.nl; omega) (by have := hf.tl; omega))
  have HF := hide hf
  have HF' := hide hf'
  clear A0 hf hf' hA
  go_enter Try.func7, Try.ntmps7
  go_upto_region 1 with fail
  rw [← hw0]
  clear hw0
  go_wp2_with fail
  refine (unhide CB).mono ?_
  rintro e w1 ⟨p, nv1, tv1, nc1, tc1, rfl, h1, b1⟩
  have E1 := (unhide E0).keep b1
  have CH := hide (happen_any raft_rc kind node pick w0.heap.size p W nv1 tv1 nc1 tc1 w1 h1 (unhide HF).nf (unhide HF).ms (by have := (unhide HF).nl; omega) (unhide HF).tl)
  have R1 := hide ((unhide R0).keep b1)
  have B1 := hide b1
  have e0 : w1.cell? ⟨w.heap.size + 1, 0, none⟩ = some (.int .i64 kind) := E1.at rfl
  have e1 : w1.cell? ⟨w.heap.size + 1, 1, none⟩ = some (.int .i64 node) := E1.at rfl
  have e2 : w1.cell? ⟨w.heap.size + 1, 2, none⟩ = some (.int .i64 pick) := E1.at rfl
  have hrl : Hid (w.heap.size + 2 < w0.heap.size) := hide (unhide R0).low
  clear E0 R0 CB a0 a1 h1 b1 E1
  go_wp2_with fail
  refine (unhide CH).mono ?_
  rintro e w2 ⟨rfl, nv2, tv2, nc2, tc2, h2, b2, _⟩
  have CT := hide (told_any w0.heap.size p _ nv2 tv2 nc2 tc2 w2 h2 (unhide HF').nf (unhide HF').it (by have := (unhide HF').nl; omega) (by have := (unhide HF').tl; omega))
  have B2 := hide ((unhide B1).trans b2)
  have R2 : Hid (BK w2 (w.heap.size + 2) 27 #[.slice none 0 0, .slice none 0 0]) := hide ((b2.block _ (unhide hrl)).trans (unhide R1))
  clear e0 e1 e2 CH h2 b2 R1 B1
  go_wp2_with fail
  refine (unhide CT).mono ?_
  rintro e w3 ⟨v3, rfl, hv3, b3⟩
  have R3 : BK w3 (w.heap.size + 2) 27 #[.slice none 0 0, .slice none 0 0] := (b3.block _ (unhide hrl)).trans (unhide R2)
  have SB3 : SB w3 (w.heap.size + 2) := ⟨_, _, _, _, _, _, _, R3⟩
  obtain ⟨nv3, tv3, rfl, ⟨nc3, n3, _⟩, ⟨tc3, t3, _⟩⟩ := id hv3
  obtain ⟨na3, NL3, ncap3, rfl, _, _, _⟩ := SC.shp n3
  obtain ⟨ta3, TL3, tcap3, rfl, _, _, _⟩ := SC.shp t3
  have z0 := R3.at (j := 0) rfl
  have z1 := R3.at (j := 1) rfl
  have f0 := R3.thaw 0
  have f1 := R3.thaw 1
  have TE := hide (wv_put SB3 hv3 (.slice na3 NL3 ncap3) (.slice ta3 TL3 tcap3))
  have BE : Hid (Below w.heap.size w ((w3.setCell ⟨w.heap.size + 2, 0, none⟩ (.slice na3 NL3 ncap3)).setCell ⟨w.heap.size + 2, 1, none⟩ (.slice ta3 TL3 tcap3))) := hide ((((unhide HB).trans ((unhide B2).mono (unhide HB).size)).trans (b3.mono (unhide HB).size)).setCell (by show w.heap.size ≤ w.heap.size + 2; omega) _ |>.setCell (by show w.heap.size ≤ w.heap.size + 2; omega) _)
  clear n3 t3 hv3 b3 CT R2 B2 R3 SB3
  go_wp2
  refine bodyPost_ret (v := .agg #[.slice na3 NL3 ncap3, .slice ta3 TL3 tcap3]) (by simp [results, Try.results7, go_sem, z0, z1]) rfl ?_
  exact ⟨_, rfl, unhide TE, unhide BE⟩

end Go.Proofs.Ytneepoaimbnneaa.CL

namespace Go.Proofs.Ytneepoaimbnneaa.CL
open Go.RowKit
variable {A : Nat → Prop}

set_option maxHeartbeats 4000000 in
set_option maxRecDepth 100000 in
theorem run_any (N : Nat) (l : List Rf.Ev) (lv : Value) (w : World) (hA : ∀ b, w.heap.size ≤ b → A b) (hl : Ev' w lv l) (h1 : 1 ≤ N) (h5 : N ≤ 5) (h300 : l.length ≤ 300) :
    Calls Try.prog 5 #[.int .i64 (N : Int), lv] w fun e w' => ∃ v, e = .returned (.tuple #[.agg v, .int .i64 0]) ∧ Wv A w' v (Rf.runW N l) ∧ Below w.heap.size w w' := by
  have HL := hide hl
  obtain ⟨la, LL, lc, rfl, hLL, hlc, _⟩ := SC.shp hl
  clear hl
  have HFit : Hid (∀ k, FitW (Rf.runW (N : Int) (l.take k))) := hide (fun k => by
    obtain ⟨g, hg⟩ := Rf.run_come (n := (N : Int)) (by omega) (by omega) (l.take k)
    exact FitW.of hg (by omega))
  obtain ⟨w0, hw0⟩ : ∃ w0, w0 = w.alloc (.cells #[.slice none 0 0, .slice none 0 0] 27) := ⟨_, rfl⟩
  have HB : Hid (Below w.heap.size w w0) := hide (by rw [hw0]; exact below_new _ _)
  have R0 : Hid (BK w0 w.heap.size 27 #[.slice none 0 0, .slice none 0 0]) := hide (by rw [hw0]; exact BK.new _ _ _)
  have HA := hide hA
  have CS := hide (start_good raft_rc N w0 (fun b hb => hA b (Nat.le_trans (unhide HB).size hb)) h1 h5)
  clear hA
  have h3' : ¬ (300 : Int) < (LL : Int) := by have := unhide hLL; omega
  have hL300 : LL ≤ 300 := by have := unhide hLL; omega
  go_enter Try.func5, Try.ntmps5
  go_upto_region 1 with fail
  rw [← hw0]
  clear hw0
  go_wp2_with fail
  refine (unhide CS).mono ?_
  rintro e w1 ⟨v1, rfl, hv1, b1⟩
  obtain ⟨nv1, tv1, rfl, ⟨nc1, n1, _⟩, ⟨tc1, t1, _⟩⟩ := id hv1
  obtain ⟨na, NL, ncap, rfl, _, _, _⟩ := SC.shp n1
  obtain ⟨ta, TL, tcap, rfl, _, _, _⟩ := SC.shp t1
  obtain ⟨w2, hw2⟩ : ∃ w2, w2 = w1.alloc (.cells #[.slice na NL ncap, .slice ta TL tcap] 27) := ⟨_, rfl⟩
  have b2 : Below w1.heap.size w1 w2 := by rw [hw2]; exact below_new _ _
  have A0 : BK w2 w1.heap.size 27 #[.slice na NL ncap, .slice ta TL tcap] := by rw [hw2]; exact BK.new _ _ _
  have a0 : w2.cell? ⟨w1.heap.size, 0, none⟩ = some (.slice na NL ncap) := A0.at rfl
  have a1 : w2.cell? ⟨w1.heap.size, 1, none⟩ = some (.slice ta TL tcap) := A0.at rfl
  have hb12 := below_via b1 b2
  have R2 := hide ((unhide R0).keep hb12)
  have B2 := hide (below_via (unhide HB) hb12)
  have hf0 := unhide HFit 0
  have e0 : Rf.runW (N : Int) (l.take 0) = Rf.startW N := by simp [Rf.runW]
  rw [e0] at hf0
  have CB := hide (begin_any _ _ w2 (hv1.below b2) (fun b hb => unhide HA b (Nat.le_trans (unhide B2).size hb)) (by have := hf0.nl; omega) (by have := hf0.tl; omega))
  clear n1 t1 hv1 b1 b2 A0 hb12 hf0 e0 R0 CS HB
  go_upto_region 2 with fail
  rw [← hw2]
  clear hw2
  go_wp2_with fail
  refine (unhide CB).mono ?_
  rintro e w3 ⟨p, nv3, tv3, nc3, tc3, rfl, h3, b3⟩
  have HC3 : Hid (∃ nv tv nc tc, CW A w2.heap.size w3 p (Rf.runW (N : Int) (l.take 0)) nv tv nc tc) := hide ⟨_, _, _, _, by rw [show Rf.runW (N : Int) (l.take 0) = Rf.startW N by simp [Rf.runW]]; exact h3⟩
  have B3 := hide b3
  have hrl : Hid (w.heap.size < w2.heap.size) := hide (unhide R2).low
  clear CB a0 a1 h3 b3
  go_wp2_with fail
  go_loopw [28] (fun i wr => ∃ k : Nat, k ≤ LL ∧ i = .int .i64 (k : Int) ∧ Hid (∃ nv tv nc tc, CW A w2.heap.size wr p (Rf.runW (N : Int) (l.take k)) nv tv nc tc) ∧ Hid (Below w2.heap.size w2 wr)) (fun i _ => LL - (intOf i).toNat)
  case atStart => exact ⟨0, Nat.zero_le _, rfl, HC3, B3⟩
  case round =>
    obtain ⟨k, hk, rfl, HC, HB⟩ := hrel
    by_cases hlt : k < LL
    · have hi1 : (k : Int) < (LL : Int) := by omega
      obtain ⟨ev, hx⟩ : ∃ ev, l[k]? = some ev := ⟨_, List.getElem?_eq_getElem (by have := unhide hLL; omega)⟩
      have HLr : Ev' wr (.slice la LL lc) l := EV.keep (kept (below_via (unhide B2) (unhide HB))) (unhide HL)
      obtain ⟨b, off, rfl, _, d0, d1, d2⟩ := HLr.at hx
      obtain ⟨nv, tv, nc, tc, hc⟩ := unhide HC
      obtain ⟨w4, hw4⟩ : ∃ w4, w4 = wr.alloc (.cells #[.int .i64 ev.kind, .int .i64 ev.node, .int .i64 ev.pick] 38) := ⟨_, rfl⟩
      have b4 : Below wr.heap.size wr w4 := by rw [hw4]; exact below_new _ _
      have E4 : BK w4 wr.heap.size 38 #[.int .i64 ev.kind, .int .i64 ev.node, .int .i64 ev.pick] := by rw [hw4]; exact BK.new _ _ _
      have e0 : w4.cell? ⟨wr.heap.size, 0, none⟩ = some (.int .i64 ev.kind) := E4.at rfl
      have e1 : w4.cell? ⟨wr.heap.size, 1, none⟩ = some (.int .i64 ev.node) := E4.at rfl
      have e2 : w4.cell? ⟨wr.heap.size, 2, none⟩ = some (.int .i64 ev.pick) := E4.at rfl
      have hf := unhide HFit k
      have hn := Rf.run_take (N : Int) l hx
      have CH := hide (happen_any raft_rc ev.kind ev.node ev.pick w2.heap.size p _ nv tv nc tc w4 (hc.below b4) hf.nf hf.ms (by have := hf.nl; omega) hf.tl)
      rw [show (⟨ev.kind, ev.node, ev.pick⟩ : Rf.Ev) = ev from rfl, ← hn] at CH
      have B4 := hide ((unhide HB).trans (b4.mono hc.szB))
      clear hc HC HLr E4 b4 hf hn
      go_upto_region 10 with fail
      rw [← hw4]
      clear hw4
      go_wp2_with fail
      refine (unhide CH).mono ?_
      rintro e w5 ⟨rfl, nv5, tv5, nc5, tc5, h5', b5, _⟩
      have HC5 := hide (show ∃ nv tv nc tc, CW A w2.heap.size w5 p (Rf.runW (N : Int) (l.take (k + 1))) nv tv nc tc from ⟨_, _, _, _, h5'⟩)
      have B5 := hide ((unhide B4).trans b5)
      clear d0 d1 d2 e0 e1 e2 CH h5' b5 B4
      go_wp2
      go_roundw
      case rel => exact ⟨k + 1, by omega, by go_num, HC5, B5⟩
      case measure => simp [intOf]; omega
    · obtain rfl : k = LL := by omega
      obtain ⟨nv, tv, nc, tc, hc⟩ := unhide HC
      have hf := unhide HFit k
      rw [show l.take k = l from List.take_of_length_le (by have := unhide hLL; omega)] at hc hf
      have CT := hide (told_any w2.heap.size p _ nv tv nc tc wr hc hf.nf hf.it (by have := hf.nl; omega) (by have := hf.tl; omega))
      have R5 : Hid (BK wr w.heap.size 27 #[.slice none 0 0, .slice none 0 0]) := hide (((unhide HB).block _ (unhide hrl)).trans (unhide R2))
      clear hc hf HC
      go_wp2_with fail
      refine (unhide CT).mono ?_
      rintro e w6 ⟨v6, rfl, hv6, b6⟩
      have R6 : BK w6 w.heap.size 27 #[.slice none 0 0, .slice none 0 0] := (b6.block _ (unhide hrl)).trans (unhide R5)
      have SB6 : SB w6 w.heap.size := ⟨_, _, _, _, _, _, _, R6⟩
      obtain ⟨nv6, tv6, rfl, ⟨nc6, n6, _⟩, ⟨tc6, t6, _⟩⟩ := id hv6
      obtain ⟨na6, NL6, ncap6, rfl, _, _, _⟩ := SC.shp n6
      obtain ⟨ta6, TL6, tcap6, rfl, _, _, _⟩ := SC.shp t6
      have z0 := R6.at (j := 0) rfl
      have z1 := R6.at (j := 1) rfl
      have f0 := R6.thaw 0
      have f1 := R6.thaw 1
      have TE := hide (wv_put SB6 hv6 (.slice na6 NL6 ncap6) (.slice ta6 TL6 tcap6))
      have BE : Hid (Below w.heap.size w ((w6.setCell ⟨w.heap.size, 0, none⟩ (.slice na6 NL6 ncap6)).setCell ⟨w.heap.size, 1, none⟩ (.slice ta6 TL6 tcap6))) := hide ((((unhide B2).trans ((unhide HB).mono (unhide B2).size)).trans (b6.mono (unhide B2).size)).setCell (Nat.le_refl _) _ |>.setCell (Nat.le_refl _) _)
      clear n6 t6 hv6 b6 CT R5 R6 SB6
      go_wp2
      refine bodyPost_ret (v := .tuple #[.agg #[.slice na6 NL6 ncap6, .slice ta6 TL6 tcap6], .int .i64 0]) (by simp [results, Try.results5, go_sem, z0, z1]) rfl ?_
      exact ⟨_, rfl, unhide TE, unhide BE⟩

end Go.Proofs.Ytneepoaimbnneaa.CL

namespace Go.Proofs.Ytneepoaimbnneaa.CL
open Go.RowKit
variable {A : Nat → Prop}

def ev2 : List Rf.Ev := [⟨1, 1, 0⟩, ⟨3, 1, 7⟩]
theorem run_ev2 : (Rf.runW 1 ev2).nodes.map (fun x => (x.role, x.commit, x.log.length)) = [((3 : Int), (2 : Int), 2)] := by decide +kernel
theorem run_one : ∃ x, (Rf.runW 1 ev2).nodes = [x] ∧ x.role = 3 ∧ x.commit = 2 ∧ x.log.length = 2 := by
  have h := run_ev2
  generalize (Rf.runW 1 ev2).nodes = l at h ⊢
  cases l with
  | nil => cases h
  | cons x t =>
    cases t with
    | nil =>
      simp at h
      exact ⟨x, rfl, h.1, h.2.1, h.2.2⟩
    | cons y t => simp at h

set_option maxHeartbeats 4000000 in
set_option maxRecDepth 100000 in
theorem alive_any (w : World) : Calls Try.prog 4 #[] w fun e w' => e = .returned (.bool true) ∧ Below w.heap.size w w' := by
  obtain ⟨w0, hw0⟩ : ∃ w0, w0 = w.alloc (.cells #[.int .i64 1, .int .i64 1, .int .i64 0, .int .i64 3, .int .i64 1, .int .i64 7] 38) := ⟨_, rfl⟩
  have HB : Hid (Below w.heap.size w w0) := hide (by rw [hw0]; exact below_new _ _)
  have E0 : BK w0 w.heap.size 38 #[.int .i64 1, .int .i64 1, .int .i64 0, .int .i64 3, .int .i64 1, .int .i64 7] := by rw [hw0]; exact BK.new _ _ _
  have hE : Ev' w0 (.slice (some ⟨w.heap.size, 0, none⟩) 2 2) ev2 := by
    refine ⟨rfl, _, 2, rfl, by decide, by decide, fun _ => ⟨w.heap.size, 0, rfl, E0.low, fun j u hj => ?_⟩⟩
    rw [Nat.zero_add]
    exact E0.at (by rw [← hj, show evc ev2 = [.int .i64 1, .int .i64 1, .int .i64 0, .int .i64 3, .int .i64 1, .int .i64 7] from rfl]; simp)
  have CR := hide (run_any (A := fun _ => True) 1 ev2 _ w0 (fun _ _ => trivial) hE (by decide) (by decide) (by decide))
  clear E0 hE
  go_enter Try.func4, Try.ntmps4
  go_wp2_with fail
  rw [← hw0]
  clear hw0
  refine (unhide CR).mono ?_
  rintro e w1 ⟨v1, rfl, hv1, b1⟩
  obtain ⟨x, hx, hr, hc, hg⟩ := run_one
  obtain ⟨nv1, tv1, rfl, hN, ⟨tc1, t1, _⟩⟩ := hv1
  obtain ⟨ta, TL, tcap, rfl, _, _, _⟩ := SC.shp t1
  rw [show ((1 : Nat) : Int) = 1 from rfl, hx] at hN
  obtain ⟨b, off, cap, rfl, hbl, hcap, _⟩ := hN.ex (by simp)
  obtain ⟨w2, hw2⟩ : ∃ w2, w2 = w1.alloc (.cells #[.slice (some ⟨b, off, none⟩) 1 cap, .slice ta TL tcap] 27) := ⟨_, rfl⟩
  have b2 : Below w1.heap.size w1 w2 := by rw [hw2]; exact below_new _ _
  have A0 : BK w2 w1.heap.size 27 #[.slice (some ⟨b, off, none⟩) 1 cap, .slice ta TL tcap] := by rw [hw2]; exact BK.new _ _ _
  obtain ⟨v, hv, hat⟩ := (NsV.keep (fun b hb => kept b2 b hb.1) hN).at (i := 0) (x := x) rfl
  obtain ⟨lv, vv, nv, mv, rfl, s2, s3, s4, s5⟩ := hv
  obtain ⟨la, LL, lc, rfl, hLL, _, _⟩ := SC.shp s2
  have eLL : LL = 2 := by have := unhide hLL; omega
  subst eLL
  have d4 : w2.cell? ⟨b, off + 4, none⟩ = some (.slice la 2 lc) := by have := hat 4 _ rfl; simpa using this
  have d5 : w2.cell? ⟨b, off + 5, none⟩ = some (.int .i64 2) := by have := hat 5 _ rfl; rw [hc] at this; simpa using this
  have d6 : w2.cell? ⟨b, off + 6, none⟩ = some (.int .i64 3) := by have := hat 6 _ rfl; rw [hr] at this; simpa using this
  have a0 : w2.cell? ⟨w1.heap.size, 0, none⟩ = some (.slice (some ⟨b, off, none⟩) 1 cap) := A0.at rfl
  have B2 := hide (below_via (below_via (unhide HB) b1) b2)
  have hcap1 : 1 ≤ cap := by simpa using hcap
  clear hN t1 b1 b2 A0 s2 s3 s4 s5 hat hcap CR HB hLL hx hr hc hg
  go_upto_region 2 with fail
  rw [← hw2]
  clear hw2
  go_wp2
  go_ret
  exact ⟨rfl, unhide B2⟩

end Go.Proofs.Ytneepoaimbnneaa.CL

namespace Go.Proofs.Ytneepoaimbnneaa.CL
open Go.ChangeShapes Go.WideShapes Go.ChangeAt Go.RowKit Go.Joins

theorem cellsE : Try.prog.cellsOf 38 = 3 := by kernel_rfl
theorem cellsInt16 : Try.prog.cellsOf 3 = 1 := by kernel_rfl
theorem laidOut16 : laidOutB Try.prog = true := by kernel_rfl
theorem cell_spot16 {w : World} {a : Addr} {v : Value} (h : w.cell? a = some v) : a.spot = none := by
  unfold World.cell? at h
  split at h
  · by_cases e : a.spot.isSome = true
    · rw [if_pos e] at h; cases h
    · simpa using e
  · cases h
theorem cells3 {w : World} {base : Nat} {a : Addr} {cs : List Value} (h : w.cells? base a 3 = some cs) : a.spot = none ∧ a.block < w.heap.size ∧ ∃ c d e, cs = [c, d, e] ∧ w.cell? ⟨a.block, a.off, none⟩ = some c ∧ w.cell? ⟨a.block, a.off + 1, none⟩ = some d ∧ w.cell? ⟨a.block, a.off + 2, none⟩ = some e := by
  unfold World.cells? at h
  split at h
  case isFalse => cases h
  simp only [show List.range 3 = [0, 1, 2] from rfl, List.mapM_cons, List.mapM_nil, Option.bind_eq_bind, Option.pure_def, Option.bind_eq_some_iff] at h
  obtain ⟨c0, h0, r1, ⟨c1, h1, r2, ⟨c2, h2, r3, q3, q2⟩, q1⟩, hcs⟩ := h
  cases q3
  cases q2
  cases q1
  have hs : a.spot = none := by
    have := cell_spot16 h0
    simpa [Addr.add] using this
  have hb : a.block < w.heap.size := by
    have := World.block_lt_of_cell? w _ h0
    simpa [Addr.add] using this
  obtain ⟨b, o, sp⟩ := a
  simp only at hs
  subst hs
  simp only [Option.some.injEq] at hcs
  subst hcs
  exact ⟨rfl, hb, c0, c1, c2, rfl, by simpa [Addr.add] using h0, by simpa [Addr.add] using h1, by simpa [Addr.add] using h2⟩
theorem choose_list16 {α : Type} {P : Nat → α → Prop} : ∀ (n : Nat), (∀ i, i < n → ∃ x, P i x) → ∃ l : List α, l.length = n ∧ ∀ i x, l[i]? = some x → P i x := by
  intro n
  induction n with
  | zero => intro _; exact ⟨[], rfl, fun i x h => by simp at h⟩
  | succ n ih =>
    intro h
    obtain ⟨l, hl, hp⟩ := ih (fun i hi => h i (by omega))
    obtain ⟨x, hx⟩ := h n (by omega)
    refine ⟨l ++ [x], by simp [hl], fun i y hy => ?_⟩
    rcases Nat.lt_or_ge i n with hi | hi
    · rw [List.getElem?_append_left (by omega)] at hy
      exact hp i y hy
    · rw [List.getElem?_append_right (by omega)] at hy
      have : i = n := by
        rcases Nat.eq_or_lt_of_le hi with e | e
        · exact e.symm
        · rw [List.getElem?_eq_none (by simp; omega)] at hy; cases hy
      subst this
      simp [hl] at hy
      rw [← hy]; exact hx
theorem evc_ex : ∀ {l : List Rf.Ev} {j : Nat} {u : Value}, (evc l)[j]? = some u → ∃ x, l[j / 3]? = some x ∧ u = (if j % 3 = 0 then .int .i64 x.kind else if j % 3 = 1 then .int .i64 x.node else .int .i64 x.pick)
  | [], j, u, h => by simp [evc] at h
  | y :: l, 0, u, h => by simp [evc] at h; exact ⟨y, by simp, by simp [h]⟩
  | y :: l, 1, u, h => by simp [evc] at h; exact ⟨y, by simp, by simp [h]⟩
  | y :: l, 2, u, h => by simp [evc] at h; exact ⟨y, by simp, by simp [h]⟩
  | y :: l, j + 3, u, h => by
    have e : evc (y :: l) = [.int .i64 y.kind, .int .i64 y.node, .int .i64 y.pick] ++ evc l := by simp [evc]
    rw [e, List.getElem?_append_right (by simp)] at h
    obtain ⟨x, h1, h2⟩ := evc_ex (l := l) (j := j) (by simpa using h)
    refine ⟨x, ?_, ?_⟩
    · rw [show (j + 3) / 3 = j / 3 + 1 by omega]
      simpa using h1
    · rw [show (j + 3) % 3 = j % 3 by omega]
      exact h2

section
variable {H : Type} {enc : TypeId × Value → H} {w : World} {base : Nat} {spare : Nat → Bool} {held : Bool}
set_option maxRecDepth 100000 in
theorem events_value {r : Reach} {b0 : Nat} {v : Value} {d : DataW H} {p : List MemPlace} (hv : Value.okWide Try.prog w r b0 22 v) (h : DataW.Trod enc Try.prog w base spare held 22 v d p) : ∃ l : List Rf.Ev, Ev' w v l := by
  obtain ⟨sa, sl, sc, rfl⟩ := okWide_slice Try.underlying22 hv
  obtain ⟨fuel, hf⟩ := h
  rcases DataW.trod_slice Try.underlying22 hf with ⟨e5, _⟩ | ⟨a, len, cap, elems, rest, n', hn', e5, _, _, hlc, hm, hel, hat, _⟩
  · simp [Value.cells] at e5
    obtain ⟨rfl, rfl, rfl⟩ := e5
    exact ⟨[], SC.nil _ _ _⟩
  · simp [Value.cells] at e5
    obtain ⟨rfl, rfl, rfl⟩ := e5
    have each : ∀ i, i < sl → ∃ z : Rf.Ev, ∃ cs', w.cells? base (a.add (i * 3)) 3 = some cs' ∧ cs' = [.int .i64 z.kind, .int .i64 z.node, .int .i64 z.pick] := by
      intro i hi
      have := hat i hi
      rw [cellsE, List.getElem?_eq_getElem (by omega), Option.bind_eq_some_iff] at this
      obtain ⟨cs', hc, ht2⟩ := this
      obtain ⟨xs, n, hn, hx, hl, hlen, hf⟩ := DataW.trod_struct Try.underlying38 ht2
      obtain ⟨_, _, c0, c1, c2, rfl, _, _, _⟩ := cells3 hc
      have h0 := hf 0 _ rfl
      have h1 := hf 1 _ rfl
      have h2 := hf 2 _ rfl
      simp [cellsInt16] at h0 h1 h2
      obtain ⟨y0, y1, y2, rfl⟩ : ∃ y0 y1 y2, xs = [y0, y1, y2] := by
        match xs, hlen with
        | [y0, y1, y2], _ => exact ⟨y0, y1, y2, rfl⟩
      simp at h0 h1 h2
      obtain ⟨z0, e0, _⟩ := DataW.trod_int Try.underlying3 h0
      obtain ⟨z1, e1, _⟩ := DataW.trod_int Try.underlying3 h1
      obtain ⟨z2, e2, _⟩ := DataW.trod_int Try.underlying3 h2
      simp at e0 e1 e2
      subst e0 e1 e2
      exact ⟨⟨z0, z1, z2⟩, _, hc, rfl⟩
    obtain ⟨l, hl, hp⟩ := choose_list16 sl each
    have hm' : sc ≤ 9223372036854775807 := by unfold maxLen at hm; omega
    refine ⟨l, evc_len l, _, sc, by rw [hl], by omega, hm', fun hne => ?_⟩
    obtain ⟨_, cs0, hc0, _⟩ := each 0 (by omega)
    simp only [Nat.zero_mul] at hc0
    have h00 : a.add 0 = a := rfl
    rw [h00] at hc0
    obtain ⟨hsp, hblk, _⟩ := cells3 hc0
    obtain ⟨b, off, sp⟩ := a
    simp only at hsp hblk
    subst hsp
    refine ⟨b, off, rfl, hblk, fun j u hj => ?_⟩
    obtain ⟨z, hz, rfl⟩ := evc_ex hj
    obtain ⟨cs', hc, hM⟩ := hp (j / 3) z hz
    rw [Addr.add_lit] at hc
    obtain ⟨_, _, c, d, e, e1, e2, e3, e4⟩ := cells3 hc
    rw [hM] at e1
    simp only [List.cons.injEq, and_true] at e1
    obtain ⟨rfl, rfl, rfl⟩ := e1
    simp only at e2 e3 e4
    split
    · rw [← e2]; congr 2; omega
    · split
      · rw [← e3]; congr 2; omega
      · rw [← e4]; congr 2; omega
end

end Go.Proofs.Ytneepoaimbnneaa.CL
