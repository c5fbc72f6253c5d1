/- Walks: Start, Timeout, Beat, Propose, Restart (raft). Written by gen_nt.py. -/
import Derived.Test.YtiplnegiphhdlaaNM3
import Derived.Test.YtiplnegiphhdlaaMJ
namespace Go.Proofs.Ytiplnegiphhdlaa
open Go.RowKit

def nput (w : World) (r : Nat) (v0 v1 v2 v3 v4 v5 v6 v7 v8 v9 v10 : Value) : World := (((((((((((w.setCell ⟨r, 0, none⟩ v0).setCell ⟨r, 1, none⟩ v1).setCell ⟨r, 2, none⟩ v2).setCell ⟨r, 3, none⟩ v3).setCell ⟨r, 4, none⟩ v4).setCell ⟨r, 5, none⟩ v5).setCell ⟨r, 6, none⟩ v6).setCell ⟨r, 7, none⟩ v7).setCell ⟨r, 8, none⟩ v8).setCell ⟨r, 9, none⟩ v9).setCell ⟨r, 10, none⟩ v10)
theorem nput_below {B r : Nat} {w w' : World} {v0 v1 v2 v3 v4 v5 v6 v7 v8 v9 v10 : Value} (h : Below B w w') (hr : B ≤ r) : Below B w (nput w' r v0 v1 v2 v3 v4 v5 v6 v7 v8 v9 v10) := by
  have h0 := h.setCell (p := ⟨r, 0, none⟩) hr v0
  have h1 := h0.setCell (p := ⟨r, 1, none⟩) hr v1
  have h2 := h1.setCell (p := ⟨r, 2, none⟩) hr v2
  have h3 := h2.setCell (p := ⟨r, 3, none⟩) hr v3
  have h4 := h3.setCell (p := ⟨r, 4, none⟩) hr v4
  have h5 := h4.setCell (p := ⟨r, 5, none⟩) hr v5
  have h6 := h5.setCell (p := ⟨r, 6, none⟩) hr v6
  have h7 := h6.setCell (p := ⟨r, 7, none⟩) hr v7
  have h8 := h7.setCell (p := ⟨r, 8, none⟩) hr v8
  have h9 := h8.setCell (p := ⟨r, 9, none⟩) hr v9
  have h10 := h9.setCell (p := ⟨r, 10, none⟩) hr v10
  exact h10
theorem nput_block {w : World} {r : Nat} {v0 v1 v2 v3 v4 v5 v6 v7 v8 v9 v10 : Value} {b : Nat} (h : b ≠ r) : (nput w r v0 v1 v2 v3 v4 v5 v6 v7 v8 v9 v10).heap[b]? = w.heap[b]? := by
  have e0 := Below.heap_setCell w ⟨r, 0, none⟩ v0 b h
  have e1 := (Below.heap_setCell (w.setCell ⟨r, 0, none⟩ v0) ⟨r, 1, none⟩ v1 b h).trans e0
  have e2 := (Below.heap_setCell ((w.setCell ⟨r, 0, none⟩ v0).setCell ⟨r, 1, none⟩ v1) ⟨r, 2, none⟩ v2 b h).trans e1
  have e3 := (Below.heap_setCell (((w.setCell ⟨r, 0, none⟩ v0).setCell ⟨r, 1, none⟩ v1).setCell ⟨r, 2, none⟩ v2) ⟨r, 3, none⟩ v3 b h).trans e2
  have e4 := (Below.heap_setCell ((((w.setCell ⟨r, 0, none⟩ v0).setCell ⟨r, 1, none⟩ v1).setCell ⟨r, 2, none⟩ v2).setCell ⟨r, 3, none⟩ v3) ⟨r, 4, none⟩ v4 b h).trans e3
  have e5 := (Below.heap_setCell (((((w.setCell ⟨r, 0, none⟩ v0).setCell ⟨r, 1, none⟩ v1).setCell ⟨r, 2, none⟩ v2).setCell ⟨r, 3, none⟩ v3).setCell ⟨r, 4, none⟩ v4) ⟨r, 5, none⟩ v5 b h).trans e4
  have e6 := (Below.heap_setCell ((((((w.setCell ⟨r, 0, none⟩ v0).setCell ⟨r, 1, none⟩ v1).setCell ⟨r, 2, none⟩ v2).setCell ⟨r, 3, none⟩ v3).setCell ⟨r, 4, none⟩ v4).setCell ⟨r, 5, none⟩ v5) ⟨r, 6, none⟩ v6 b h).trans e5
  have e7 := (Below.heap_setCell (((((((w.setCell ⟨r, 0, none⟩ v0).setCell ⟨r, 1, none⟩ v1).setCell ⟨r, 2, none⟩ v2).setCell ⟨r, 3, none⟩ v3).setCell ⟨r, 4, none⟩ v4).setCell ⟨r, 5, none⟩ v5).setCell ⟨r, 6, none⟩ v6) ⟨r, 7, none⟩ v7 b h).trans e6
  have e8 := (Below.heap_setCell ((((((((w.setCell ⟨r, 0, none⟩ v0).setCell ⟨r, 1, none⟩ v1).setCell ⟨r, 2, none⟩ v2).setCell ⟨r, 3, none⟩ v3).setCell ⟨r, 4, none⟩ v4).setCell ⟨r, 5, none⟩ v5).setCell ⟨r, 6, none⟩ v6).setCell ⟨r, 7, none⟩ v7) ⟨r, 8, none⟩ v8 b h).trans e7
  have e9 := (Below.heap_setCell (((((((((w.setCell ⟨r, 0, none⟩ v0).setCell ⟨r, 1, none⟩ v1).setCell ⟨r, 2, none⟩ v2).setCell ⟨r, 3, none⟩ v3).setCell ⟨r, 4, none⟩ v4).setCell ⟨r, 5, none⟩ v5).setCell ⟨r, 6, none⟩ v6).setCell ⟨r, 7, none⟩ v7).setCell ⟨r, 8, none⟩ v8) ⟨r, 9, none⟩ v9 b h).trans e8
  have e10 := (Below.heap_setCell ((((((((((w.setCell ⟨r, 0, none⟩ v0).setCell ⟨r, 1, none⟩ v1).setCell ⟨r, 2, none⟩ v2).setCell ⟨r, 3, none⟩ v3).setCell ⟨r, 4, none⟩ v4).setCell ⟨r, 5, none⟩ v5).setCell ⟨r, 6, none⟩ v6).setCell ⟨r, 7, none⟩ v7).setCell ⟨r, 8, none⟩ v8).setCell ⟨r, 9, none⟩ v9) ⟨r, 10, none⟩ v10 b h).trans e9
  exact e10
theorem nput_size {w : World} {r : Nat} {v0 v1 v2 v3 v4 v5 v6 v7 v8 v9 v10 : Value} : (nput w r v0 v1 v2 v3 v4 v5 v6 v7 v8 v9 v10).heap.size = w.heap.size := by
  have s : ∀ (w : World) (a : Addr) (v : Value), (w.setCell a v).heap.size = w.heap.size := fun w a v => by simp [World.setCell]
  unfold nput
  rw [s, s, s, s, s, s, s, s, s, s, s]
theorem World.heap_drew' (w : World) : w.drew.heap = w.heap := rfl

set_option maxHeartbeats 4000000 in
theorem told_end {P : Nat → Prop} {w w0 wE wF : World} {B p r : Nat} {x : Rf.Node} {ms : List Rf.Msg} {o : Own} (hw : wF = nput wE r (.int .i64 x.id) (.int .i64 x.n) (.int .i64 x.term) (.int .i64 x.vote) o.l (.int .i64 x.commit) (.int .i64 x.role) (.int .i64 x.boss) o.v o.n o.m ∨ wF = (nput wE r (.int .i64 x.id) (.int .i64 x.n) (.int .i64 x.term) (.int .i64 x.vote) o.l (.int .i64 x.commit) (.int .i64 x.role) (.int .i64 x.boss) o.v o.n o.m).drew) (h0 : Below w.heap.size w w0) (hr : w.heap.size ≤ r) (hrB : r < B) (hB : B = w0.heap.size) (hk : WK B wE p x ms o) (hb : Below B w0 wE) :
    NV (fun b => P b ∨ Fresh w wF b) wF #[.int .i64 x.id, .int .i64 x.n, .int .i64 x.term, .int .i64 x.vote, o.l, .int .i64 x.commit, .int .i64 x.role, .int .i64 x.boss, o.v, o.n, o.m] x ∧ MV (Fresh w wF) wF o.s ms ∧ Below w.heap.size w wF := by
  have hs0 := h0.size
  have hbw : Below w.heap.size w wE := h0.trans (hb.mono (by omega))
  have hblk : ∀ b, B ≤ b ∧ b < wE.heap.size → Fresh w wF b ∧ wF.heap[b]? = wE.heap[b]? := by
    intro b ⟨h1, h2⟩
    have hne : b ≠ r := by omega
    rcases hw with rfl | rfl
    · have e := nput_size (w := wE) (r := r) (v0 := .int .i64 x.id) (v1 := .int .i64 x.n) (v2 := .int .i64 x.term) (v3 := .int .i64 x.vote) (v4 := o.l) (v5 := .int .i64 x.commit) (v6 := .int .i64 x.role) (v7 := .int .i64 x.boss) (v8 := o.v) (v9 := o.n) (v10 := o.m)
      exact ⟨⟨by omega, by omega⟩, nput_block hne⟩
    · have e := nput_size (w := wE) (r := r) (v0 := .int .i64 x.id) (v1 := .int .i64 x.n) (v2 := .int .i64 x.term) (v3 := .int .i64 x.vote) (v4 := o.l) (v5 := .int .i64 x.commit) (v6 := .int .i64 x.role) (v7 := .int .i64 x.boss) (v8 := o.v) (v9 := o.n) (v10 := o.m)
      refine ⟨⟨by omega, ?_⟩, ?_⟩
      · rw [World.heap_drew', e]; exact h2
      · rw [World.heap_drew']; exact nput_block hne
  refine ⟨hk.node.keep fun b h => ⟨.inr (hblk b h).1, (hblk b h).2⟩, hk.msgs.keep fun b h => hblk b h, ?_⟩
  rcases hw with rfl | rfl
  · exact nput_below hbw hr
  · exact (nput_below hbw hr).drew

end Go.Proofs.Ytiplnegiphhdlaa
namespace Go.Proofs.Ytiplnegiphhdlaa.RW
open Go.RowKit

set_option maxHeartbeats 8000000 in
set_option maxRecDepth 100000 in
theorem timeout_any (P : Nat → Prop) (x : Rf.Node) (v : Array Value) (w : World) (hv : NV P w v x) (hP : ∀ b, P b → b < w.heap.size) (hfit : FitN x) : Calls Try.prog 6 #[.agg v] w (PNM P w (Rf.timeout x)) := by
  obtain ⟨lv, vv, nv, mv, rfl, h2, h3, h4, h5⟩ := hv
  obtain ⟨la, LL, lc, rfl, hLL, _, _⟩ := SC.shp h2
  obtain ⟨va, VL, vc, rfl, hVL, _, _⟩ := SC.shp h3
  obtain ⟨na, NL, nc, rfl, hNL, _, _⟩ := SC.shp h4
  obtain ⟨ma, ML, mc, rfl, hML, _, _⟩ := SC.shp h5
  have HV : Hid (NV P w #[.int .i64 x.id, .int .i64 x.n, .int .i64 x.term, .int .i64 x.vote, .slice la LL lc, .int .i64 x.commit, .int .i64 x.role, .int .i64 x.boss, .slice va VL vc, .slice na NL nc, .slice ma ML mc] x) := hide ⟨_, _, _, _, rfl, h2, h3, h4, h5⟩
  have HP := hide hP
  have HFt := hide hfit
  clear h2 h3 h4 h5 hP hfit
  have HB0 : Hid (Below w.heap.size w (((w.alloc (.cells #[.int .i64 x.id, .int .i64 x.n, .int .i64 x.term, .int .i64 x.vote, .slice la LL lc, .int .i64 x.commit, .int .i64 x.role, .int .i64 x.boss, .slice va VL vc, .slice na NL nc, .slice ma ML mc] 25)).alloc (.cells #[.int .i64 0, .int .i64 0, .int .i64 0, .int .i64 0, .slice none 0 0, .int .i64 0, .int .i64 0, .int .i64 0, .slice none 0 0, .slice none 0 0, .slice none 0 0] 25)))) := hide ((below_new w _).alloc (by simp) _)
  have HC0 : Hid (BK ((w.alloc (.cells #[.int .i64 x.id, .int .i64 x.n, .int .i64 x.term, .int .i64 x.vote, .slice la LL lc, .int .i64 x.commit, .int .i64 x.role, .int .i64 x.boss, .slice va VL vc, .slice na NL nc, .slice ma ML mc] 25)).alloc (.cells #[.int .i64 0, .int .i64 0, .int .i64 0, .int .i64 0, .slice none 0 0, .int .i64 0, .int .i64 0, .int .i64 0, .slice none 0 0, .slice none 0 0, .slice none 0 0] 25)) w.heap.size 25 #[.int .i64 x.id, .int .i64 x.n, .int .i64 x.term, .int .i64 x.vote, .slice la LL lc, .int .i64 x.commit, .int .i64 x.role, .int .i64 x.boss, .slice va VL vc, .slice na NL nc, .slice ma ML mc]) := hide ((BK.new w 25 #[.int .i64 x.id, .int .i64 x.n, .int .i64 x.term, .int .i64 x.vote, .slice la LL lc, .int .i64 x.commit, .int .i64 x.role, .int .i64 x.boss, .slice va VL vc, .slice na NL nc, .slice ma ML mc]).keep (below_new _ _))
  have HZ0 : Hid (BK ((w.alloc (.cells #[.int .i64 x.id, .int .i64 x.n, .int .i64 x.term, .int .i64 x.vote, .slice la LL lc, .int .i64 x.commit, .int .i64 x.role, .int .i64 x.boss, .slice va VL vc, .slice na NL nc, .slice ma ML mc] 25)).alloc (.cells #[.int .i64 0, .int .i64 0, .int .i64 0, .int .i64 0, .slice none 0 0, .int .i64 0, .int .i64 0, .int .i64 0, .slice none 0 0, .slice none 0 0, .slice none 0 0] 25)) (w.heap.size + 1) 25 #[.int .i64 0, .int .i64 0, .int .i64 0, .int .i64 0, .slice none 0 0, .int .i64 0, .int .i64 0, .int .i64 0, .slice none 0 0, .slice none 0 0, .slice none 0 0]) := hide (by
    have := BK.new (w.alloc (.cells #[.int .i64 x.id, .int .i64 x.n, .int .i64 x.term, .int .i64 x.vote, .slice la LL lc, .int .i64 x.commit, .int .i64 x.role, .int .i64 x.boss, .slice va VL vc, .slice na NL nc, .slice ma ML mc] 25)) 25 #[.int .i64 0, .int .i64 0, .int .i64 0, .int .i64 0, .slice none 0 0, .int .i64 0, .int .i64 0, .int .i64 0, .slice none 0 0, .slice none 0 0, .slice none 0 0]
    rwa [show (w.alloc (.cells #[.int .i64 x.id, .int .i64 x.n, .int .i64 x.term, .int .i64 x.vote, .slice la LL lc, .int .i64 x.commit, .int .i64 x.role, .int .i64 x.boss, .slice va VL vc, .slice na NL nc, .slice ma ML mc] 25)).heap.size = w.heap.size + 1 by simp] at this)
  go_enter Try.func6, Try.ntmps6
  go_upto_region 1 with fail
  generalize (w.alloc (.cells #[.int .i64 x.id, .int .i64 x.n, .int .i64 x.term, .int .i64 x.vote, .slice la LL lc, .int .i64 x.commit, .int .i64 x.role, .int .i64 x.boss, .slice va VL vc, .slice na NL nc, .slice ma ML mc] 25)).alloc (.cells #[.int .i64 0, .int .i64 0, .int .i64 0, .int .i64 0, .slice none 0 0, .int .i64 0, .int .i64 0, .int .i64 0, .slice none 0 0, .slice none 0 0, .slice none 0 0] 25) = w0 at HB0 HC0 HZ0 ⊢
  obtain ⟨c0, c1, c2, c3, c4, c5, c6, c7, c8, c9, c10⟩ := (show NX w0 w.heap.size _ _ _ _ _ _ _ _ _ _ _ from unhide HC0).tell
  have CB := hide (begin_any x _ w0 (NV.keep (fun b hb => ⟨Nat.lt_of_lt_of_le (unhide HP b hb) (unhide HB0).size, (unhide HB0).block b (unhide HP b hb)⟩) (unhide HV)) (unhide HFt))
  have hrl := (unhide HZ0).low
  have hrw : Hid (w.heap.size ≤ w.heap.size + 1) := hide (by omega)
  generalize hrr : w.heap.size + 1 = r at HZ0 hrl hrw ⊢
  clear hrr
  by_cases hs : Rf.wrongN x = 0
  rotate_left
  · have db := decide_eq_false hs
    have ET : Hid (Rf.timeout x = (x, [])) := hide (by rw [Rf.timeout, if_pos (.inl hs)])
    clear hs
    have CB2 : Hid (Calls Try.prog 24 #[.agg #[.int .i64 x.id, .int .i64 x.n, .int .i64 x.term, .int .i64 x.vote, .slice la LL lc, .int .i64 x.commit, .int .i64 x.role, .int .i64 x.boss, .slice va VL vc, .slice na NL nc, .slice ma ML mc]] w0 fun e w1 => ∃ p o, e = .returned (.tuple #[.pointer (some ⟨p, 0, none⟩), .bool false]) ∧ WK w0.heap.size w1 p x [] o ∧ Below w0.heap.size w0 w1) := hide (by have := unhide CB; unfold PB at this; rwa [db] at this)
    go_wp2_with (go_at_call 24; refine (unhide CB2).mono ?_; rintro e w1 ⟨p, o, rfl, hK1, hb1⟩; clear c0 c1 c2 c3 c4 c5 c6 c7 c8 c9 c10; obtain ⟨la1, LL1, lc1, va1, VL1, vc1, na1, NL1, nc1, ma1, ML1, mc1, sa1, SL1, sc1, HE1, hLL1, hVL1, hNL1, hML1, hSL1, ⟨r1, r2, r3, r4⟩, ⟨c0, c1, c2, c3, c4, c5, c6, c7, c8, c9, c10, c11⟩, ⟨f0, f1, f2, f3, f4, f5, f6, f7, f8, f9, f10, f11⟩⟩ := (hK1).tell; have p1 := hK1.lo)
    have HK1 := hide hK1
    have HB1 := hide hb1
    clear hK1 hb1 CB CB2
    clear c0 c1 c2 c3 c4 c5 c6 c7 c8 c9 c10 c11 f0 f1 f2 f3 f4 f5 f6 f7 f8 f9 f10 f11 r1 r2 r3 r4 p1 HE1 hLL1 hVL1 hNL1 hML1 hSL1
    obtain ⟨la9, LL9, lc9, va9, VL9, vc9, na9, NL9, nc9, ma9, ML9, mc9, sa9, SL9, sc9, HE9, _, _, _, _, _, _, ⟨d0, d1, d2, d3, d4, d5, d6, d7, d8, d9, d10, d11⟩, ⟨_, _, _, _, _, _, _, _, _, _, _, _⟩⟩ := (unhide HK1).tell
    have p9 := (unhide HK1).lo
    have HZ9 := hide (show NX w1 r _ _ _ _ _ _ _ _ _ _ _ from ((unhide HB1).block r hrl).trans (unhide HZ0))
    obtain ⟨z0, z1, z2, z3, z4, z5, z6, z7, z8, z9, z10⟩ := (unhide HZ9).tell
    obtain ⟨y0, y1, y2, y3, y4, y5, y6, y7, y8, y9, y10⟩ := (unhide HZ9).thaw11
    have r9 := (unhide HZ9).low
    have hpr : p ≠ r := by have := (unhide HK1).low; omega
    have TE := hide (fun wF hw => told_end (P := P) (w := w) (w0 := w0) (wE := w1) (wF := wF) (r := r) (p := p) hw (unhide HB0) (by have := unhide hrw; omega) hrl rfl (unhide HK1) (unhide HB1))
    rw [(unhide HE9).1, (unhide HE9).2.1, (unhide HE9).2.2.1, (unhide HE9).2.2.2.1, (unhide HE9).2.2.2.2] at TE
    go_region
    go_wp2
    refine bodyPost_ret (v := .tuple #[.agg #[.int .i64 (x).id, .int .i64 (x).n, .int .i64 (x).term, .int .i64 (x).vote, .slice la9 LL9 lc9, .int .i64 (x).commit, .int .i64 (x).role, .int .i64 (x).boss, .slice va9 VL9 vc9, .slice na9 NL9 nc9, .slice ma9 ML9 mc9], .slice sa9 SL9 sc9]) (by simp [results, Try.results6, go_sem, z0, z1, z2, z3, z4, z5, z6, z7, z8, z9, z10]) rfl ?_
    obtain ⟨t1, t2, t3⟩ := unhide TE _ (.inr rfl)
    rw [unhide ET]
    exact ⟨_, _, rfl, t1, t2, t3⟩
  have db := decide_eq_true hs
  have HRt := hide ((Rf.wrongN_ok x).1 hs)
  have CB2 : Hid (Calls Try.prog 24 #[.agg #[.int .i64 x.id, .int .i64 x.n, .int .i64 x.term, .int .i64 x.vote, .slice la LL lc, .int .i64 x.commit, .int .i64 x.role, .int .i64 x.boss, .slice va VL vc, .slice na NL nc, .slice ma ML mc]] w0 fun e w1 => ∃ p o, e = .returned (.tuple #[.pointer (some ⟨p, 0, none⟩), .bool true]) ∧ WK w0.heap.size w1 p x [] o ∧ Below w0.heap.size w0 w1) := hide (by have := unhide CB; unfold PB at this; rwa [db] at this)
  by_cases h3 : x.role = 3
  · have e3 : (x.role != 3) = false := by simpa using h3
    have ET : Hid (Rf.timeout x = (x, [])) := hide (by rw [Rf.timeout, if_pos (.inr (.inl h3))])
    clear hs h3
    go_wp2_with (go_at_call 24; refine (unhide CB2).mono ?_; rintro e w1 ⟨p, o, rfl, hK1, hb1⟩; clear c0 c1 c2 c3 c4 c5 c6 c7 c8 c9 c10; obtain ⟨la1, LL1, lc1, va1, VL1, vc1, na1, NL1, nc1, ma1, ML1, mc1, sa1, SL1, sc1, HE1, hLL1, hVL1, hNL1, hML1, hSL1, ⟨r1, r2, r3, r4⟩, ⟨c0, c1, c2, c3, c4, c5, c6, c7, c8, c9, c10, c11⟩, ⟨f0, f1, f2, f3, f4, f5, f6, f7, f8, f9, f10, f11⟩⟩ := (hK1).tell; have p1 := hK1.lo)
    have HK1 := hide hK1
    have HB1 := hide hb1
    clear hK1 hb1 CB CB2
    clear c0 c1 c2 c3 c4 c5 c6 c7 c8 c9 c10 c11 f0 f1 f2 f3 f4 f5 f6 f7 f8 f9 f10 f11 r1 r2 r3 r4 p1 HE1 hLL1 hVL1 hNL1 hML1 hSL1
    obtain ⟨la9, LL9, lc9, va9, VL9, vc9, na9, NL9, nc9, ma9, ML9, mc9, sa9, SL9, sc9, HE9, _, _, _, _, _, _, ⟨d0, d1, d2, d3, d4, d5, d6, d7, d8, d9, d10, d11⟩, ⟨_, _, _, _, _, _, _, _, _, _, _, _⟩⟩ := (unhide HK1).tell
    have p9 := (unhide HK1).lo
    have HZ9 := hide (show NX w1 r _ _ _ _ _ _ _ _ _ _ _ from ((unhide HB1).block r hrl).trans (unhide HZ0))
    obtain ⟨z0, z1, z2, z3, z4, z5, z6, z7, z8, z9, z10⟩ := (unhide HZ9).tell
    obtain ⟨y0, y1, y2, y3, y4, y5, y6, y7, y8, y9, y10⟩ := (unhide HZ9).thaw11
    have r9 := (unhide HZ9).low
    have hpr : p ≠ r := by have := (unhide HK1).low; omega
    have TE := hide (fun wF hw => told_end (P := P) (w := w) (w0 := w0) (wE := w1) (wF := wF) (r := r) (p := p) hw (unhide HB0) (by have := unhide hrw; omega) hrl rfl (unhide HK1) (unhide HB1))
    rw [(unhide HE9).1, (unhide HE9).2.1, (unhide HE9).2.2.1, (unhide HE9).2.2.2.1, (unhide HE9).2.2.2.2] at TE
    go_region
    go_wp2
    refine bodyPost_ret (v := .tuple #[.agg #[.int .i64 (x).id, .int .i64 (x).n, .int .i64 (x).term, .int .i64 (x).vote, .slice la9 LL9 lc9, .int .i64 (x).commit, .int .i64 (x).role, .int .i64 (x).boss, .slice va9 VL9 vc9, .slice na9 NL9 nc9, .slice ma9 ML9 mc9], .slice sa9 SL9 sc9]) (by simp [results, Try.results6, go_sem, z0, z1, z2, z3, z4, z5, z6, z7, z8, z9, z10]) rfl ?_
    obtain ⟨t1, t2, t3⟩ := unhide TE _ (.inr rfl)
    rw [unhide ET]
    exact ⟨_, _, rfl, t1, t2, t3⟩
  have e3 : (x.role != 3) = true := by simpa using h3
  by_cases h4 : x.term < 1000000
  rotate_left
  · have e4 : decide (x.term < 1000000) = false := decide_eq_false h4
    have ET : Hid (Rf.timeout x = (x, [])) := hide (by rw [Rf.timeout, if_pos (.inr (.inr (by have := (unhide HRt).term.2; omega)))])
    clear hs h3
    go_wp2_with (go_at_call 24; refine (unhide CB2).mono ?_; rintro e w1 ⟨p, o, rfl, hK1, hb1⟩; clear c0 c1 c2 c3 c4 c5 c6 c7 c8 c9 c10; obtain ⟨la1, LL1, lc1, va1, VL1, vc1, na1, NL1, nc1, ma1, ML1, mc1, sa1, SL1, sc1, HE1, hLL1, hVL1, hNL1, hML1, hSL1, ⟨r1, r2, r3, r4⟩, ⟨c0, c1, c2, c3, c4, c5, c6, c7, c8, c9, c10, c11⟩, ⟨f0, f1, f2, f3, f4, f5, f6, f7, f8, f9, f10, f11⟩⟩ := (hK1).tell; have p1 := hK1.lo)
    have HK1 := hide hK1
    have HB1 := hide hb1
    clear hK1 hb1 CB CB2
    clear c0 c1 c2 c3 c4 c5 c6 c7 c8 c9 c10 c11 f0 f1 f2 f3 f4 f5 f6 f7 f8 f9 f10 f11 r1 r2 r3 r4 p1 HE1 hLL1 hVL1 hNL1 hML1 hSL1
    obtain ⟨la9, LL9, lc9, va9, VL9, vc9, na9, NL9, nc9, ma9, ML9, mc9, sa9, SL9, sc9, HE9, _, _, _, _, _, _, ⟨d0, d1, d2, d3, d4, d5, d6, d7, d8, d9, d10, d11⟩, ⟨_, _, _, _, _, _, _, _, _, _, _, _⟩⟩ := (unhide HK1).tell
    have p9 := (unhide HK1).lo
    have HZ9 := hide (show NX w1 r _ _ _ _ _ _ _ _ _ _ _ from ((unhide HB1).block r hrl).trans (unhide HZ0))
    obtain ⟨z0, z1, z2, z3, z4, z5, z6, z7, z8, z9, z10⟩ := (unhide HZ9).tell
    obtain ⟨y0, y1, y2, y3, y4, y5, y6, y7, y8, y9, y10⟩ := (unhide HZ9).thaw11
    have r9 := (unhide HZ9).low
    have hpr : p ≠ r := by have := (unhide HK1).low; omega
    have TE := hide (fun wF hw => told_end (P := P) (w := w) (w0 := w0) (wE := w1) (wF := wF) (r := r) (p := p) hw (unhide HB0) (by have := unhide hrw; omega) hrl rfl (unhide HK1) (unhide HB1))
    rw [(unhide HE9).1, (unhide HE9).2.1, (unhide HE9).2.2.1, (unhide HE9).2.2.2.1, (unhide HE9).2.2.2.2] at TE
    go_region
    go_wp2
    refine bodyPost_ret (v := .tuple #[.agg #[.int .i64 (x).id, .int .i64 (x).n, .int .i64 (x).term, .int .i64 (x).vote, .slice la9 LL9 lc9, .int .i64 (x).commit, .int .i64 (x).role, .int .i64 (x).boss, .slice va9 VL9 vc9, .slice na9 NL9 nc9, .slice ma9 ML9 mc9], .slice sa9 SL9 sc9]) (by simp [results, Try.results6, go_sem, z0, z1, z2, z3, z4, z5, z6, z7, z8, z9, z10]) rfl ?_
    obtain ⟨t1, t2, t3⟩ := unhide TE _ (.inr rfl)
    rw [unhide ET]
    exact ⟨_, _, rfl, t1, t2, t3⟩
  have e4 : decide (x.term < 1000000) = true := decide_eq_true h4
  have ET0 : Rf.timeout x = ((Rf.elect (Rf.asks x)).1, (Rf.others (Rf.asks x)).map (Rf.voteMsg (Rf.asks x)) ++ (Rf.elect (Rf.asks x)).2) := by
    rw [Rf.timeout, if_neg]
    rintro (q | q | q)
    · exact q hs
    · exact h3 q
    · omega
  have CSt := hide (fun p o w1 (hk : WK w0.heap.size w1 p x [] o) => stand_any w0.heap.size p x o w1 hk (unhide HRt) h3 h4)
  obtain ⟨X, hX⟩ : ∃ z, z = (Rf.elect (Rf.asks x)).1 := ⟨_, rfl⟩
  obtain ⟨M, hM⟩ : ∃ z, z = (Rf.others (Rf.asks x)).map (Rf.voteMsg (Rf.asks x)) ++ (Rf.elect (Rf.asks x)).2 := ⟨_, rfl⟩
  rw [← hX, ← hM] at CSt ET0
  have ET := hide ET0
  clear ET0 hX hM hs h3
  go_wp2_with (go_at_call 24; refine (unhide CB2).mono ?_; rintro e w1 ⟨p, o, rfl, hK1, hb1⟩; clear c0 c1 c2 c3 c4 c5 c6 c7 c8 c9 c10; obtain ⟨la1, LL1, lc1, va1, VL1, vc1, na1, NL1, nc1, ma1, ML1, mc1, sa1, SL1, sc1, HE1, hLL1, hVL1, hNL1, hML1, hSL1, ⟨r1, r2, r3, r4⟩, ⟨c0, c1, c2, c3, c4, c5, c6, c7, c8, c9, c10, c11⟩, ⟨f0, f1, f2, f3, f4, f5, f6, f7, f8, f9, f10, f11⟩⟩ := (hK1).tell; have p1 := hK1.lo)
  have HK1 := hide hK1
  have HB1 := hide hb1
  clear hK1 hb1 CB CB2
  have CS := hide (unhide CSt p o w1 (unhide HK1))
  go_wp2_with (go_at_call 25; refine (unhide CS).mono ?_; rintro e w2 ⟨rfl, o2, hK2, hF2⟩)
  have HK2 := hide hK2
  have HB2 := hide ((unhide HB1).trans hF2.bel)
  clear hK2 hF2 CS
  clear c0 c1 c2 c3 c4 c5 c6 c7 c8 c9 c10 c11 f0 f1 f2 f3 f4 f5 f6 f7 f8 f9 f10 f11 r1 r2 r3 r4 p1 HE1 hLL1 hVL1 hNL1 hML1 hSL1
  obtain ⟨la9, LL9, lc9, va9, VL9, vc9, na9, NL9, nc9, ma9, ML9, mc9, sa9, SL9, sc9, HE9, _, _, _, _, _, _, ⟨d0, d1, d2, d3, d4, d5, d6, d7, d8, d9, d10, d11⟩, ⟨_, _, _, _, _, _, _, _, _, _, _, _⟩⟩ := (unhide HK2).tell
  have p9 := (unhide HK2).lo
  have HZ9 := hide (show NX w2 r _ _ _ _ _ _ _ _ _ _ _ from ((unhide HB2).block r hrl).trans (unhide HZ0))
  obtain ⟨z0, z1, z2, z3, z4, z5, z6, z7, z8, z9, z10⟩ := (unhide HZ9).tell
  obtain ⟨y0, y1, y2, y3, y4, y5, y6, y7, y8, y9, y10⟩ := (unhide HZ9).thaw11
  have r9 := (unhide HZ9).low
  have hpr : p ≠ r := by have := (unhide HK2).low; omega
  have TE := hide (fun wF hw => told_end (P := P) (w := w) (w0 := w0) (wE := w2) (wF := wF) (r := r) (p := p) hw (unhide HB0) (by have := unhide hrw; omega) hrl rfl (unhide HK2) (unhide HB2))
  rw [(unhide HE9).1, (unhide HE9).2.1, (unhide HE9).2.2.1, (unhide HE9).2.2.2.1, (unhide HE9).2.2.2.2] at TE
  go_region
  go_wp2
  refine bodyPost_ret (v := .tuple #[.agg #[.int .i64 (X).id, .int .i64 (X).n, .int .i64 (X).term, .int .i64 (X).vote, .slice la9 LL9 lc9, .int .i64 (X).commit, .int .i64 (X).role, .int .i64 (X).boss, .slice va9 VL9 vc9, .slice na9 NL9 nc9, .slice ma9 ML9 mc9], .slice sa9 SL9 sc9]) (by simp [results, Try.results6, go_sem, z0, z1, z2, z3, z4, z5, z6, z7, z8, z9, z10]) rfl ?_
  obtain ⟨t1, t2, t3⟩ := unhide TE _ (.inr rfl)
  rw [unhide ET]
  exact ⟨_, _, rfl, t1, t2, t3⟩

set_option maxHeartbeats 8000000 in
set_option maxRecDepth 100000 in
theorem beat_any (P : Nat → Prop) (x : Rf.Node) (v : Array Value) (w : World) (hv : NV P w v x) (hP : ∀ b, P b → b < w.heap.size) (hfit : FitN x) : Calls Try.prog 10 #[.agg v] w (PNM P w (Rf.beat x)) := by
  obtain ⟨lv, vv, nv, mv, rfl, h2, h3, h4, h5⟩ := hv
  obtain ⟨la, LL, lc, rfl, hLL, _, _⟩ := SC.shp h2
  obtain ⟨va, VL, vc, rfl, hVL, _, _⟩ := SC.shp h3
  obtain ⟨na, NL, nc, rfl, hNL, _, _⟩ := SC.shp h4
  obtain ⟨ma, ML, mc, rfl, hML, _, _⟩ := SC.shp h5
  have HV : Hid (NV P w #[.int .i64 x.id, .int .i64 x.n, .int .i64 x.term, .int .i64 x.vote, .slice la LL lc, .int .i64 x.commit, .int .i64 x.role, .int .i64 x.boss, .slice va VL vc, .slice na NL nc, .slice ma ML mc] x) := hide ⟨_, _, _, _, rfl, h2, h3, h4, h5⟩
  have HP := hide hP
  have HFt := hide hfit
  clear h2 h3 h4 h5 hP hfit
  have HB0 : Hid (Below w.heap.size w (((w.alloc (.cells #[.int .i64 x.id, .int .i64 x.n, .int .i64 x.term, .int .i64 x.vote, .slice la LL lc, .int .i64 x.commit, .int .i64 x.role, .int .i64 x.boss, .slice va VL vc, .slice na NL nc, .slice ma ML mc] 25)).alloc (.cells #[.int .i64 0, .int .i64 0, .int .i64 0, .int .i64 0, .slice none 0 0, .int .i64 0, .int .i64 0, .int .i64 0, .slice none 0 0, .slice none 0 0, .slice none 0 0] 25)))) := hide ((below_new w _).alloc (by simp) _)
  have HC0 : Hid (BK ((w.alloc (.cells #[.int .i64 x.id, .int .i64 x.n, .int .i64 x.term, .int .i64 x.vote, .slice la LL lc, .int .i64 x.commit, .int .i64 x.role, .int .i64 x.boss, .slice va VL vc, .slice na NL nc, .slice ma ML mc] 25)).alloc (.cells #[.int .i64 0, .int .i64 0, .int .i64 0, .int .i64 0, .slice none 0 0, .int .i64 0, .int .i64 0, .int .i64 0, .slice none 0 0, .slice none 0 0, .slice none 0 0] 25)) w.heap.size 25 #[.int .i64 x.id, .int .i64 x.n, .int .i64 x.term, .int .i64 x.vote, .slice la LL lc, .int .i64 x.commit, .int .i64 x.role, .int .i64 x.boss, .slice va VL vc, .slice na NL nc, .slice ma ML mc]) := hide ((BK.new w 25 #[.int .i64 x.id, .int .i64 x.n, .int .i64 x.term, .int .i64 x.vote, .slice la LL lc, .int .i64 x.commit, .int .i64 x.role, .int .i64 x.boss, .slice va VL vc, .slice na NL nc, .slice ma ML mc]).keep (below_new _ _))
  have HZ0 : Hid (BK ((w.alloc (.cells #[.int .i64 x.id, .int .i64 x.n, .int .i64 x.term, .int .i64 x.vote, .slice la LL lc, .int .i64 x.commit, .int .i64 x.role, .int .i64 x.boss, .slice va VL vc, .slice na NL nc, .slice ma ML mc] 25)).alloc (.cells #[.int .i64 0, .int .i64 0, .int .i64 0, .int .i64 0, .slice none 0 0, .int .i64 0, .int .i64 0, .int .i64 0, .slice none 0 0, .slice none 0 0, .slice none 0 0] 25)) (w.heap.size + 1) 25 #[.int .i64 0, .int .i64 0, .int .i64 0, .int .i64 0, .slice none 0 0, .int .i64 0, .int .i64 0, .int .i64 0, .slice none 0 0, .slice none 0 0, .slice none 0 0]) := hide (by
    have := BK.new (w.alloc (.cells #[.int .i64 x.id, .int .i64 x.n, .int .i64 x.term, .int .i64 x.vote, .slice la LL lc, .int .i64 x.commit, .int .i64 x.role, .int .i64 x.boss, .slice va VL vc, .slice na NL nc, .slice ma ML mc] 25)) 25 #[.int .i64 0, .int .i64 0, .int .i64 0, .int .i64 0, .slice none 0 0, .int .i64 0, .int .i64 0, .int .i64 0, .slice none 0 0, .slice none 0 0, .slice none 0 0]
    rwa [show (w.alloc (.cells #[.int .i64 x.id, .int .i64 x.n, .int .i64 x.term, .int .i64 x.vote, .slice la LL lc, .int .i64 x.commit, .int .i64 x.role, .int .i64 x.boss, .slice va VL vc, .slice na NL nc, .slice ma ML mc] 25)).heap.size = w.heap.size + 1 by simp] at this)
  go_enter Try.func10, Try.ntmps10
  go_upto_region 1 with fail
  generalize (w.alloc (.cells #[.int .i64 x.id, .int .i64 x.n, .int .i64 x.term, .int .i64 x.vote, .slice la LL lc, .int .i64 x.commit, .int .i64 x.role, .int .i64 x.boss, .slice va VL vc, .slice na NL nc, .slice ma ML mc] 25)).alloc (.cells #[.int .i64 0, .int .i64 0, .int .i64 0, .int .i64 0, .slice none 0 0, .int .i64 0, .int .i64 0, .int .i64 0, .slice none 0 0, .slice none 0 0, .slice none 0 0] 25) = w0 at HB0 HC0 HZ0 ⊢
  obtain ⟨c0, c1, c2, c3, c4, c5, c6, c7, c8, c9, c10⟩ := (show NX w0 w.heap.size _ _ _ _ _ _ _ _ _ _ _ from unhide HC0).tell
  have CB := hide (begin_any x _ w0 (NV.keep (fun b hb => ⟨Nat.lt_of_lt_of_le (unhide HP b hb) (unhide HB0).size, (unhide HB0).block b (unhide HP b hb)⟩) (unhide HV)) (unhide HFt))
  have hrl := (unhide HZ0).low
  have hrw : Hid (w.heap.size ≤ w.heap.size + 1) := hide (by omega)
  generalize hrr : w.heap.size + 1 = r at HZ0 hrl hrw ⊢
  clear hrr
  by_cases hs : Rf.wrongN x = 0
  rotate_left
  · have db := decide_eq_false hs
    have ET : Hid (Rf.beat x = (x, [])) := hide (by rw [Rf.beat, if_pos (.inl hs)])
    clear hs
    have CB2 : Hid (Calls Try.prog 24 #[.agg #[.int .i64 x.id, .int .i64 x.n, .int .i64 x.term, .int .i64 x.vote, .slice la LL lc, .int .i64 x.commit, .int .i64 x.role, .int .i64 x.boss, .slice va VL vc, .slice na NL nc, .slice ma ML mc]] w0 fun e w1 => ∃ p o, e = .returned (.tuple #[.pointer (some ⟨p, 0, none⟩), .bool false]) ∧ WK w0.heap.size w1 p x [] o ∧ Below w0.heap.size w0 w1) := hide (by have := unhide CB; unfold PB at this; rwa [db] at this)
    go_wp2_with (go_at_call 24; refine (unhide CB2).mono ?_; rintro e w1 ⟨p, o, rfl, hK1, hb1⟩; clear c0 c1 c2 c3 c4 c5 c6 c7 c8 c9 c10; obtain ⟨la1, LL1, lc1, va1, VL1, vc1, na1, NL1, nc1, ma1, ML1, mc1, sa1, SL1, sc1, HE1, hLL1, hVL1, hNL1, hML1, hSL1, ⟨r1, r2, r3, r4⟩, ⟨c0, c1, c2, c3, c4, c5, c6, c7, c8, c9, c10, c11⟩, ⟨f0, f1, f2, f3, f4, f5, f6, f7, f8, f9, f10, f11⟩⟩ := (hK1).tell; have p1 := hK1.lo)
    have HK1 := hide hK1
    have HB1 := hide hb1
    clear hK1 hb1 CB CB2
    clear c0 c1 c2 c3 c4 c5 c6 c7 c8 c9 c10 c11 f0 f1 f2 f3 f4 f5 f6 f7 f8 f9 f10 f11 r1 r2 r3 r4 p1 HE1 hLL1 hVL1 hNL1 hML1 hSL1
    obtain ⟨la9, LL9, lc9, va9, VL9, vc9, na9, NL9, nc9, ma9, ML9, mc9, sa9, SL9, sc9, HE9, _, _, _, _, _, _, ⟨d0, d1, d2, d3, d4, d5, d6, d7, d8, d9, d10, d11⟩, ⟨_, _, _, _, _, _, _, _, _, _, _, _⟩⟩ := (unhide HK1).tell
    have p9 := (unhide HK1).lo
    have HZ9 := hide (show NX w1 r _ _ _ _ _ _ _ _ _ _ _ from ((unhide HB1).block r hrl).trans (unhide HZ0))
    obtain ⟨z0, z1, z2, z3, z4, z5, z6, z7, z8, z9, z10⟩ := (unhide HZ9).tell
    obtain ⟨y0, y1, y2, y3, y4, y5, y6, y7, y8, y9, y10⟩ := (unhide HZ9).thaw11
    have r9 := (unhide HZ9).low
    have hpr : p ≠ r := by have := (unhide HK1).low; omega
    have TE := hide (fun wF hw => told_end (P := P) (w := w) (w0 := w0) (wE := w1) (wF := wF) (r := r) (p := p) hw (unhide HB0) (by have := unhide hrw; omega) hrl rfl (unhide HK1) (unhide HB1))
    rw [(unhide HE9).1, (unhide HE9).2.1, (unhide HE9).2.2.1, (unhide HE9).2.2.2.1, (unhide HE9).2.2.2.2] at TE
    go_region
    go_wp2
    refine bodyPost_ret (v := .tuple #[.agg #[.int .i64 (x).id, .int .i64 (x).n, .int .i64 (x).term, .int .i64 (x).vote, .slice la9 LL9 lc9, .int .i64 (x).commit, .int .i64 (x).role, .int .i64 (x).boss, .slice va9 VL9 vc9, .slice na9 NL9 nc9, .slice ma9 ML9 mc9], .slice sa9 SL9 sc9]) (by simp [results, Try.results10, go_sem, z0, z1, z2, z3, z4, z5, z6, z7, z8, z9, z10]) rfl ?_
    obtain ⟨t1, t2, t3⟩ := unhide TE _ (.inr rfl)
    rw [unhide ET]
    exact ⟨_, _, rfl, t1, t2, t3⟩
  have db := decide_eq_true hs
  have HRt := hide ((Rf.wrongN_ok x).1 hs)
  have CB2 : Hid (Calls Try.prog 24 #[.agg #[.int .i64 x.id, .int .i64 x.n, .int .i64 x.term, .int .i64 x.vote, .slice la LL lc, .int .i64 x.commit, .int .i64 x.role, .int .i64 x.boss, .slice va VL vc, .slice na NL nc, .slice ma ML mc]] w0 fun e w1 => ∃ p o, e = .returned (.tuple #[.pointer (some ⟨p, 0, none⟩), .bool true]) ∧ WK w0.heap.size w1 p x [] o ∧ Below w0.heap.size w0 w1) := hide (by have := unhide CB; unfold PB at this; rwa [db] at this)
  by_cases h3 : x.role = 3
  rotate_left
  · have e3 : (x.role == 3) = false := by simpa using h3
    have ET : Hid (Rf.beat x = (x, [])) := hide (by rw [Rf.beat, if_pos (.inr h3)])
    clear hs h3
    go_wp2_with (go_at_call 24; refine (unhide CB2).mono ?_; rintro e w1 ⟨p, o, rfl, hK1, hb1⟩; clear c0 c1 c2 c3 c4 c5 c6 c7 c8 c9 c10; obtain ⟨la1, LL1, lc1, va1, VL1, vc1, na1, NL1, nc1, ma1, ML1, mc1, sa1, SL1, sc1, HE1, hLL1, hVL1, hNL1, hML1, hSL1, ⟨r1, r2, r3, r4⟩, ⟨c0, c1, c2, c3, c4, c5, c6, c7, c8, c9, c10, c11⟩, ⟨f0, f1, f2, f3, f4, f5, f6, f7, f8, f9, f10, f11⟩⟩ := (hK1).tell; have p1 := hK1.lo)
    have HK1 := hide hK1
    have HB1 := hide hb1
    clear hK1 hb1 CB CB2
    clear c0 c1 c2 c3 c4 c5 c6 c7 c8 c9 c10 c11 f0 f1 f2 f3 f4 f5 f6 f7 f8 f9 f10 f11 r1 r2 r3 r4 p1 HE1 hLL1 hVL1 hNL1 hML1 hSL1
    obtain ⟨la9, LL9, lc9, va9, VL9, vc9, na9, NL9, nc9, ma9, ML9, mc9, sa9, SL9, sc9, HE9, _, _, _, _, _, _, ⟨d0, d1, d2, d3, d4, d5, d6, d7, d8, d9, d10, d11⟩, ⟨_, _, _, _, _, _, _, _, _, _, _, _⟩⟩ := (unhide HK1).tell
    have p9 := (unhide HK1).lo
    have HZ9 := hide (show NX w1 r _ _ _ _ _ _ _ _ _ _ _ from ((unhide HB1).block r hrl).trans (unhide HZ0))
    obtain ⟨z0, z1, z2, z3, z4, z5, z6, z7, z8, z9, z10⟩ := (unhide HZ9).tell
    obtain ⟨y0, y1, y2, y3, y4, y5, y6, y7, y8, y9, y10⟩ := (unhide HZ9).thaw11
    have r9 := (unhide HZ9).low
    have hpr : p ≠ r := by have := (unhide HK1).low; omega
    have TE := hide (fun wF hw => told_end (P := P) (w := w) (w0 := w0) (wE := w1) (wF := wF) (r := r) (p := p) hw (unhide HB0) (by have := unhide hrw; omega) hrl rfl (unhide HK1) (unhide HB1))
    rw [(unhide HE9).1, (unhide HE9).2.1, (unhide HE9).2.2.1, (unhide HE9).2.2.2.1, (unhide HE9).2.2.2.2] at TE
    go_region
    go_wp2
    refine bodyPost_ret (v := .tuple #[.agg #[.int .i64 (x).id, .int .i64 (x).n, .int .i64 (x).term, .int .i64 (x).vote, .slice la9 LL9 lc9, .int .i64 (x).commit, .int .i64 (x).role, .int .i64 (x).boss, .slice va9 VL9 vc9, .slice na9 NL9 nc9, .slice ma9 ML9 mc9], .slice sa9 SL9 sc9]) (by simp [results, Try.results10, go_sem, z0, z1, z2, z3, z4, z5, z6, z7, z8, z9, z10]) rfl ?_
    obtain ⟨t1, t2, t3⟩ := unhide TE _ (.inr rfl)
    rw [unhide ET]
    exact ⟨_, _, rfl, t1, t2, t3⟩
  have e3 : (x.role == 3) = true := by simpa using h3
  have ET : Hid (Rf.beat x = (x, Rf.batches x)) := hide (by rw [Rf.beat, if_neg]; rintro (q | q); exact q hs; exact q h3)
  have hln := (unhide HRt).lens
  rw [Rf.lensOk, if_pos h3] at hln
  have CSt := hide (fun p o w1 (hk : WK w0.heap.size w1 p x [] o) => others_send w0.heap.size p x [] o w1 hk (by simp) (unhide HRt).n.1 (unhide HRt).n.2 (unhide HRt).log hln.1 (unhide HRt).places.1)
  clear hs h3 hln
  go_wp2_with (go_at_call 24; refine (unhide CB2).mono ?_; rintro e w1 ⟨p, o, rfl, hK1, hb1⟩; clear c0 c1 c2 c3 c4 c5 c6 c7 c8 c9 c10; obtain ⟨la1, LL1, lc1, va1, VL1, vc1, na1, NL1, nc1, ma1, ML1, mc1, sa1, SL1, sc1, HE1, hLL1, hVL1, hNL1, hML1, hSL1, ⟨r1, r2, r3, r4⟩, ⟨c0, c1, c2, c3, c4, c5, c6, c7, c8, c9, c10, c11⟩, ⟨f0, f1, f2, f3, f4, f5, f6, f7, f8, f9, f10, f11⟩⟩ := (hK1).tell; have p1 := hK1.lo)
  have HK1 := hide hK1
  have HB1 := hide hb1
  clear hK1 hb1 CB CB2
  have CS := hide (unhide CSt p o w1 (unhide HK1))
  rw [List.nil_append] at CS
  go_wp2_with (go_at_call 30; refine (unhide CS).mono ?_; rintro e w2 ⟨rfl, s2, cs2, hK2, hF2⟩)
  have HK2 := hide hK2
  have HB2 := hide ((unhide HB1).trans hF2.bel)
  clear hK2 hF2 CS
  clear c0 c1 c2 c3 c4 c5 c6 c7 c8 c9 c10 c11 f0 f1 f2 f3 f4 f5 f6 f7 f8 f9 f10 f11 r1 r2 r3 r4 p1 HE1 hLL1 hVL1 hNL1 hML1 hSL1
  obtain ⟨la9, LL9, lc9, va9, VL9, vc9, na9, NL9, nc9, ma9, ML9, mc9, sa9, SL9, sc9, HE9, _, _, _, _, _, _, ⟨d0, d1, d2, d3, d4, d5, d6, d7, d8, d9, d10, d11⟩, ⟨_, _, _, _, _, _, _, _, _, _, _, _⟩⟩ := (unhide HK2).tell
  have p9 := (unhide HK2).lo
  have HZ9 := hide (show NX w2 r _ _ _ _ _ _ _ _ _ _ _ from ((unhide HB2).block r hrl).trans (unhide HZ0))
  obtain ⟨z0, z1, z2, z3, z4, z5, z6, z7, z8, z9, z10⟩ := (unhide HZ9).tell
  obtain ⟨y0, y1, y2, y3, y4, y5, y6, y7, y8, y9, y10⟩ := (unhide HZ9).thaw11
  have r9 := (unhide HZ9).low
  have hpr : p ≠ r := by have := (unhide HK2).low; omega
  have TE := hide (fun wF hw => told_end (P := P) (w := w) (w0 := w0) (wE := w2) (wF := wF) (r := r) (p := p) hw (unhide HB0) (by have := unhide hrw; omega) hrl rfl (unhide HK2) (unhide HB2))
  rw [(unhide HE9).1, (unhide HE9).2.1, (unhide HE9).2.2.1, (unhide HE9).2.2.2.1, (unhide HE9).2.2.2.2] at TE
  go_region
  go_wp2
  refine bodyPost_ret (v := .tuple #[.agg #[.int .i64 (x).id, .int .i64 (x).n, .int .i64 (x).term, .int .i64 (x).vote, .slice la9 LL9 lc9, .int .i64 (x).commit, .int .i64 (x).role, .int .i64 (x).boss, .slice va9 VL9 vc9, .slice na9 NL9 nc9, .slice ma9 ML9 mc9], .slice sa9 SL9 sc9]) (by simp [results, Try.results10, go_sem, z0, z1, z2, z3, z4, z5, z6, z7, z8, z9, z10]) rfl ?_
  obtain ⟨t1, t2, t3⟩ := unhide TE _ (.inr rfl)
  rw [unhide ET]
  exact ⟨_, _, rfl, t1, t2, t3⟩

set_option maxHeartbeats 8000000 in
set_option maxRecDepth 100000 in
theorem restart_any (P : Nat → Prop) (x : Rf.Node) (v : Array Value) (w : World) (hv : NV P w v x) (hP : ∀ b, P b → b < w.heap.size) (hfit : FitN x) : Calls Try.prog 14 #[.agg v] w (PN P w (Rf.restart x)) := by
  obtain ⟨lv, vv, nv, mv, rfl, h2, h3, h4, h5⟩ := hv
  obtain ⟨la, LL, lc, rfl, hLL, _, _⟩ := SC.shp h2
  obtain ⟨va, VL, vc, rfl, hVL, _, _⟩ := SC.shp h3
  obtain ⟨na, NL, nc, rfl, hNL, _, _⟩ := SC.shp h4
  obtain ⟨ma, ML, mc, rfl, hML, _, _⟩ := SC.shp h5
  have HV : Hid (NV P w #[.int .i64 x.id, .int .i64 x.n, .int .i64 x.term, .int .i64 x.vote, .slice la LL lc, .int .i64 x.commit, .int .i64 x.role, .int .i64 x.boss, .slice va VL vc, .slice na NL nc, .slice ma ML mc] x) := hide ⟨_, _, _, _, rfl, h2, h3, h4, h5⟩
  have HP := hide hP
  have HFt := hide hfit
  clear h2 h3 h4 h5 hP hfit
  have HB0 : Hid (Below w.heap.size w (((w.alloc (.cells #[.int .i64 x.id, .int .i64 x.n, .int .i64 x.term, .int .i64 x.vote, .slice la LL lc, .int .i64 x.commit, .int .i64 x.role, .int .i64 x.boss, .slice va VL vc, .slice na NL nc, .slice ma ML mc] 25)).alloc (.cells #[.int .i64 0, .int .i64 0, .int .i64 0, .int .i64 0, .slice none 0 0, .int .i64 0, .int .i64 0, .int .i64 0, .slice none 0 0, .slice none 0 0, .slice none 0 0] 25)))) := hide ((below_new w _).alloc (by simp) _)
  have HC0 : Hid (BK ((w.alloc (.cells #[.int .i64 x.id, .int .i64 x.n, .int .i64 x.term, .int .i64 x.vote, .slice la LL lc, .int .i64 x.commit, .int .i64 x.role, .int .i64 x.boss, .slice va VL vc, .slice na NL nc, .slice ma ML mc] 25)).alloc (.cells #[.int .i64 0, .int .i64 0, .int .i64 0, .int .i64 0, .slice none 0 0, .int .i64 0, .int .i64 0, .int .i64 0, .slice none 0 0, .slice none 0 0, .slice none 0 0] 25)) w.heap.size 25 #[.int .i64 x.id, .int .i64 x.n, .int .i64 x.term, .int .i64 x.vote, .slice la LL lc, .int .i64 x.commit, .int .i64 x.role, .int .i64 x.boss, .slice va VL vc, .slice na NL nc, .slice ma ML mc]) := hide ((BK.new w 25 #[.int .i64 x.id, .int .i64 x.n, .int .i64 x.term, .int .i64 x.vote, .slice la LL lc, .int .i64 x.commit, .int .i64 x.role, .int .i64 x.boss, .slice va VL vc, .slice na NL nc, .slice ma ML mc]).keep (below_new _ _))
  have HZ0 : Hid (BK ((w.alloc (.cells #[.int .i64 x.id, .int .i64 x.n, .int .i64 x.term, .int .i64 x.vote, .slice la LL lc, .int .i64 x.commit, .int .i64 x.role, .int .i64 x.boss, .slice va VL vc, .slice na NL nc, .slice ma ML mc] 25)).alloc (.cells #[.int .i64 0, .int .i64 0, .int .i64 0, .int .i64 0, .slice none 0 0, .int .i64 0, .int .i64 0, .int .i64 0, .slice none 0 0, .slice none 0 0, .slice none 0 0] 25)) (w.heap.size + 1) 25 #[.int .i64 0, .int .i64 0, .int .i64 0, .int .i64 0, .slice none 0 0, .int .i64 0, .int .i64 0, .int .i64 0, .slice none 0 0, .slice none 0 0, .slice none 0 0]) := hide (by
    have := BK.new (w.alloc (.cells #[.int .i64 x.id, .int .i64 x.n, .int .i64 x.term, .int .i64 x.vote, .slice la LL lc, .int .i64 x.commit, .int .i64 x.role, .int .i64 x.boss, .slice va VL vc, .slice na NL nc, .slice ma ML mc] 25)) 25 #[.int .i64 0, .int .i64 0, .int .i64 0, .int .i64 0, .slice none 0 0, .int .i64 0, .int .i64 0, .int .i64 0, .slice none 0 0, .slice none 0 0, .slice none 0 0]
    rwa [show (w.alloc (.cells #[.int .i64 x.id, .int .i64 x.n, .int .i64 x.term, .int .i64 x.vote, .slice la LL lc, .int .i64 x.commit, .int .i64 x.role, .int .i64 x.boss, .slice va VL vc, .slice na NL nc, .slice ma ML mc] 25)).heap.size = w.heap.size + 1 by simp] at this)
  go_enter Try.func14, Try.ntmps14
  go_upto_region 1 with fail
  generalize (w.alloc (.cells #[.int .i64 x.id, .int .i64 x.n, .int .i64 x.term, .int .i64 x.vote, .slice la LL lc, .int .i64 x.commit, .int .i64 x.role, .int .i64 x.boss, .slice va VL vc, .slice na NL nc, .slice ma ML mc] 25)).alloc (.cells #[.int .i64 0, .int .i64 0, .int .i64 0, .int .i64 0, .slice none 0 0, .int .i64 0, .int .i64 0, .int .i64 0, .slice none 0 0, .slice none 0 0, .slice none 0 0] 25) = w0 at HB0 HC0 HZ0 ⊢
  obtain ⟨c0, c1, c2, c3, c4, c5, c6, c7, c8, c9, c10⟩ := (show NX w0 w.heap.size _ _ _ _ _ _ _ _ _ _ _ from unhide HC0).tell
  have CB := hide (begin_any x _ w0 (NV.keep (fun b hb => ⟨Nat.lt_of_lt_of_le (unhide HP b hb) (unhide HB0).size, (unhide HB0).block b (unhide HP b hb)⟩) (unhide HV)) (unhide HFt))
  have hrl := (unhide HZ0).low
  have hrw : Hid (w.heap.size ≤ w.heap.size + 1) := hide (by omega)
  generalize hrr : w.heap.size + 1 = r at HZ0 hrl hrw ⊢
  clear hrr
  by_cases hs : Rf.wrongN x = 0
  rotate_left
  · have db := decide_eq_false hs
    have ET : Hid (Rf.restart x = x) := hide (by rw [Rf.restart, if_pos hs])
    clear hs
    have CB2 : Hid (Calls Try.prog 24 #[.agg #[.int .i64 x.id, .int .i64 x.n, .int .i64 x.term, .int .i64 x.vote, .slice la LL lc, .int .i64 x.commit, .int .i64 x.role, .int .i64 x.boss, .slice va VL vc, .slice na NL nc, .slice ma ML mc]] w0 fun e w1 => ∃ p o, e = .returned (.tuple #[.pointer (some ⟨p, 0, none⟩), .bool false]) ∧ WK w0.heap.size w1 p x [] o ∧ Below w0.heap.size w0 w1) := hide (by have := unhide CB; unfold PB at this; rwa [db] at this)
    go_upto_region 5 with (go_at_call 24; refine (unhide CB2).mono ?_; rintro e w1 ⟨p, o, rfl, hK1, hb1⟩; clear c0 c1 c2 c3 c4 c5 c6 c7 c8 c9 c10; obtain ⟨la1, LL1, lc1, va1, VL1, vc1, na1, NL1, nc1, ma1, ML1, mc1, sa1, SL1, sc1, HE1, hLL1, hVL1, hNL1, hML1, hSL1, ⟨r1, r2, r3, r4⟩, ⟨c0, c1, c2, c3, c4, c5, c6, c7, c8, c9, c10, c11⟩, ⟨f0, f1, f2, f3, f4, f5, f6, f7, f8, f9, f10, f11⟩⟩ := (hK1).tell; have p1 := hK1.lo)
    have HK1 := hide hK1
    have HB1 := hide hb1
    clear hK1 hb1 CB CB2
    clear c0 c1 c2 c3 c4 c5 c6 c7 c8 c9 c10 c11 f0 f1 f2 f3 f4 f5 f6 f7 f8 f9 f10 f11 r1 r2 r3 r4 p1 HE1 hLL1 hVL1 hNL1 hML1 hSL1
    obtain ⟨la9, LL9, lc9, va9, VL9, vc9, na9, NL9, nc9, ma9, ML9, mc9, sa9, SL9, sc9, HE9, _, _, _, _, _, _, ⟨d0, d1, d2, d3, d4, d5, d6, d7, d8, d9, d10, d11⟩, ⟨_, _, _, _, _, _, _, _, _, _, _, _⟩⟩ := (unhide HK1).tell
    have p9 := (unhide HK1).lo
    have HZ9 := hide (show NX w1 r _ _ _ _ _ _ _ _ _ _ _ from ((unhide HB1).block r hrl).trans (unhide HZ0))
    obtain ⟨z0, z1, z2, z3, z4, z5, z6, z7, z8, z9, z10⟩ := (unhide HZ9).tell
    obtain ⟨y0, y1, y2, y3, y4, y5, y6, y7, y8, y9, y10⟩ := (unhide HZ9).thaw11
    have r9 := (unhide HZ9).low
    have hpr : p ≠ r := by have := (unhide HK1).low; omega
    have TE := hide (fun wF hw => told_end (P := P) (w := w) (w0 := w0) (wE := w1) (wF := wF) (r := r) (p := p) hw (unhide HB0) (by have := unhide hrw; omega) hrl rfl (unhide HK1) (unhide HB1))
    rw [(unhide HE9).1, (unhide HE9).2.1, (unhide HE9).2.2.1, (unhide HE9).2.2.2.1, (unhide HE9).2.2.2.2] at TE
    go_wp2
    refine bodyPost_ret (v := .agg #[.int .i64 (x).id, .int .i64 (x).n, .int .i64 (x).term, .int .i64 (x).vote, .slice la9 LL9 lc9, .int .i64 (x).commit, .int .i64 (x).role, .int .i64 (x).boss, .slice va9 VL9 vc9, .slice na9 NL9 nc9, .slice ma9 ML9 mc9]) (by simp [results, Try.results14, go_sem, z0, z1, z2, z3, z4, z5, z6, z7, z8, z9, z10]) rfl ?_
    obtain ⟨t1, t2, t3⟩ := unhide TE _ (.inl rfl)
    rw [unhide ET]
    exact ⟨_, rfl, t1, t3⟩
  have db := decide_eq_true hs
  have CB2 : Hid (Calls Try.prog 24 #[.agg #[.int .i64 x.id, .int .i64 x.n, .int .i64 x.term, .int .i64 x.vote, .slice la LL lc, .int .i64 x.commit, .int .i64 x.role, .int .i64 x.boss, .slice va VL vc, .slice na NL nc, .slice ma ML mc]] w0 fun e w1 => ∃ p o, e = .returned (.tuple #[.pointer (some ⟨p, 0, none⟩), .bool true]) ∧ WK w0.heap.size w1 p x [] o ∧ Below w0.heap.size w0 w1) := hide (by have := unhide CB; unfold PB at this; rwa [db] at this)
  have ET : Hid (Rf.restart x = { Rf.follow x 0 with commit := 0 }) := hide (by rw [Rf.restart, if_neg (by rw [hs]; simp)])
  clear hs
  go_wp2_with (go_at_call 24; refine (unhide CB2).mono ?_; rintro e w1 ⟨p, o, rfl, hK1, hb1⟩; clear c0 c1 c2 c3 c4 c5 c6 c7 c8 c9 c10; obtain ⟨la1, LL1, lc1, va1, VL1, vc1, na1, NL1, nc1, ma1, ML1, mc1, sa1, SL1, sc1, HE1, hLL1, hVL1, hNL1, hML1, hSL1, ⟨r1, r2, r3, r4⟩, ⟨c0, c1, c2, c3, c4, c5, c6, c7, c8, c9, c10, c11⟩, ⟨f0, f1, f2, f3, f4, f5, f6, f7, f8, f9, f10, f11⟩⟩ := (hK1).tell; have p1 := hK1.lo)
  have HK1 := hide hK1
  have HB1 := hide hb1
  clear hK1 hb1 CB CB2
  have CF := hide (follow_any w0.heap.size p x [] o 0 w1 (unhide HK1))
  clear c0 c1 c2 c3 c4 c5 c6 c7 c8 c9 c10 c11 f0 f1 f2 f3 f4 f5 f6 f7 f8 f9 f10 f11 r1 r2 r3 r4 p1 HE1 hLL1 hVL1 hNL1 hML1 hSL1
  go_upto_region 4 with (go_at_call 35; refine (unhide CF).mono ?_; rintro e w2 ⟨rfl, o2, hK2, hF2⟩)
  have k5 : w2.cell? ⟨p, 5, none⟩ = some (.int .i64 x.commit) := hK2.blk.at (j := 5) rfl
  have y5' := hK2.blk.thaw 5
  have p2 := hK2.lo
  have HK3 := hide (hK2.cell (x' := { Rf.follow x 0 with commit := 0 }) 5 (.int .i64 0) ⟨rfl, rfl, rfl, rfl⟩ rfl)
  have HB3 := hide (((unhide HB1).trans hF2.bel).trans (hK2.cellFr 5 (.int .i64 0)).bel)
  clear hK2 hF2 CF
  go_upto_region 5 with fail
  generalize World.setCell w2 ⟨p, 5, none⟩ (.int .i64 0) = w3 at HK3 HB3 ⊢
  obtain ⟨X, hX⟩ : ∃ z : Rf.Node, z = { Rf.follow x 0 with commit := 0 } := ⟨_, rfl⟩
  rw [← hX] at HK3 ET
  clear hX k5 y5' p2
  obtain ⟨la9, LL9, lc9, va9, VL9, vc9, na9, NL9, nc9, ma9, ML9, mc9, sa9, SL9, sc9, HE9, _, _, _, _, _, _, ⟨d0, d1, d2, d3, d4, d5, d6, d7, d8, d9, d10, d11⟩, ⟨_, _, _, _, _, _, _, _, _, _, _, _⟩⟩ := (unhide HK3).tell
  have p9 := (unhide HK3).lo
  have HZ9 := hide (show NX w3 r _ _ _ _ _ _ _ _ _ _ _ from ((unhide HB3).block r hrl).trans (unhide HZ0))
  obtain ⟨z0, z1, z2, z3, z4, z5, z6, z7, z8, z9, z10⟩ := (unhide HZ9).tell
  obtain ⟨y0, y1, y2, y3, y4, y5, y6, y7, y8, y9, y10⟩ := (unhide HZ9).thaw11
  have r9 := (unhide HZ9).low
  have hpr : p ≠ r := by have := (unhide HK3).low; omega
  have TE := hide (fun wF hw => told_end (P := P) (w := w) (w0 := w0) (wE := w3) (wF := wF) (r := r) (p := p) hw (unhide HB0) (by have := unhide hrw; omega) hrl rfl (unhide HK3) (unhide HB3))
  rw [(unhide HE9).1, (unhide HE9).2.1, (unhide HE9).2.2.1, (unhide HE9).2.2.2.1, (unhide HE9).2.2.2.2] at TE
  go_wp2
  refine bodyPost_ret (v := .agg #[.int .i64 (X).id, .int .i64 (X).n, .int .i64 (X).term, .int .i64 (X).vote, .slice la9 LL9 lc9, .int .i64 (X).commit, .int .i64 (X).role, .int .i64 (X).boss, .slice va9 VL9 vc9, .slice na9 NL9 nc9, .slice ma9 ML9 mc9]) (by simp [results, Try.results14, go_sem, z0, z1, z2, z3, z4, z5, z6, z7, z8, z9, z10]) rfl ?_
  obtain ⟨t1, t2, t3⟩ := unhide TE _ (.inl rfl)
  rw [unhide ET]
  exact ⟨_, rfl, t1, t3⟩

end Go.Proofs.Ytiplnegiphhdlaa.RW
