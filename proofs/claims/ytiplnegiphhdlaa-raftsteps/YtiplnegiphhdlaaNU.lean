/- Walks: Propose (raft). Written by gen_nu.py. -/
import Derived.Test.YtiplnegiphhdlaaNT
namespace Go.Proofs.Ytiplnegiphhdlaa.RW
open Go.RowKit

set_option maxHeartbeats 8000000 in
set_option maxRecDepth 100000 in
theorem propose_any (P : Nat → Prop) (x : Rf.Node) (v : Array Value) (cmd : Int) (w : World) (hv : NV P w v x) (hP : ∀ b, P b → b < w.heap.size) (hfit : FitN x) : Calls Try.prog 12 #[.agg v, .int .i64 cmd] w (PNMB P w (Rf.propose x cmd)) := by
  obtain ⟨lv, vv, nv, mv, rfl, h2, h3, h4, h5⟩ := hv
  obtain ⟨la, LL, lc, rfl, hLL, _, _⟩ := SC.shp h2
  obtain ⟨va, VL, vc, rfl, hVL, _, _⟩ := SC.shp h3
  obtain ⟨na, NL, nc, rfl, hNL, _, _⟩ := SC.shp h4
  obtain ⟨ma, ML, mc, rfl, hML, _, _⟩ := SC.shp h5
  have HV : Hid (NV P w #[.int .i64 x.id, .int .i64 x.n, .int .i64 x.term, .int .i64 x.vote, .slice la LL lc, .int .i64 x.commit, .int .i64 x.role, .int .i64 x.boss, .slice va VL vc, .slice na NL nc, .slice ma ML mc] x) := hide ⟨_, _, _, _, rfl, h2, h3, h4, h5⟩
  have HP := hide hP
  have HFt := hide hfit
  clear h2 h3 h4 h5 hP hfit
  have HB0 : Hid (Below w.heap.size w (((w.alloc (.cells #[.int .i64 x.id, .int .i64 x.n, .int .i64 x.term, .int .i64 x.vote, .slice la LL lc, .int .i64 x.commit, .int .i64 x.role, .int .i64 x.boss, .slice va VL vc, .slice na NL nc, .slice ma ML mc] 25)).alloc (.cells #[.int .i64 0, .int .i64 0, .int .i64 0, .int .i64 0, .slice none 0 0, .int .i64 0, .int .i64 0, .int .i64 0, .slice none 0 0, .slice none 0 0, .slice none 0 0] 25)))) := hide ((below_new w _).alloc (by simp) _)
  have HC0 : Hid (BK ((w.alloc (.cells #[.int .i64 x.id, .int .i64 x.n, .int .i64 x.term, .int .i64 x.vote, .slice la LL lc, .int .i64 x.commit, .int .i64 x.role, .int .i64 x.boss, .slice va VL vc, .slice na NL nc, .slice ma ML mc] 25)).alloc (.cells #[.int .i64 0, .int .i64 0, .int .i64 0, .int .i64 0, .slice none 0 0, .int .i64 0, .int .i64 0, .int .i64 0, .slice none 0 0, .slice none 0 0, .slice none 0 0] 25)) w.heap.size 25 #[.int .i64 x.id, .int .i64 x.n, .int .i64 x.term, .int .i64 x.vote, .slice la LL lc, .int .i64 x.commit, .int .i64 x.role, .int .i64 x.boss, .slice va VL vc, .slice na NL nc, .slice ma ML mc]) := hide ((BK.new w 25 #[.int .i64 x.id, .int .i64 x.n, .int .i64 x.term, .int .i64 x.vote, .slice la LL lc, .int .i64 x.commit, .int .i64 x.role, .int .i64 x.boss, .slice va VL vc, .slice na NL nc, .slice ma ML mc]).keep (below_new _ _))
  have HZ0 : Hid (BK ((w.alloc (.cells #[.int .i64 x.id, .int .i64 x.n, .int .i64 x.term, .int .i64 x.vote, .slice la LL lc, .int .i64 x.commit, .int .i64 x.role, .int .i64 x.boss, .slice va VL vc, .slice na NL nc, .slice ma ML mc] 25)).alloc (.cells #[.int .i64 0, .int .i64 0, .int .i64 0, .int .i64 0, .slice none 0 0, .int .i64 0, .int .i64 0, .int .i64 0, .slice none 0 0, .slice none 0 0, .slice none 0 0] 25)) (w.heap.size + 1) 25 #[.int .i64 0, .int .i64 0, .int .i64 0, .int .i64 0, .slice none 0 0, .int .i64 0, .int .i64 0, .int .i64 0, .slice none 0 0, .slice none 0 0, .slice none 0 0]) := hide (by
    have := BK.new (w.alloc (.cells #[.int .i64 x.id, .int .i64 x.n, .int .i64 x.term, .int .i64 x.vote, .slice la LL lc, .int .i64 x.commit, .int .i64 x.role, .int .i64 x.boss, .slice va VL vc, .slice na NL nc, .slice ma ML mc] 25)) 25 #[.int .i64 0, .int .i64 0, .int .i64 0, .int .i64 0, .slice none 0 0, .int .i64 0, .int .i64 0, .int .i64 0, .slice none 0 0, .slice none 0 0, .slice none 0 0]
    rwa [show (w.alloc (.cells #[.int .i64 x.id, .int .i64 x.n, .int .i64 x.term, .int .i64 x.vote, .slice la LL lc, .int .i64 x.commit, .int .i64 x.role, .int .i64 x.boss, .slice va VL vc, .slice na NL nc, .slice ma ML mc] 25)).heap.size = w.heap.size + 1 by simp] at this)
  go_enter Try.func12, Try.ntmps12
  go_upto_region 1 with fail
  generalize (w.alloc (.cells #[.int .i64 x.id, .int .i64 x.n, .int .i64 x.term, .int .i64 x.vote, .slice la LL lc, .int .i64 x.commit, .int .i64 x.role, .int .i64 x.boss, .slice va VL vc, .slice na NL nc, .slice ma ML mc] 25)).alloc (.cells #[.int .i64 0, .int .i64 0, .int .i64 0, .int .i64 0, .slice none 0 0, .int .i64 0, .int .i64 0, .int .i64 0, .slice none 0 0, .slice none 0 0, .slice none 0 0] 25) = w0 at HB0 HC0 HZ0 ⊢
  obtain ⟨c0, c1, c2, c3, c4, c5, c6, c7, c8, c9, c10⟩ := (show NX w0 w.heap.size _ _ _ _ _ _ _ _ _ _ _ from unhide HC0).tell
  have CB := hide (begin_any x _ w0 (NV.keep (fun b hb => ⟨Nat.lt_of_lt_of_le (unhide HP b hb) (unhide HB0).size, (unhide HB0).block b (unhide HP b hb)⟩) (unhide HV)) (unhide HFt))
  have hrl := (unhide HZ0).low
  have hrw : Hid (w.heap.size ≤ w.heap.size + 1) := hide (by omega)
  generalize hrr : w.heap.size + 1 = r at HZ0 hrl hrw ⊢
  clear hrr
  by_cases hs : Rf.wrongN x = 0
  rotate_left
  · have db := decide_eq_false hs
    have ET : Hid (Rf.propose x cmd = (x, [], false)) := hide (by rw [Rf.propose, if_pos (.inl hs)])
    clear hs
    have LLfact : ∀ L : Nat, L = x.log.length → True := fun _ _ => trivial
    have CB2 : Hid (Calls Try.prog 24 #[.agg #[.int .i64 x.id, .int .i64 x.n, .int .i64 x.term, .int .i64 x.vote, .slice la LL lc, .int .i64 x.commit, .int .i64 x.role, .int .i64 x.boss, .slice va VL vc, .slice na NL nc, .slice ma ML mc]] w0 fun e w1 => ∃ p o, e = .returned (.tuple #[.pointer (some ⟨p, 0, none⟩), .bool false]) ∧ WK w0.heap.size w1 p x [] o ∧ Below w0.heap.size w0 w1) := hide (by have := unhide CB; unfold PB at this; rwa [db] at this)
    go_upto_region 3 with (go_at_call 24; refine (unhide CB2).mono ?_; rintro e w1 ⟨p, o, rfl, hK1, hb1⟩; clear c0 c1 c2 c3 c4 c5 c6 c7 c8 c9 c10; obtain ⟨la1, LL1, lc1, va1, VL1, vc1, na1, NL1, nc1, ma1, ML1, mc1, sa1, SL1, sc1, HE1, hLL1, hVL1, hNL1, hML1, hSL1, ⟨r1, r2, r3, r4⟩, ⟨c0, c1, c2, c3, c4, c5, c6, c7, c8, c9, c10, c11⟩, ⟨f0, f1, f2, f3, f4, f5, f6, f7, f8, f9, f10, f11⟩⟩ := (hK1).tell; have p1 := hK1.lo; have hl1 := LLfact _ (unhide hLL1))
    have HK1 := hide hK1
    have HB1 := hide hb1
    clear hK1 hb1 CB CB2
    clear hl1 LLfact c0 c1 c2 c3 c4 c5 c6 c7 c8 c9 c10 c11 f0 f1 f2 f3 f4 f5 f6 f7 f8 f9 f10 f11 r1 r2 r3 r4 p1 HE1 hLL1 hVL1 hNL1 hML1 hSL1
    obtain ⟨la9, LL9, lc9, va9, VL9, vc9, na9, NL9, nc9, ma9, ML9, mc9, sa9, SL9, sc9, HE9, _, _, _, _, _, _, ⟨d0, d1, d2, d3, d4, d5, d6, d7, d8, d9, d10, d11⟩, ⟨_, _, _, _, _, _, _, _, _, _, _, _⟩⟩ := (unhide HK1).tell
    have p9 := (unhide HK1).lo
    have HZ9 := hide (show NX w1 r _ _ _ _ _ _ _ _ _ _ _ from ((unhide HB1).block r hrl).trans (unhide HZ0))
    obtain ⟨z0, z1, z2, z3, z4, z5, z6, z7, z8, z9, z10⟩ := (unhide HZ9).tell
    obtain ⟨y0, y1, y2, y3, y4, y5, y6, y7, y8, y9, y10⟩ := (unhide HZ9).thaw11
    have r9 := (unhide HZ9).low
    have hpr : p ≠ r := by have := (unhide HK1).low; omega
    have TE := hide (fun wF hw => told_end (P := P) (w := w) (w0 := w0) (wE := w1) (wF := wF) (r := r) (p := p) hw (unhide HB0) (by have := unhide hrw; omega) hrl rfl (unhide HK1) (unhide HB1))
    rw [(unhide HE9).1, (unhide HE9).2.1, (unhide HE9).2.2.1, (unhide HE9).2.2.2.1, (unhide HE9).2.2.2.2] at TE
    go_wp2
    refine bodyPost_ret (v := .tuple #[.agg #[.int .i64 (x).id, .int .i64 (x).n, .int .i64 (x).term, .int .i64 (x).vote, .slice la9 LL9 lc9, .int .i64 (x).commit, .int .i64 (x).role, .int .i64 (x).boss, .slice va9 VL9 vc9, .slice na9 NL9 nc9, .slice ma9 ML9 mc9], .slice none 0 0, .bool false]) (by simp [results, Try.results12, go_sem, z0, z1, z2, z3, z4, z5, z6, z7, z8, z9, z10]) rfl ?_
    obtain ⟨t1, t2, t3⟩ := unhide TE _ (.inl rfl)
    rw [unhide ET]
    exact ⟨_, _, rfl, t1, MV.nil _ _, t3⟩
  have db := decide_eq_true hs
  have HRt := hide ((Rf.wrongN_ok x).1 hs)
  have CB2 : Hid (Calls Try.prog 24 #[.agg #[.int .i64 x.id, .int .i64 x.n, .int .i64 x.term, .int .i64 x.vote, .slice la LL lc, .int .i64 x.commit, .int .i64 x.role, .int .i64 x.boss, .slice va VL vc, .slice na NL nc, .slice ma ML mc]] w0 fun e w1 => ∃ p o, e = .returned (.tuple #[.pointer (some ⟨p, 0, none⟩), .bool true]) ∧ WK w0.heap.size w1 p x [] o ∧ Below w0.heap.size w0 w1) := hide (by have := unhide CB; unfold PB at this; rwa [db] at this)
  by_cases h3 : x.role = 3
  rotate_left
  · have e3 : (x.role != 3) = true := by simpa using h3
    have ET : Hid (Rf.propose x cmd = (x, [], false)) := hide (by rw [Rf.propose, if_pos (.inr (.inl h3))])
    clear hs h3
    have LLfact : ∀ L : Nat, L = x.log.length → True := fun _ _ => trivial
    go_upto_region 3 with (go_at_call 24; refine (unhide CB2).mono ?_; rintro e w1 ⟨p, o, rfl, hK1, hb1⟩; clear c0 c1 c2 c3 c4 c5 c6 c7 c8 c9 c10; obtain ⟨la1, LL1, lc1, va1, VL1, vc1, na1, NL1, nc1, ma1, ML1, mc1, sa1, SL1, sc1, HE1, hLL1, hVL1, hNL1, hML1, hSL1, ⟨r1, r2, r3, r4⟩, ⟨c0, c1, c2, c3, c4, c5, c6, c7, c8, c9, c10, c11⟩, ⟨f0, f1, f2, f3, f4, f5, f6, f7, f8, f9, f10, f11⟩⟩ := (hK1).tell; have p1 := hK1.lo; have hl1 := LLfact _ (unhide hLL1))
    have HK1 := hide hK1
    have HB1 := hide hb1
    clear hK1 hb1 CB CB2
    clear hl1 LLfact c0 c1 c2 c3 c4 c5 c6 c7 c8 c9 c10 c11 f0 f1 f2 f3 f4 f5 f6 f7 f8 f9 f10 f11 r1 r2 r3 r4 p1 HE1 hLL1 hVL1 hNL1 hML1 hSL1
    obtain ⟨la9, LL9, lc9, va9, VL9, vc9, na9, NL9, nc9, ma9, ML9, mc9, sa9, SL9, sc9, HE9, _, _, _, _, _, _, ⟨d0, d1, d2, d3, d4, d5, d6, d7, d8, d9, d10, d11⟩, ⟨_, _, _, _, _, _, _, _, _, _, _, _⟩⟩ := (unhide HK1).tell
    have p9 := (unhide HK1).lo
    have HZ9 := hide (show NX w1 r _ _ _ _ _ _ _ _ _ _ _ from ((unhide HB1).block r hrl).trans (unhide HZ0))
    obtain ⟨z0, z1, z2, z3, z4, z5, z6, z7, z8, z9, z10⟩ := (unhide HZ9).tell
    obtain ⟨y0, y1, y2, y3, y4, y5, y6, y7, y8, y9, y10⟩ := (unhide HZ9).thaw11
    have r9 := (unhide HZ9).low
    have hpr : p ≠ r := by have := (unhide HK1).low; omega
    have TE := hide (fun wF hw => told_end (P := P) (w := w) (w0 := w0) (wE := w1) (wF := wF) (r := r) (p := p) hw (unhide HB0) (by have := unhide hrw; omega) hrl rfl (unhide HK1) (unhide HB1))
    rw [(unhide HE9).1, (unhide HE9).2.1, (unhide HE9).2.2.1, (unhide HE9).2.2.2.1, (unhide HE9).2.2.2.2] at TE
    go_wp2
    refine bodyPost_ret (v := .tuple #[.agg #[.int .i64 (x).id, .int .i64 (x).n, .int .i64 (x).term, .int .i64 (x).vote, .slice la9 LL9 lc9, .int .i64 (x).commit, .int .i64 (x).role, .int .i64 (x).boss, .slice va9 VL9 vc9, .slice na9 NL9 nc9, .slice ma9 ML9 mc9], .slice none 0 0, .bool false]) (by simp [results, Try.results12, go_sem, z0, z1, z2, z3, z4, z5, z6, z7, z8, z9, z10]) rfl ?_
    obtain ⟨t1, t2, t3⟩ := unhide TE _ (.inl rfl)
    rw [unhide ET]
    exact ⟨_, _, rfl, t1, MV.nil _ _, t3⟩
  have e3 : (x.role != 3) = false := by simpa using h3
  by_cases h4 : 60 ≤ x.log.length
  · have LLfact : ∀ L : Nat, L = x.log.length → (decide ((60 : Int) ≤ (L : Int)) = true ∧ decide (60 ≤ L) = true) := fun L hL => ⟨decide_eq_true (by omega), decide_eq_true (by omega)⟩
    have ET : Hid (Rf.propose x cmd = (x, [], false)) := hide (by rw [Rf.propose, if_pos (.inr (.inr h4))])
    clear hs h3 h4
    go_upto_region 3 with (go_at_call 24; refine (unhide CB2).mono ?_; rintro e w1 ⟨p, o, rfl, hK1, hb1⟩; clear c0 c1 c2 c3 c4 c5 c6 c7 c8 c9 c10; obtain ⟨la1, LL1, lc1, va1, VL1, vc1, na1, NL1, nc1, ma1, ML1, mc1, sa1, SL1, sc1, HE1, hLL1, hVL1, hNL1, hML1, hSL1, ⟨r1, r2, r3, r4⟩, ⟨c0, c1, c2, c3, c4, c5, c6, c7, c8, c9, c10, c11⟩, ⟨f0, f1, f2, f3, f4, f5, f6, f7, f8, f9, f10, f11⟩⟩ := (hK1).tell; have p1 := hK1.lo; obtain ⟨hl1, hl2⟩ := LLfact _ (unhide hLL1))
    have HK1 := hide hK1
    have HB1 := hide hb1
    clear hK1 hb1 CB CB2
    clear hl1 hl2 LLfact c0 c1 c2 c3 c4 c5 c6 c7 c8 c9 c10 c11 f0 f1 f2 f3 f4 f5 f6 f7 f8 f9 f10 f11 r1 r2 r3 r4 p1 HE1 hLL1 hVL1 hNL1 hML1 hSL1
    obtain ⟨la9, LL9, lc9, va9, VL9, vc9, na9, NL9, nc9, ma9, ML9, mc9, sa9, SL9, sc9, HE9, _, _, _, _, _, _, ⟨d0, d1, d2, d3, d4, d5, d6, d7, d8, d9, d10, d11⟩, ⟨_, _, _, _, _, _, _, _, _, _, _, _⟩⟩ := (unhide HK1).tell
    have p9 := (unhide HK1).lo
    have HZ9 := hide (show NX w1 r _ _ _ _ _ _ _ _ _ _ _ from ((unhide HB1).block r hrl).trans (unhide HZ0))
    obtain ⟨z0, z1, z2, z3, z4, z5, z6, z7, z8, z9, z10⟩ := (unhide HZ9).tell
    obtain ⟨y0, y1, y2, y3, y4, y5, y6, y7, y8, y9, y10⟩ := (unhide HZ9).thaw11
    have r9 := (unhide HZ9).low
    have hpr : p ≠ r := by have := (unhide HK1).low; omega
    have TE := hide (fun wF hw => told_end (P := P) (w := w) (w0 := w0) (wE := w1) (wF := wF) (r := r) (p := p) hw (unhide HB0) (by have := unhide hrw; omega) hrl rfl (unhide HK1) (unhide HB1))
    rw [(unhide HE9).1, (unhide HE9).2.1, (unhide HE9).2.2.1, (unhide HE9).2.2.2.1, (unhide HE9).2.2.2.2] at TE
    go_wp2
    refine bodyPost_ret (v := .tuple #[.agg #[.int .i64 (x).id, .int .i64 (x).n, .int .i64 (x).term, .int .i64 (x).vote, .slice la9 LL9 lc9, .int .i64 (x).commit, .int .i64 (x).role, .int .i64 (x).boss, .slice va9 VL9 vc9, .slice na9 NL9 nc9, .slice ma9 ML9 mc9], .slice none 0 0, .bool false]) (by simp [results, Try.results12, go_sem, z0, z1, z2, z3, z4, z5, z6, z7, z8, z9, z10]) rfl ?_
    obtain ⟨t1, t2, t3⟩ := unhide TE _ (.inl rfl)
    rw [unhide ET]
    exact ⟨_, _, rfl, t1, MV.nil _ _, t3⟩
  have LLfact : ∀ L : Nat, L = x.log.length → (decide ((60 : Int) ≤ (L : Int)) = false ∧ decide (60 ≤ L) = false) := fun L hL => ⟨decide_eq_false (by omega), decide_eq_false (by omega)⟩
  have ET0 : Rf.propose x cmd = ((Rf.put x cmd).1, (Rf.put x cmd).2, true) := by
    rw [Rf.propose, if_neg]
    rintro (q | q | q)
    · exact q hs
    · exact q h3
    · exact h4 q
  have CSt := hide (fun p o w1 (hk : WK w0.heap.size w1 p x [] o) => put_any w0.heap.size p x [] o cmd w1 hk (unhide HRt) h3 (by simp))
  obtain ⟨X, hX⟩ : ∃ z, z = (Rf.put x cmd).1 := ⟨_, rfl⟩
  obtain ⟨M, hM⟩ : ∃ z, z = (Rf.put x cmd).2 := ⟨_, rfl⟩
  rw [← hX, ← hM] at CSt ET0
  have ET := hide ET0
  clear ET0 hX hM hs h3 h4
  go_upto_region 4 with (go_at_call 24; refine (unhide CB2).mono ?_; rintro e w1 ⟨p, o, rfl, hK1, hb1⟩; clear c0 c1 c2 c3 c4 c5 c6 c7 c8 c9 c10; obtain ⟨la1, LL1, lc1, va1, VL1, vc1, na1, NL1, nc1, ma1, ML1, mc1, sa1, SL1, sc1, HE1, hLL1, hVL1, hNL1, hML1, hSL1, ⟨r1, r2, r3, r4⟩, ⟨c0, c1, c2, c3, c4, c5, c6, c7, c8, c9, c10, c11⟩, ⟨f0, f1, f2, f3, f4, f5, f6, f7, f8, f9, f10, f11⟩⟩ := (hK1).tell; have p1 := hK1.lo; obtain ⟨hl1, hl2⟩ := LLfact _ (unhide hLL1))
  have HK1 := hide hK1
  have HB1 := hide hb1
  clear hK1 hb1 CB CB2
  have CS := hide (unhide CSt p o w1 (unhide HK1))
  rw [List.nil_append] at CS
  go_wp2_with (go_at_call 33; refine (unhide CS).mono ?_; rintro e w2 ⟨rfl, o2, hK2, hF2⟩)
  have HK2 := hide hK2
  have HB2 := hide ((unhide HB1).trans hF2.bel)
  clear hK2 hF2 CS hl1 hl2 LLfact
  clear c0 c1 c2 c3 c4 c5 c6 c7 c8 c9 c10 c11 f0 f1 f2 f3 f4 f5 f6 f7 f8 f9 f10 f11 r1 r2 r3 r4 p1 HE1 hLL1 hVL1 hNL1 hML1 hSL1
  obtain ⟨la9, LL9, lc9, va9, VL9, vc9, na9, NL9, nc9, ma9, ML9, mc9, sa9, SL9, sc9, HE9, _, _, _, _, _, _, ⟨d0, d1, d2, d3, d4, d5, d6, d7, d8, d9, d10, d11⟩, ⟨_, _, _, _, _, _, _, _, _, _, _, _⟩⟩ := (unhide HK2).tell
  have p9 := (unhide HK2).lo
  have HZ9 := hide (show NX w2 r _ _ _ _ _ _ _ _ _ _ _ from ((unhide HB2).block r hrl).trans (unhide HZ0))
  obtain ⟨z0, z1, z2, z3, z4, z5, z6, z7, z8, z9, z10⟩ := (unhide HZ9).tell
  obtain ⟨y0, y1, y2, y3, y4, y5, y6, y7, y8, y9, y10⟩ := (unhide HZ9).thaw11
  have r9 := (unhide HZ9).low
  have hpr : p ≠ r := by have := (unhide HK2).low; omega
  have TE := hide (fun wF hw => told_end (P := P) (w := w) (w0 := w0) (wE := w2) (wF := wF) (r := r) (p := p) hw (unhide HB0) (by have := unhide hrw; omega) hrl rfl (unhide HK2) (unhide HB2))
  rw [(unhide HE9).1, (unhide HE9).2.1, (unhide HE9).2.2.1, (unhide HE9).2.2.2.1, (unhide HE9).2.2.2.2] at TE
  go_region
  go_wp2
  refine bodyPost_ret (v := .tuple #[.agg #[.int .i64 (X).id, .int .i64 (X).n, .int .i64 (X).term, .int .i64 (X).vote, .slice la9 LL9 lc9, .int .i64 (X).commit, .int .i64 (X).role, .int .i64 (X).boss, .slice va9 VL9 vc9, .slice na9 NL9 nc9, .slice ma9 ML9 mc9], .slice sa9 SL9 sc9, .bool true]) (by simp [results, Try.results12, go_sem, z0, z1, z2, z3, z4, z5, z6, z7, z8, z9, z10]) rfl ?_
  obtain ⟨t1, t2, t3⟩ := unhide TE _ (.inr rfl)
  rw [unhide ET]
  exact ⟨_, _, rfl, t1, t2, t3⟩

end Go.Proofs.Ytiplnegiphhdlaa.RW
