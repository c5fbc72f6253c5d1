/- Walks: take (raft). Written by gen_nr.py. -/
import Derived.Test.YtneepoaimbnneaaNL
namespace Go.Proofs.Ytneepoaimbnneaa.RW
open Go.RowKit

set_option maxHeartbeats 8000000 in
set_option maxRecDepth 100000 in
theorem take_any (B p : Nat) (x : Rf.Node) (o : Own) (m : Rf.Msg) (g : Array Value) (w : World) (hk : WK B w p x [] o) (hg : GV (· < B) w g m) (hR : Rf.Right x) (hi : Rf.inB m.index 0 60) (hlen : m.index + (m.items.length : Int) ≤ 60) (hrs : ∀ y ∈ m.items, 1 ≤ y.1) :
    Calls Try.prog 54 #[.pointer (some ⟨p, 0, none⟩), .agg g] w (PW B p o w (Rf.onAppend x m).1 (Rf.onAppend x m).2) := by
  obtain ⟨iv, rfl, hit⟩ := hg
  obtain ⟨ia, IL, ic, rfl, hIL, hic, _⟩ := SC.shp hit
  have HK := hide hk
  have HIT := hide hit
  have HX := hide (BK.new w 40 #[.int .i64 m.kind, .int .i64 m.frm, .int .i64 m.dest, .int .i64 m.term, .int .i64 m.index, .int .i64 m.logTerm, .int .i64 m.commit, .slice ia IL ic, .bool m.yes])
  have HBn := hide (below_new w (.cells #[.int .i64 m.kind, .int .i64 m.frm, .int .i64 m.dest, .int .i64 m.term, .int .i64 m.index, .int .i64 m.logTerm, .int .i64 m.commit, .slice ia IL ic, .bool m.yes] 40))
  have HFb : Hid (Free p o w.heap.size) := hide (hk.newFree (Nat.le_refl _))
  obtain ⟨idx, hidx⟩ : ∃ idx : Nat, m.index = (idx : Int) := ⟨m.index.toNat, by have := hi.1; omega⟩
  have HIx := hide hidx
  have hb60 : (idx : Int) ≤ 60 := by have := hi.2; omega
  have hIL60 : Hid (idx + m.items.length ≤ 60) := hide (by omega)
  have hIL2 : idx + IL ≤ 60 := by have := unhide hIL; omega
  have HL := hide hR.log
  have HRs := hide hrs
  have ex1 : IntKind.i64.wrap ((idx : Int) - 1) = (idx : Int) - 1 := wrap_i64 (by omega) (by omega)
  have ex2 : IntKind.i64.wrap ((idx : Int) + (IL : Int)) = (idx : Int) + (IL : Int) := wrap_i64 (by omega) (by omega)
  clear hk hit hi hlen hrs hidx hR
  go_enter Try.func54, Try.ntmps54
  go_upto_region 1 with fail
  generalize w.alloc (.cells #[.int .i64 m.kind, .int .i64 m.frm, .int .i64 m.dest, .int .i64 m.term, .int .i64 m.index, .int .i64 m.logTerm, .int .i64 m.commit, .slice ia IL ic, .bool m.yes] 40) = w1 at HX HBn ⊢
  have HK1 := hide ((unhide HK).below (unhide HBn))
  have HF1 := hide (Fr.below (p := p) (o := o) (unhide HBn) (unhide HK).szB)
  generalize hbx : w.heap.size = bx at HX HFb ⊢
  clear hbx
  obtain ⟨la, LL, lc, va, VL, vc, na, NL, nc, ma, ML, mc, sa, SL, sc, HE, hLL, hVL, hNL, hML, hSL, ⟨r1, r2, r3, r4⟩, ⟨c0, c1, c2, c3, c4, c5, c6, c7, c8, c9, c10, c11⟩, ⟨f0, f1, f2, f3, f4, f5, f6, f7, f8, f9, f10, f11⟩⟩ := (unhide HK1).tell
  obtain ⟨g0, g1, g2, g3, g4, g5, g6, g7, g8⟩ := (show GX w1 bx _ _ _ _ _ _ _ _ _ from unhide HX).tell
  have hp := (unhide HK1).lo
  have hbl := (unhide HX).low
  have ESplit : Hid ((m.term ≠ x.term ∨ x.role = 3) → Rf.onAppend x m = (x, [{ kind := 4, frm := x.id, dest := m.frm, term := x.term, index := (LL : Int), logTerm := 0, commit := 0, items := [], yes := false }])) := hide (fun q => by rw [Rf.onAppend, if_pos q, Rf.back, unhide hLL])
  by_cases t1 : m.term = x.term
  rotate_left
  · have e1 : (m.term != x.term) = true := by simpa using t1
    have EO := hide (unhide ESplit (.inl t1))
    clear t1 ESplit
    go_quiet (fail)
    go_upto_region 2 with fail
    have HKq := hide ((unhide HK1).drewN nq)
    have HFq := hide ((unhide HF1).drewN nq)
    have q1 : (w1.drewN nq).cell? ⟨bx, 1, none⟩ = some (.int .i64 m.frm) := g1
    have q4 : (w1.drewN nq).cell? ⟨p, 4, none⟩ = some (.slice la LL lc) := c4
    have q5 : p < (w1.drewN nq).heap.size := hp
    generalize w1.drewN nq = wq at HKq HFq q1 q4 q5 ⊢
    have CA := hide (appended_any B p x [] o m.frm (LL : Int) false wq.drew (unhide HKq).drew (by simp))
    go_region_with ((go_at_call 68; refine (unhide CA).mono ?_; rintro e w2 ⟨rfl, s2, cs2, hK2, hF2⟩))
    all_goals
      have FIN := hide (And.intro hK2 ((unhide HFq).drew.trans hF2))
      clear hK2 hF2 CA
      go_wp2
      ((try simp only [Exit.inBlock, Exit.then]); refine bodyPost_ret (results_none rfl _ _ _) rfl ?_)
      rw [unhide EO]
      exact ⟨rfl, _, (unhide FIN).1, (unhide FIN).2⟩
  have e1 : (m.term != x.term) = false := by simpa using t1
  by_cases t2 : x.role = 3
  · have e2 : (x.role == 3) = true := by simpa using t2
    have EO := hide (unhide ESplit (.inr t2))
    clear t1 t2 ESplit
    go_quiet (fail)
    go_upto_region 2 with fail
    have HKq := hide ((unhide HK1).drewN nq)
    have HFq := hide ((unhide HF1).drewN nq)
    have q1 : (w1.drewN nq).cell? ⟨bx, 1, none⟩ = some (.int .i64 m.frm) := g1
    have q4 : (w1.drewN nq).cell? ⟨p, 4, none⟩ = some (.slice la LL lc) := c4
    have q5 : p < (w1.drewN nq).heap.size := hp
    generalize w1.drewN nq = wq at HKq HFq q1 q4 q5 ⊢
    have CA := hide (appended_any B p x [] o m.frm (LL : Int) false wq.drew (unhide HKq).drew (by simp))
    go_region_with ((go_at_call 68; refine (unhide CA).mono ?_; rintro e w2 ⟨rfl, s2, cs2, hK2, hF2⟩))
    all_goals
      have FIN := hide (And.intro hK2 ((unhide HFq).drew.trans hF2))
      clear hK2 hF2 CA
      go_wp2
      ((try simp only [Exit.inBlock, Exit.then]); refine bodyPost_ret (results_none rfl _ _ _) rfl ?_)
      rw [unhide EO]
      exact ⟨rfl, _, (unhide FIN).1, (unhide FIN).2⟩
  have e2 : (x.role == 3) = false := by simpa using t2
  have HNo : Hid (¬ (m.term ≠ x.term ∨ x.role = 3)) := hide (fun q => q.elim (fun q => q t1) t2)
  clear t1 t2 ESplit
  go_quiet (fail)
  go_upto_region 3 with fail
  have HK2 := hide ((unhide HK1).drewN nq)
  have HF2 := hide ((unhide HF1).drewN nq)
  have HX2 : Hid (BK (w1.drewN nq) bx 40 #[.int .i64 m.kind, .int .i64 m.frm, .int .i64 m.dest, .int .i64 m.term, .int .i64 m.index, .int .i64 m.logTerm, .int .i64 m.commit, .slice ia IL ic, .bool m.yes]) := HX
  generalize w1.drewN nq = w2 at HK2 HF2 HX2 ⊢
  clear HE hLL hVL hNL hML hSL hp hbl HK1 HF1 HX g0 g1 g2 g3 g4 g5 g6 g7 g8 c0 c1 c2 c3 c4 c5 c6 c7 c8 c9 c10 c11 f0 f1 f2 f3 f4 f5 f6 f7 f8 f9 f10 f11 r1 r2 r3 r4
  have CF := hide (follow_any B p x [] o m.frm w2 (unhide HK2))
  obtain ⟨g0, g1, g2, g3, g4, g5, g6, g7, g8⟩ := (show GX w2 bx _ _ _ _ _ _ _ _ _ from unhide HX2).tell
  go_wp2_with (go_at_call 41; refine (unhide CF).mono ?_; rintro e w3 ⟨rfl, o3, hK3, hF3⟩)
  have HK3 := hide hK3
  have HF3 := hide ((unhide HF2).trans hF3)
  have HX3 := hide (hF3.bk (unhide HX2) (unhide HFb))
  have HFb3 := hide (hF3.free (unhide HX2).low (unhide HFb))
  clear hK3 hF3 CF g0 g1 g2 g3 g4 g5 g6 g7 g8
  obtain ⟨la, LL, lc, va, VL, vc, na, NL, nc, ma, ML, mc, sa, SL, sc, HE, hLL, hVL, hNL, hML, hSL, ⟨r1, r2, r3, r4⟩, ⟨c0, c1, c2, c3, c4, c5, c6, c7, c8, c9, c10, c11⟩, ⟨f0, f1, f2, f3, f4, f5, f6, f7, f8, f9, f10, f11⟩⟩ := (unhide HK3).tell
  obtain ⟨g0, g1, g2, g3, g4, g5, g6, g7, g8⟩ := (show GX w3 bx _ _ _ _ _ _ _ _ _ from unhide HX3).tell
  have g4' : w3.cell? ⟨bx, 4, none⟩ = some (.int .i64 (idx : Int)) := g4.trans (by rw [unhide HIx])
  clear g4
  have hp := (unhide HK3).lo
  have hbl := (unhide HX3).low
  have hLL' : Hid (LL = x.log.length) := hLL
  have hLL60 : (LL : Int) ≤ 60 := by rw [unhide hLL']; have := unhide HL; omega
  have H2 : Tv w3 (.slice la LL lc) x.log := by have := SC.own (unhide HK3).log; rw [(unhide HE).1] at this; exact this
  have CT := hide (fun wx (hx : wx.heap = w3.heap) => termOf_any p x.log (.slice la LL lc) idx wx (by rw [← c4]; simp [World.cell?, hx]) (SC.keep (fun b hb => ⟨by rw [hx]; exact hb, by rw [hx]⟩) H2) (by omega))
  obtain ⟨LT, hLT⟩ : ∃ z, z = Rf.atN x.log idx := ⟨_, rfl⟩
  rw [← hLT] at CT
  have HFit : Hid (Rf.fits x m ↔ (idx : Int) ≤ (LL : Int) ∧ ((idx : Int) = 0 ∨ LT = m.logTerm)) := hide (by
    unfold Rf.fits
    rw [unhide HIx, Int.toNat_natCast, ← hLT, unhide hLL'])
  have ENF : Hid (¬ Rf.fits x m → Rf.onAppend x m = (Rf.follow x m.frm, [{ kind := 4, frm := x.id, dest := m.frm, term := x.term, index := min (LL : Int) ((idx : Int) - 1), logTerm := 0, commit := 0, items := [], yes := false }])) := hide (fun q => by rw [Rf.onAppend, if_neg (unhide HNo), if_neg q, Rf.back, unhide hLL', unhide HIx])
  clear hLT H2
  by_cases u1 : (LL : Int) < (idx : Int)
  · have d1 : decide ((LL : Int) < (idx : Int)) = true := decide_eq_true u1
    have d1' : decide (LL < idx) = true := decide_eq_true (by omega)
    have EO := hide (unhide ENF (fun q => by have := ((unhide HFit).1 q).1; omega))
    clear u1
    go_quiet ((go_at_call 49; exact Calls.quiet_of_same (unhide CT _ rfl)))
    go_upto_region 5 with fail
    have HKq := hide ((unhide HK3).drewN nq)
    have HFq := hide ((unhide HF3).drewN nq)
    have q1 : (w3.drewN nq).cell? ⟨bx, 1, none⟩ = some (.int .i64 m.frm) := g1
    have q4 : (w3.drewN nq).cell? ⟨p, 4, none⟩ = some (.slice la LL lc) := c4
    have q6 : (w3.drewN nq).cell? ⟨bx, 4, none⟩ = some (.int .i64 (idx : Int)) := g4'
    have q5 : p < (w3.drewN nq).heap.size := hp
    generalize w3.drewN nq = wq at HKq HFq q1 q4 q5 q6 ⊢
    have CA := hide (appended_any B p (Rf.follow x m.frm) [] o3 m.frm (min (LL : Int) ((idx : Int) - 1)) false wq.drew (unhide HKq).drew (by simp))
    go_region_with ((go_at_call 68; refine (unhide CA).mono ?_; rintro e w4 ⟨rfl, s4, cs4, hK4, hF4⟩))
    all_goals
      have FIN := hide (And.intro hK4 ((unhide HFq).drew.trans hF4))
      clear hK4 hF4 CA
      go_wp2
      ((try simp only [Exit.inBlock, Exit.then]); refine bodyPost_ret (results_none rfl _ _ _) rfl ?_)
      rw [unhide EO]
      exact ⟨rfl, _, (unhide FIN).1, (unhide FIN).2⟩
  have d1 : decide ((LL : Int) < (idx : Int)) = false := decide_eq_false u1
  have d1' : decide (LL < idx) = false := decide_eq_false (by omega)
  have hle : (idx : Int) ≤ (LL : Int) := by omega
  by_cases u2 : (0 : Int) < (idx : Int)
  · have d2 : decide ((0 : Int) < (idx : Int)) = true := decide_eq_true u2
    have d2' : decide (0 < idx) = true := decide_eq_true (by omega)
    by_cases u3 : LT = m.logTerm
    · have d3 : (LT != m.logTerm) = false := by simpa using u3
      have HYes : Hid (Rf.fits x m) := hide ((unhide HFit).2 ⟨hle, .inr u3⟩)
      clear u1 u3
      go_quiet ((go_at_call 49; exact Calls.quiet_of_same (unhide CT _ rfl)))
      go_upto_region 6 with fail
      have HK4 := hide ((unhide HK3).drewN nq)
      have HF4 := hide ((unhide HF3).drewN nq)
      have HX4 : Hid (BK (w3.drewN nq) bx 40 #[.int .i64 m.kind, .int .i64 m.frm, .int .i64 m.dest, .int .i64 m.term, .int .i64 m.index, .int .i64 m.logTerm, .int .i64 m.commit, .slice ia IL ic, .bool m.yes]) := HX3
      generalize w3.drewN nq = w4 at HK4 HF4 HX4 ⊢
      clear HE hLL hVL hNL hML hSL hp hbl CT g4' g0 g1 g2 g3 g5 g6 g7 g8 c0 c1 c2 c3 c4 c5 c6 c7 c8 c9 c10 c11 f0 f1 f2 f3 f4 f5 f6 f7 f8 f9 f10 f11 r1 r2 r3 r4
      obtain ⟨g0, g1, g2, g3, g4, g5, g6, g7, g8⟩ := (show GX w4 bx _ _ _ _ _ _ _ _ _ from unhide HX4).tell
      have g4' : w4.cell? ⟨bx, 4, none⟩ = some (.int .i64 (idx : Int)) := g4.trans (by rw [unhide HIx])
      clear g4
      have CH := hide (hold_any B p (Rf.follow x m.frm) [] o3 idx m.items (.slice ia IL ic) w4 (unhide HK4) (SC.keep (fun b hb => ⟨Nat.lt_of_lt_of_le hb (Nat.le_trans (unhide HK).szB (unhide HF4).bel.size), (unhide HF4).bel.block b hb⟩) (unhide HIT)) (by show idx ≤ x.log.length; rw [← unhide hLL']; omega) (unhide hIL60) (unhide HL) (unhide HRs))
      go_wp2_with (go_at_call 69; refine (unhide CH).mono ?_; rintro e w5 ⟨rfl, o5, hK5, hF5⟩; have HX5 := hide (hF5.bk (unhide HX4) (unhide HFb3)); clear g0 g1 g2 g3 g4' g5 g6 g7 g8; obtain ⟨g0, g1, g2, g3, g4, g5, g6, g7, g8⟩ := (show GX w5 bx _ _ _ _ _ _ _ _ _ from unhide HX5).tell; have g4' := g4.trans (show _ = some (Value.int .i64 (idx : Int)) by rw [unhide HIx]); clear g4)
      have HK5 := hide hK5
      have HF5 := hide ((unhide HF4).trans hF5)
      have HFb5 := hide (hF5.free (unhide HX4).low (unhide HFb3))
      clear hK5 hF5 CH
      obtain ⟨la, LL, lc, va, VL, vc, na, NL, nc, ma, ML, mc, sa, SL, sc, HE, hLL, hVL, hNL, hML, hSL, ⟨r1, r2, r3, r4⟩, ⟨c0, c1, c2, c3, c4, c5, c6, c7, c8, c9, c10, c11⟩, ⟨f0, f1, f2, f3, f4, f5, f6, f7, f8, f9, f10, f11⟩⟩ := (unhide HK5).tell
      have hp := (unhide HK5).lo
      have hbl := (unhide HX5).low
      obtain ⟨cm, hcm⟩ : ∃ z, z = (Rf.heldN (Rf.follow x m.frm) idx m.items).commit := ⟨_, rfl⟩
      rw [← hcm] at c5
      have K6 := (unhide HK5).cell (x' := { Rf.heldN (Rf.follow x m.frm) idx m.items with commit := max cm (min m.commit ((idx : Int) + (IL : Int))) }) 5 (.int .i64 (max cm (min m.commit ((idx : Int) + (IL : Int))))) ⟨rfl, rfl, rfl, rfl⟩ rfl
      have F6 := (unhide HK5).cellFr 5 (.int .i64 (max cm (min m.commit ((idx : Int) + (IL : Int)))))
      have EO : Hid (Rf.onAppend x m = ({ Rf.heldN (Rf.follow x m.frm) idx m.items with commit := max cm (min m.commit ((idx : Int) + (IL : Int))) }, [{ kind := 4, frm := x.id, dest := m.frm, term := x.term, index := (idx : Int) + (IL : Int), logTerm := 0, commit := 0, items := [], yes := true }])) := hide (by rw [Rf.onAppend, if_neg (unhide HNo), if_pos (unhide HYes), Rf.takenBy, Rf.back, hcm, unhide hIL, unhide HIx, Int.toNat_natCast]; rfl)
      have HK6 := hide K6.drew
      have HF6 := hide ((unhide HF5).trans F6).drew
      have HX6 : Hid (BK (World.drew (World.setCell w5 ⟨p, 5, none⟩ (.int .i64 (max cm (min m.commit ((idx : Int) + (IL : Int))))))) bx 40 #[.int .i64 m.kind, .int .i64 m.frm, .int .i64 m.dest, .int .i64 m.term, .int .i64 m.index, .int .i64 m.logTerm, .int .i64 m.commit, .slice ia IL ic, .bool m.yes]) := hide (F6.bk (unhide HX5) (unhide HFb5))
      clear K6 F6 hcm
      go_upto_region 8 with fail
      go_region
      go_upto_region 9 with fail
      generalize World.drew (World.setCell w5 ⟨p, 5, none⟩ (.int .i64 (max cm (min m.commit ((idx : Int) + (IL : Int)))))) = w6 at HK6 HF6 HX6 ⊢
      have q1 := (unhide HX6).at (j := 1) rfl
      have CA := hide (appended_any B p _ [] o5 m.frm ((idx : Int) + (IL : Int)) true w6 (unhide HK6) (by simp))
      go_wp2_with (go_at_call 68; refine (unhide CA).mono ?_; rintro e w7 ⟨rfl, s7, cs7, hK7, hF7⟩)
      have FIN := hide (And.intro hK7 ((unhide HF6).trans hF7))
      clear hK7 hF7 CA
      go_end0
      rw [unhide EO]
      exact ⟨rfl, _, (unhide FIN).1, (unhide FIN).2⟩
    · have d3 : (LT != m.logTerm) = true := by simpa using u3
      have EO := hide (unhide ENF (fun q => ((unhide HFit).1 q).2.elim (fun e => by omega) u3))
      clear u1 u3
      go_quiet ((go_at_call 49; exact Calls.quiet_of_same (unhide CT _ rfl)))
      go_upto_region 5 with fail
      have HKq := hide ((unhide HK3).drewN nq)
      have HFq := hide ((unhide HF3).drewN nq)
      have q1 : (w3.drewN nq).cell? ⟨bx, 1, none⟩ = some (.int .i64 m.frm) := g1
      have q4 : (w3.drewN nq).cell? ⟨p, 4, none⟩ = some (.slice la LL lc) := c4
      have q6 : (w3.drewN nq).cell? ⟨bx, 4, none⟩ = some (.int .i64 (idx : Int)) := g4'
      have q5 : p < (w3.drewN nq).heap.size := hp
      generalize w3.drewN nq = wq at HKq HFq q1 q4 q5 q6 ⊢
      have CA := hide (appended_any B p (Rf.follow x m.frm) [] o3 m.frm (min (LL : Int) ((idx : Int) - 1)) false wq.drew (unhide HKq).drew (by simp))
      go_region_with ((go_at_call 68; refine (unhide CA).mono ?_; rintro e w4 ⟨rfl, s4, cs4, hK4, hF4⟩))
      all_goals
        have FIN := hide (And.intro hK4 ((unhide HFq).drew.trans hF4))
        clear hK4 hF4 CA
        go_wp2
        ((try simp only [Exit.inBlock, Exit.then]); refine bodyPost_ret (results_none rfl _ _ _) rfl ?_)
        rw [unhide EO]
        exact ⟨rfl, _, (unhide FIN).1, (unhide FIN).2⟩
  · have d2 : decide ((0 : Int) < (idx : Int)) = false := decide_eq_false u2
    have d2' : decide (0 < idx) = false := decide_eq_false (by omega)
    have HYes : Hid (Rf.fits x m) := hide ((unhide HFit).2 ⟨hle, .inl (by omega)⟩)
    clear u1
    go_quiet ((go_at_call 49; exact Calls.quiet_of_same (unhide CT _ rfl)))
    go_upto_region 6 with fail
    have HK4 := hide ((unhide HK3).drewN nq)
    have HF4 := hide ((unhide HF3).drewN nq)
    have HX4 : Hid (BK (w3.drewN nq) bx 40 #[.int .i64 m.kind, .int .i64 m.frm, .int .i64 m.dest, .int .i64 m.term, .int .i64 m.index, .int .i64 m.logTerm, .int .i64 m.commit, .slice ia IL ic, .bool m.yes]) := HX3
    generalize w3.drewN nq = w4 at HK4 HF4 HX4 ⊢
    clear HE hLL hVL hNL hML hSL hp hbl CT g4' g0 g1 g2 g3 g5 g6 g7 g8 c0 c1 c2 c3 c4 c5 c6 c7 c8 c9 c10 c11 f0 f1 f2 f3 f4 f5 f6 f7 f8 f9 f10 f11 r1 r2 r3 r4
    obtain ⟨g0, g1, g2, g3, g4, g5, g6, g7, g8⟩ := (show GX w4 bx _ _ _ _ _ _ _ _ _ from unhide HX4).tell
    have g4' : w4.cell? ⟨bx, 4, none⟩ = some (.int .i64 (idx : Int)) := g4.trans (by rw [unhide HIx])
    clear g4
    have CH := hide (hold_any B p (Rf.follow x m.frm) [] o3 idx m.items (.slice ia IL ic) w4 (unhide HK4) (SC.keep (fun b hb => ⟨Nat.lt_of_lt_of_le hb (Nat.le_trans (unhide HK).szB (unhide HF4).bel.size), (unhide HF4).bel.block b hb⟩) (unhide HIT)) (by show idx ≤ x.log.length; rw [← unhide hLL']; omega) (unhide hIL60) (unhide HL) (unhide HRs))
    go_wp2_with (go_at_call 69; refine (unhide CH).mono ?_; rintro e w5 ⟨rfl, o5, hK5, hF5⟩; have HX5 := hide (hF5.bk (unhide HX4) (unhide HFb3)); clear g0 g1 g2 g3 g4' g5 g6 g7 g8; obtain ⟨g0, g1, g2, g3, g4, g5, g6, g7, g8⟩ := (show GX w5 bx _ _ _ _ _ _ _ _ _ from unhide HX5).tell; have g4' := g4.trans (show _ = some (Value.int .i64 (idx : Int)) by rw [unhide HIx]); clear g4)
    have HK5 := hide hK5
    have HF5 := hide ((unhide HF4).trans hF5)
    have HFb5 := hide (hF5.free (unhide HX4).low (unhide HFb3))
    clear hK5 hF5 CH
    obtain ⟨la, LL, lc, va, VL, vc, na, NL, nc, ma, ML, mc, sa, SL, sc, HE, hLL, hVL, hNL, hML, hSL, ⟨r1, r2, r3, r4⟩, ⟨c0, c1, c2, c3, c4, c5, c6, c7, c8, c9, c10, c11⟩, ⟨f0, f1, f2, f3, f4, f5, f6, f7, f8, f9, f10, f11⟩⟩ := (unhide HK5).tell
    have hp := (unhide HK5).lo
    have hbl := (unhide HX5).low
    obtain ⟨cm, hcm⟩ : ∃ z, z = (Rf.heldN (Rf.follow x m.frm) idx m.items).commit := ⟨_, rfl⟩
    rw [← hcm] at c5
    have K6 := (unhide HK5).cell (x' := { Rf.heldN (Rf.follow x m.frm) idx m.items with commit := max cm (min m.commit ((idx : Int) + (IL : Int))) }) 5 (.int .i64 (max cm (min m.commit ((idx : Int) + (IL : Int))))) ⟨rfl, rfl, rfl, rfl⟩ rfl
    have F6 := (unhide HK5).cellFr 5 (.int .i64 (max cm (min m.commit ((idx : Int) + (IL : Int)))))
    have EO : Hid (Rf.onAppend x m = ({ Rf.heldN (Rf.follow x m.frm) idx m.items with commit := max cm (min m.commit ((idx : Int) + (IL : Int))) }, [{ kind := 4, frm := x.id, dest := m.frm, term := x.term, index := (idx : Int) + (IL : Int), logTerm := 0, commit := 0, items := [], yes := true }])) := hide (by rw [Rf.onAppend, if_neg (unhide HNo), if_pos (unhide HYes), Rf.takenBy, Rf.back, hcm, unhide hIL, unhide HIx, Int.toNat_natCast]; rfl)
    have HK6 := hide K6.drew
    have HF6 := hide ((unhide HF5).trans F6).drew
    have HX6 : Hid (BK (World.drew (World.setCell w5 ⟨p, 5, none⟩ (.int .i64 (max cm (min m.commit ((idx : Int) + (IL : Int))))))) bx 40 #[.int .i64 m.kind, .int .i64 m.frm, .int .i64 m.dest, .int .i64 m.term, .int .i64 m.index, .int .i64 m.logTerm, .int .i64 m.commit, .slice ia IL ic, .bool m.yes]) := hide (F6.bk (unhide HX5) (unhide HFb5))
    clear K6 F6 hcm
    go_upto_region 8 with fail
    go_region
    go_upto_region 9 with fail
    generalize World.drew (World.setCell w5 ⟨p, 5, none⟩ (.int .i64 (max cm (min m.commit ((idx : Int) + (IL : Int)))))) = w6 at HK6 HF6 HX6 ⊢
    have q1 := (unhide HX6).at (j := 1) rfl
    have CA := hide (appended_any B p _ [] o5 m.frm ((idx : Int) + (IL : Int)) true w6 (unhide HK6) (by simp))
    go_wp2_with (go_at_call 68; refine (unhide CA).mono ?_; rintro e w7 ⟨rfl, s7, cs7, hK7, hF7⟩)
    have FIN := hide (And.intro hK7 ((unhide HF6).trans hF7))
    clear hK7 hF7 CA
    go_end0
    rw [unhide EO]
    exact ⟨rfl, _, (unhide FIN).1, (unhide FIN).2⟩

end Go.Proofs.Ytneepoaimbnneaa.RW
