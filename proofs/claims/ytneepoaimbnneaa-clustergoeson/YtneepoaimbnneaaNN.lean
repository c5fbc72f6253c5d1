/- Walks: vote (raft). Written by gen_nn.py. -/
import Derived.Test.YtneepoaimbnneaaNK
namespace Go.Proofs.Ytneepoaimbnneaa.RW
open Go.RowKit

set_option maxHeartbeats 8000000 in
set_option maxRecDepth 100000 in
theorem vote_any (B p : Nat) (x : Rf.Node) (o : Own) (m : Rf.Msg) (g : Array Value) (w : World) (hk : WK B w p x [] o) (hg : Gv w g m) (hl : x.log.length ≤ 60) :
    Calls Try.prog 52 #[.pointer (some ⟨p, 0, none⟩), .agg g] w (PW B p o w (Rf.onVote x m).1 (Rf.onVote x m).2) := by
  obtain ⟨iv, rfl, hit⟩ := hg
  obtain ⟨ia, IL, ic, rfl, hIL, hic, _⟩ := SC.shp hit
  have HK := hide hk
  have HIT := hide hit
  have HX := hide (BK.new w 40 #[.int .i64 m.kind, .int .i64 m.frm, .int .i64 m.dest, .int .i64 m.term, .int .i64 m.index, .int .i64 m.logTerm, .int .i64 m.commit, .slice ia IL ic, .bool m.yes])
  have HBn := hide (below_new w (.cells #[.int .i64 m.kind, .int .i64 m.frm, .int .i64 m.dest, .int .i64 m.term, .int .i64 m.index, .int .i64 m.logTerm, .int .i64 m.commit, .slice ia IL ic, .bool m.yes] 40))
  have HFb : Hid (Free p o w.heap.size) := hide (hk.newFree (Nat.le_refl _))
  clear hk hit
  go_enter Try.func52, Try.ntmps52
  go_upto_region 1 with fail
  generalize w.alloc (.cells #[.int .i64 m.kind, .int .i64 m.frm, .int .i64 m.dest, .int .i64 m.term, .int .i64 m.index, .int .i64 m.logTerm, .int .i64 m.commit, .slice ia IL ic, .bool m.yes] 40) = w1 at HX HBn ⊢
  have HK1 := hide ((unhide HK).below (unhide HBn))
  have HF1 := hide (Fr.below (p := p) (o := o) (unhide HBn) (unhide HK).szB)
  generalize hbx : w.heap.size = bx at HX HFb ⊢
  clear hbx
  obtain ⟨la, LL, lc, va, VL, vc, na, NL, nc, ma, ML, mc, sa, SL, sc, HE, hLL, hVL, hNL, hML, hSL, ⟨r1, r2, r3, r4⟩, ⟨c0, c1, c2, c3, c4, c5, c6, c7, c8, c9, c10, c11⟩, ⟨f0, f1, f2, f3, f4, f5, f6, f7, f8, f9, f10, f11⟩⟩ := (unhide HK1).tell
  obtain ⟨g0, g1, g2, g3, g4, g5, g6, g7, g8⟩ := (show GX w1 bx _ _ _ _ _ _ _ _ _ from unhide HX).tell
  have hp := (unhide HK1).lo
  have hbl := (unhide HX).low
  have H2 : Tv w1 (.slice la LL lc) x.log := by have := SC.own (unhide HK1).log; rwa [(unhide HE).1] at this
  have CT := hide (fun wx (hx : wx.heap = w1.heap) => termOf_any p x.log (.slice la LL lc) LL wx (by rw [← c4]; simp [World.cell?, hx]) (SC.keep (fun b hb => ⟨by rw [hx]; exact hb, by rw [hx]⟩) H2) (by rw [unhide hLL]; omega))
  obtain ⟨LT, hLT⟩ : ∃ z, z = Rf.atN x.log LL := ⟨_, rfl⟩
  rw [← hLT] at CT
  have HLT : Hid (Rf.lastT x.log = LT) := hide (by rw [hLT, Rf.lastT, unhide hLL])
  clear hLT H2
  have HOn : Hid ((Rf.onVote x m).1 = (if Rf.mayVote x m then { x with vote := m.frm } else x) ∧ (Rf.onVote x m).2 = [{ kind := 2, frm := x.id, dest := m.frm, term := x.term, index := 0, logTerm := 0, commit := 0, items := [], yes := decide (Rf.mayVote x m) }]) := hide (by
    unfold Rf.onVote
    split
    · rename_i h; simp [h, Rf.back]
    · rename_i h; simp [h, Rf.back])
  have HMay : Hid (Rf.mayVote x m ↔ m.term = x.term ∧ (x.vote = 0 ∨ x.vote = m.frm) ∧ ¬ (m.logTerm < LT ∨ m.logTerm = LT ∧ m.index < (LL : Int))) := hide (by
    unfold Rf.mayVote
    rw [unhide HLT, ← unhide hLL])
  by_cases o1 : m.logTerm < LT
  · have d1 : decide (m.logTerm < LT) = true := decide_eq_true o1
    have HOld : Hid (m.logTerm < LT ∨ m.logTerm = LT ∧ m.index < (LL : Int)) := hide (.inl o1)
    clear o1
    go_upto_region 2 with fail
    go_quiet ((go_at_call 49; exact Calls.quiet_of_same (unhide CT _ rfl)))
    go_upto_region 3 with fail
    have HK2 := hide ((unhide HK1).drewN nq)
    have HF2 := hide ((unhide HF1).drewN nq)
    have HX2 : Hid (BK (w1.drewN nq) bx 40 #[.int .i64 m.kind, .int .i64 m.frm, .int .i64 m.dest, .int .i64 m.term, .int .i64 m.index, .int .i64 m.logTerm, .int .i64 m.commit, .slice ia IL ic, .bool m.yes]) := HX
    generalize w1.drewN nq = w2 at HK2 HF2 HX2 ⊢
    clear HE hVL hNL hML hSL hp hbl CT HK1 HF1 HX g0 g1 g2 g3 g4 g5 g6 g7 g8 c0 c1 c2 c3 c4 c5 c6 c7 c8 c9 c10 c11 f0 f1 f2 f3 f4 f5 f6 f7 f8 f9 f10 f11 r1 r2 r3 r4
    obtain ⟨la, LL2, lc, va, VL, vc, na, NL, nc, ma, ML, mc, sa, SL, sc, HE, hLL2, hVL, hNL, hML, hSL, ⟨r1, r2, r3, r4⟩, ⟨c0, c1, c2, c3, c4, c5, c6, c7, c8, c9, c10, c11⟩, ⟨f0, f1, f2, f3, f4, f5, f6, f7, f8, f9, f10, f11⟩⟩ := (unhide HK2).tell
    obtain ⟨g0, g1, g2, g3, g4, g5, g6, g7, g8⟩ := (show GX w2 bx _ _ _ _ _ _ _ _ _ from unhide HX2).tell
    have hp := (unhide HK2).lo
    have hbl := (unhide HX2).low
    by_cases t1 : m.term = x.term
    · have e1 : (m.term == x.term) = true := by simpa using t1
      by_cases t2 : x.vote = 0
      · have e2 : (x.vote == 0) = true := by simpa using t2
        have HM : Hid (¬ Rf.mayVote x m) := hide (fun q => ((unhide HMay).1 q).2.2 (unhide HOld))
        clear t1 t2
        go_quiet (fail)
        have HK3 := hide ((unhide HK2).drewN nq)
        have HF3 := hide ((unhide HF2).drewN nq)
        have HX3 : Hid (BK (w2.drewN nq) bx 40 #[.int .i64 m.kind, .int .i64 m.frm, .int .i64 m.dest, .int .i64 m.term, .int .i64 m.index, .int .i64 m.logTerm, .int .i64 m.commit, .slice ia IL ic, .bool m.yes]) := HX2
        go_upto_region 6 with fail
        generalize w2.drewN nq = w3 at HK3 HF3 HX3 ⊢
        have q1 := (unhide HX3).at (j := 1) rfl
        have CS := hide (say_any B p (x) [] o { kind := 2, frm := x.id, dest := m.frm, term := x.term, index := 0, logTerm := 0, commit := 0, items := [], yes := false } (.slice none 0 0) w3 (unhide HK3) (SC.nil _ _ _) (by simp) rfl rfl 0 0)
        go_wp2_with (go_at_call 48; refine (unhide CS).mono ?_; rintro e w4 ⟨rfl, s4, cs4, hK4, hF4⟩)
        have FIN := hide (And.intro hK4 ((unhide HF3).trans hF4))
        clear hK4 hF4 CS
        go_end0
        rw [(unhide HOn).1, (unhide HOn).2]
        rw [if_neg (unhide HM), decide_eq_false (unhide HM)]
        exact ⟨rfl, _, (unhide FIN).1, (unhide FIN).2⟩
      · have e2 : (x.vote == 0) = false := by simpa using t2
        by_cases t3 : x.vote = m.frm
        · have e3 : (x.vote == m.frm) = true := by simpa using t3
          have HM : Hid (¬ Rf.mayVote x m) := hide (fun q => ((unhide HMay).1 q).2.2 (unhide HOld))
          clear t1 t2 t3
          go_quiet (fail)
          have HK3 := hide ((unhide HK2).drewN nq)
          have HF3 := hide ((unhide HF2).drewN nq)
          have HX3 : Hid (BK (w2.drewN nq) bx 40 #[.int .i64 m.kind, .int .i64 m.frm, .int .i64 m.dest, .int .i64 m.term, .int .i64 m.index, .int .i64 m.logTerm, .int .i64 m.commit, .slice ia IL ic, .bool m.yes]) := HX2
          go_upto_region 6 with fail
          generalize w2.drewN nq = w3 at HK3 HF3 HX3 ⊢
          have q1 := (unhide HX3).at (j := 1) rfl
          have CS := hide (say_any B p (x) [] o { kind := 2, frm := x.id, dest := m.frm, term := x.term, index := 0, logTerm := 0, commit := 0, items := [], yes := false } (.slice none 0 0) w3 (unhide HK3) (SC.nil _ _ _) (by simp) rfl rfl 0 0)
          go_wp2_with (go_at_call 48; refine (unhide CS).mono ?_; rintro e w4 ⟨rfl, s4, cs4, hK4, hF4⟩)
          have FIN := hide (And.intro hK4 ((unhide HF3).trans hF4))
          clear hK4 hF4 CS
          go_end0
          rw [(unhide HOn).1, (unhide HOn).2]
          rw [if_neg (unhide HM), decide_eq_false (unhide HM)]
          exact ⟨rfl, _, (unhide FIN).1, (unhide FIN).2⟩
        · have e3 : (x.vote == m.frm) = false := by simpa using t3
          have HM : Hid (¬ Rf.mayVote x m) := hide (fun q => ((unhide HMay).1 q).2.1.elim t2 t3)
          clear t1 t2 t3
          go_quiet (fail)
          have HK3 := hide ((unhide HK2).drewN nq)
          have HF3 := hide ((unhide HF2).drewN nq)
          have HX3 : Hid (BK (w2.drewN nq) bx 40 #[.int .i64 m.kind, .int .i64 m.frm, .int .i64 m.dest, .int .i64 m.term, .int .i64 m.index, .int .i64 m.logTerm, .int .i64 m.commit, .slice ia IL ic, .bool m.yes]) := HX2
          go_upto_region 6 with fail
          generalize w2.drewN nq = w3 at HK3 HF3 HX3 ⊢
          have q1 := (unhide HX3).at (j := 1) rfl
          have CS := hide (say_any B p (x) [] o { kind := 2, frm := x.id, dest := m.frm, term := x.term, index := 0, logTerm := 0, commit := 0, items := [], yes := false } (.slice none 0 0) w3 (unhide HK3) (SC.nil _ _ _) (by simp) rfl rfl 0 0)
          go_wp2_with (go_at_call 48; refine (unhide CS).mono ?_; rintro e w4 ⟨rfl, s4, cs4, hK4, hF4⟩)
          have FIN := hide (And.intro hK4 ((unhide HF3).trans hF4))
          clear hK4 hF4 CS
          go_end0
          rw [(unhide HOn).1, (unhide HOn).2]
          rw [if_neg (unhide HM), decide_eq_false (unhide HM)]
          exact ⟨rfl, _, (unhide FIN).1, (unhide FIN).2⟩
    · have e1 : (m.term == x.term) = false := by simpa using t1
      have HM : Hid (¬ Rf.mayVote x m) := hide (fun q => t1 ((unhide HMay).1 q).1)
      clear t1
      go_quiet (fail)
      have HK3 := hide ((unhide HK2).drewN nq)
      have HF3 := hide ((unhide HF2).drewN nq)
      have HX3 : Hid (BK (w2.drewN nq) bx 40 #[.int .i64 m.kind, .int .i64 m.frm, .int .i64 m.dest, .int .i64 m.term, .int .i64 m.index, .int .i64 m.logTerm, .int .i64 m.commit, .slice ia IL ic, .bool m.yes]) := HX2
      go_upto_region 6 with fail
      generalize w2.drewN nq = w3 at HK3 HF3 HX3 ⊢
      have q1 := (unhide HX3).at (j := 1) rfl
      have CS := hide (say_any B p (x) [] o { kind := 2, frm := x.id, dest := m.frm, term := x.term, index := 0, logTerm := 0, commit := 0, items := [], yes := false } (.slice none 0 0) w3 (unhide HK3) (SC.nil _ _ _) (by simp) rfl rfl 0 0)
      go_wp2_with (go_at_call 48; refine (unhide CS).mono ?_; rintro e w4 ⟨rfl, s4, cs4, hK4, hF4⟩)
      have FIN := hide (And.intro hK4 ((unhide HF3).trans hF4))
      clear hK4 hF4 CS
      go_end0
      rw [(unhide HOn).1, (unhide HOn).2]
      rw [if_neg (unhide HM), decide_eq_false (unhide HM)]
      exact ⟨rfl, _, (unhide FIN).1, (unhide FIN).2⟩
  have d1 : decide (m.logTerm < LT) = false := decide_eq_false o1
  by_cases o2 : m.logTerm = LT
  · have d2 : (m.logTerm == LT) = true := by simpa using o2
    by_cases o3 : m.index < (LL : Int)
    · have d3 : decide (m.index < (LL : Int)) = true := decide_eq_true o3
      have HOld : Hid (m.logTerm < LT ∨ m.logTerm = LT ∧ m.index < (LL : Int)) := hide (.inr ⟨o2, o3⟩)
      clear o1 o2 o3
      go_upto_region 2 with fail
      go_quiet ((go_at_call 49; exact Calls.quiet_of_same (unhide CT _ rfl)))
      go_upto_region 3 with fail
      have HK2 := hide ((unhide HK1).drewN nq)
      have HF2 := hide ((unhide HF1).drewN nq)
      have HX2 : Hid (BK (w1.drewN nq) bx 40 #[.int .i64 m.kind, .int .i64 m.frm, .int .i64 m.dest, .int .i64 m.term, .int .i64 m.index, .int .i64 m.logTerm, .int .i64 m.commit, .slice ia IL ic, .bool m.yes]) := HX
      generalize w1.drewN nq = w2 at HK2 HF2 HX2 ⊢
      clear HE hVL hNL hML hSL hp hbl CT HK1 HF1 HX g0 g1 g2 g3 g4 g5 g6 g7 g8 c0 c1 c2 c3 c4 c5 c6 c7 c8 c9 c10 c11 f0 f1 f2 f3 f4 f5 f6 f7 f8 f9 f10 f11 r1 r2 r3 r4
      obtain ⟨la, LL2, lc, va, VL, vc, na, NL, nc, ma, ML, mc, sa, SL, sc, HE, hLL2, hVL, hNL, hML, hSL, ⟨r1, r2, r3, r4⟩, ⟨c0, c1, c2, c3, c4, c5, c6, c7, c8, c9, c10, c11⟩, ⟨f0, f1, f2, f3, f4, f5, f6, f7, f8, f9, f10, f11⟩⟩ := (unhide HK2).tell
      obtain ⟨g0, g1, g2, g3, g4, g5, g6, g7, g8⟩ := (show GX w2 bx _ _ _ _ _ _ _ _ _ from unhide HX2).tell
      have hp := (unhide HK2).lo
      have hbl := (unhide HX2).low
      by_cases t1 : m.term = x.term
      · have e1 : (m.term == x.term) = true := by simpa using t1
        by_cases t2 : x.vote = 0
        · have e2 : (x.vote == 0) = true := by simpa using t2
          have HM : Hid (¬ Rf.mayVote x m) := hide (fun q => ((unhide HMay).1 q).2.2 (unhide HOld))
          clear t1 t2
          go_quiet (fail)
          have HK3 := hide ((unhide HK2).drewN nq)
          have HF3 := hide ((unhide HF2).drewN nq)
          have HX3 : Hid (BK (w2.drewN nq) bx 40 #[.int .i64 m.kind, .int .i64 m.frm, .int .i64 m.dest, .int .i64 m.term, .int .i64 m.index, .int .i64 m.logTerm, .int .i64 m.commit, .slice ia IL ic, .bool m.yes]) := HX2
          go_upto_region 6 with fail
          generalize w2.drewN nq = w3 at HK3 HF3 HX3 ⊢
          have q1 := (unhide HX3).at (j := 1) rfl
          have CS := hide (say_any B p (x) [] o { kind := 2, frm := x.id, dest := m.frm, term := x.term, index := 0, logTerm := 0, commit := 0, items := [], yes := false } (.slice none 0 0) w3 (unhide HK3) (SC.nil _ _ _) (by simp) rfl rfl 0 0)
          go_wp2_with (go_at_call 48; refine (unhide CS).mono ?_; rintro e w4 ⟨rfl, s4, cs4, hK4, hF4⟩)
          have FIN := hide (And.intro hK4 ((unhide HF3).trans hF4))
          clear hK4 hF4 CS
          go_end0
          rw [(unhide HOn).1, (unhide HOn).2]
          rw [if_neg (unhide HM), decide_eq_false (unhide HM)]
          exact ⟨rfl, _, (unhide FIN).1, (unhide FIN).2⟩
        · have e2 : (x.vote == 0) = false := by simpa using t2
          by_cases t3 : x.vote = m.frm
          · have e3 : (x.vote == m.frm) = true := by simpa using t3
            have HM : Hid (¬ Rf.mayVote x m) := hide (fun q => ((unhide HMay).1 q).2.2 (unhide HOld))
            clear t1 t2 t3
            go_quiet (fail)
            have HK3 := hide ((unhide HK2).drewN nq)
            have HF3 := hide ((unhide HF2).drewN nq)
            have HX3 : Hid (BK (w2.drewN nq) bx 40 #[.int .i64 m.kind, .int .i64 m.frm, .int .i64 m.dest, .int .i64 m.term, .int .i64 m.index, .int .i64 m.logTerm, .int .i64 m.commit, .slice ia IL ic, .bool m.yes]) := HX2
            go_upto_region 6 with fail
            generalize w2.drewN nq = w3 at HK3 HF3 HX3 ⊢
            have q1 := (unhide HX3).at (j := 1) rfl
            have CS := hide (say_any B p (x) [] o { kind := 2, frm := x.id, dest := m.frm, term := x.term, index := 0, logTerm := 0, commit := 0, items := [], yes := false } (.slice none 0 0) w3 (unhide HK3) (SC.nil _ _ _) (by simp) rfl rfl 0 0)
            go_wp2_with (go_at_call 48; refine (unhide CS).mono ?_; rintro e w4 ⟨rfl, s4, cs4, hK4, hF4⟩)
            have FIN := hide (And.intro hK4 ((unhide HF3).trans hF4))
            clear hK4 hF4 CS
            go_end0
            rw [(unhide HOn).1, (unhide HOn).2]
            rw [if_neg (unhide HM), decide_eq_false (unhide HM)]
            exact ⟨rfl, _, (unhide FIN).1, (unhide FIN).2⟩
          · have e3 : (x.vote == m.frm) = false := by simpa using t3
            have HM : Hid (¬ Rf.mayVote x m) := hide (fun q => ((unhide HMay).1 q).2.1.elim t2 t3)
            clear t1 t2 t3
            go_quiet (fail)
            have HK3 := hide ((unhide HK2).drewN nq)
            have HF3 := hide ((unhide HF2).drewN nq)
            have HX3 : Hid (BK (w2.drewN nq) bx 40 #[.int .i64 m.kind, .int .i64 m.frm, .int .i64 m.dest, .int .i64 m.term, .int .i64 m.index, .int .i64 m.logTerm, .int .i64 m.commit, .slice ia IL ic, .bool m.yes]) := HX2
            go_upto_region 6 with fail
            generalize w2.drewN nq = w3 at HK3 HF3 HX3 ⊢
            have q1 := (unhide HX3).at (j := 1) rfl
            have CS := hide (say_any B p (x) [] o { kind := 2, frm := x.id, dest := m.frm, term := x.term, index := 0, logTerm := 0, commit := 0, items := [], yes := false } (.slice none 0 0) w3 (unhide HK3) (SC.nil _ _ _) (by simp) rfl rfl 0 0)
            go_wp2_with (go_at_call 48; refine (unhide CS).mono ?_; rintro e w4 ⟨rfl, s4, cs4, hK4, hF4⟩)
            have FIN := hide (And.intro hK4 ((unhide HF3).trans hF4))
            clear hK4 hF4 CS
            go_end0
            rw [(unhide HOn).1, (unhide HOn).2]
            rw [if_neg (unhide HM), decide_eq_false (unhide HM)]
            exact ⟨rfl, _, (unhide FIN).1, (unhide FIN).2⟩
      · have e1 : (m.term == x.term) = false := by simpa using t1
        have HM : Hid (¬ Rf.mayVote x m) := hide (fun q => t1 ((unhide HMay).1 q).1)
        clear t1
        go_quiet (fail)
        have HK3 := hide ((unhide HK2).drewN nq)
        have HF3 := hide ((unhide HF2).drewN nq)
        have HX3 : Hid (BK (w2.drewN nq) bx 40 #[.int .i64 m.kind, .int .i64 m.frm, .int .i64 m.dest, .int .i64 m.term, .int .i64 m.index, .int .i64 m.logTerm, .int .i64 m.commit, .slice ia IL ic, .bool m.yes]) := HX2
        go_upto_region 6 with fail
        generalize w2.drewN nq = w3 at HK3 HF3 HX3 ⊢
        have q1 := (unhide HX3).at (j := 1) rfl
        have CS := hide (say_any B p (x) [] o { kind := 2, frm := x.id, dest := m.frm, term := x.term, index := 0, logTerm := 0, commit := 0, items := [], yes := false } (.slice none 0 0) w3 (unhide HK3) (SC.nil _ _ _) (by simp) rfl rfl 0 0)
        go_wp2_with (go_at_call 48; refine (unhide CS).mono ?_; rintro e w4 ⟨rfl, s4, cs4, hK4, hF4⟩)
        have FIN := hide (And.intro hK4 ((unhide HF3).trans hF4))
        clear hK4 hF4 CS
        go_end0
        rw [(unhide HOn).1, (unhide HOn).2]
        rw [if_neg (unhide HM), decide_eq_false (unhide HM)]
        exact ⟨rfl, _, (unhide FIN).1, (unhide FIN).2⟩
    · have d3 : decide (m.index < (LL : Int)) = false := decide_eq_false o3
      have HOld : Hid (¬ (m.logTerm < LT ∨ m.logTerm = LT ∧ m.index < (LL : Int))) := hide (fun q => q.elim o1 (fun q => o3 q.2))
      clear o1 o2 o3
      go_upto_region 2 with fail
      go_quiet ((go_at_call 49; exact Calls.quiet_of_same (unhide CT _ rfl)))
      go_upto_region 3 with fail
      have HK2 := hide ((unhide HK1).drewN nq)
      have HF2 := hide ((unhide HF1).drewN nq)
      have HX2 : Hid (BK (w1.drewN nq) bx 40 #[.int .i64 m.kind, .int .i64 m.frm, .int .i64 m.dest, .int .i64 m.term, .int .i64 m.index, .int .i64 m.logTerm, .int .i64 m.commit, .slice ia IL ic, .bool m.yes]) := HX
      generalize w1.drewN nq = w2 at HK2 HF2 HX2 ⊢
      clear HE hVL hNL hML hSL hp hbl CT HK1 HF1 HX g0 g1 g2 g3 g4 g5 g6 g7 g8 c0 c1 c2 c3 c4 c5 c6 c7 c8 c9 c10 c11 f0 f1 f2 f3 f4 f5 f6 f7 f8 f9 f10 f11 r1 r2 r3 r4
      obtain ⟨la, LL2, lc, va, VL, vc, na, NL, nc, ma, ML, mc, sa, SL, sc, HE, hLL2, hVL, hNL, hML, hSL, ⟨r1, r2, r3, r4⟩, ⟨c0, c1, c2, c3, c4, c5, c6, c7, c8, c9, c10, c11⟩, ⟨f0, f1, f2, f3, f4, f5, f6, f7, f8, f9, f10, f11⟩⟩ := (unhide HK2).tell
      obtain ⟨g0, g1, g2, g3, g4, g5, g6, g7, g8⟩ := (show GX w2 bx _ _ _ _ _ _ _ _ _ from unhide HX2).tell
      have hp := (unhide HK2).lo
      have hbl := (unhide HX2).low
      by_cases t1 : m.term = x.term
      · have e1 : (m.term == x.term) = true := by simpa using t1
        by_cases t2 : x.vote = 0
        · have e2 : (x.vote == 0) = true := by simpa using t2
          have HM : Hid (Rf.mayVote x m) := hide ((unhide HMay).2 ⟨t1, .inl t2, unhide HOld⟩)
          clear t1 t2
          go_quiet (fail)
          have K3 := ((unhide HK2).drewN nq).cell (x' := { x with vote := m.frm }) 3 (.int .i64 m.frm) ⟨rfl, rfl, rfl, rfl⟩ rfl
          have F3 := ((unhide HF2).drewN nq).trans (((unhide HK2).drewN nq).cellFr 3 (.int .i64 m.frm))
          have X3 := (((unhide HK2).drewN nq).cellFr 3 (.int .i64 m.frm)).bk (show BK (w2.drewN nq) bx 40 #[.int .i64 m.kind, .int .i64 m.frm, .int .i64 m.dest, .int .i64 m.term, .int .i64 m.index, .int .i64 m.logTerm, .int .i64 m.commit, .slice ia IL ic, .bool m.yes] from unhide HX2) (unhide HFb)
          have HK3 := hide K3
          have HF3 := hide F3
          have HX3 := hide X3
          clear K3 F3 X3
          go_upto_region 6 with fail
          generalize World.setCell (w2.drewN nq) ⟨p, 3, none⟩ (.int .i64 m.frm) = w3 at HK3 HF3 HX3 ⊢
          have q1 := (unhide HX3).at (j := 1) rfl
          have CS := hide (say_any B p ({ x with vote := m.frm }) [] o { kind := 2, frm := x.id, dest := m.frm, term := x.term, index := 0, logTerm := 0, commit := 0, items := [], yes := true } (.slice none 0 0) w3 (unhide HK3) (SC.nil _ _ _) (by simp) rfl rfl 0 0)
          go_wp2_with (go_at_call 48; refine (unhide CS).mono ?_; rintro e w4 ⟨rfl, s4, cs4, hK4, hF4⟩)
          have FIN := hide (And.intro hK4 ((unhide HF3).trans hF4))
          clear hK4 hF4 CS
          go_end0
          rw [(unhide HOn).1, (unhide HOn).2]
          rw [if_pos (unhide HM), decide_eq_true (unhide HM)]
          exact ⟨rfl, _, (unhide FIN).1, (unhide FIN).2⟩
        · have e2 : (x.vote == 0) = false := by simpa using t2
          by_cases t3 : x.vote = m.frm
          · have e3 : (x.vote == m.frm) = true := by simpa using t3
            have HM : Hid (Rf.mayVote x m) := hide ((unhide HMay).2 ⟨t1, .inr t3, unhide HOld⟩)
            clear t1 t2 t3
            go_quiet (fail)
            have K3 := ((unhide HK2).drewN nq).cell (x' := { x with vote := m.frm }) 3 (.int .i64 m.frm) ⟨rfl, rfl, rfl, rfl⟩ rfl
            have F3 := ((unhide HF2).drewN nq).trans (((unhide HK2).drewN nq).cellFr 3 (.int .i64 m.frm))
            have X3 := (((unhide HK2).drewN nq).cellFr 3 (.int .i64 m.frm)).bk (show BK (w2.drewN nq) bx 40 #[.int .i64 m.kind, .int .i64 m.frm, .int .i64 m.dest, .int .i64 m.term, .int .i64 m.index, .int .i64 m.logTerm, .int .i64 m.commit, .slice ia IL ic, .bool m.yes] from unhide HX2) (unhide HFb)
            have HK3 := hide K3
            have HF3 := hide F3
            have HX3 := hide X3
            clear K3 F3 X3
            go_upto_region 6 with fail
            generalize World.setCell (w2.drewN nq) ⟨p, 3, none⟩ (.int .i64 m.frm) = w3 at HK3 HF3 HX3 ⊢
            have q1 := (unhide HX3).at (j := 1) rfl
            have CS := hide (say_any B p ({ x with vote := m.frm }) [] o { kind := 2, frm := x.id, dest := m.frm, term := x.term, index := 0, logTerm := 0, commit := 0, items := [], yes := true } (.slice none 0 0) w3 (unhide HK3) (SC.nil _ _ _) (by simp) rfl rfl 0 0)
            go_wp2_with (go_at_call 48; refine (unhide CS).mono ?_; rintro e w4 ⟨rfl, s4, cs4, hK4, hF4⟩)
            have FIN := hide (And.intro hK4 ((unhide HF3).trans hF4))
            clear hK4 hF4 CS
            go_end0
            rw [(unhide HOn).1, (unhide HOn).2]
            rw [if_pos (unhide HM), decide_eq_true (unhide HM)]
            exact ⟨rfl, _, (unhide FIN).1, (unhide FIN).2⟩
          · have e3 : (x.vote == m.frm) = false := by simpa using t3
            have HM : Hid (¬ Rf.mayVote x m) := hide (fun q => ((unhide HMay).1 q).2.1.elim t2 t3)
            clear t1 t2 t3
            go_quiet (fail)
            have HK3 := hide ((unhide HK2).drewN nq)
            have HF3 := hide ((unhide HF2).drewN nq)
            have HX3 : Hid (BK (w2.drewN nq) bx 40 #[.int .i64 m.kind, .int .i64 m.frm, .int .i64 m.dest, .int .i64 m.term, .int .i64 m.index, .int .i64 m.logTerm, .int .i64 m.commit, .slice ia IL ic, .bool m.yes]) := HX2
            go_upto_region 6 with fail
            generalize w2.drewN nq = w3 at HK3 HF3 HX3 ⊢
            have q1 := (unhide HX3).at (j := 1) rfl
            have CS := hide (say_any B p (x) [] o { kind := 2, frm := x.id, dest := m.frm, term := x.term, index := 0, logTerm := 0, commit := 0, items := [], yes := false } (.slice none 0 0) w3 (unhide HK3) (SC.nil _ _ _) (by simp) rfl rfl 0 0)
            go_wp2_with (go_at_call 48; refine (unhide CS).mono ?_; rintro e w4 ⟨rfl, s4, cs4, hK4, hF4⟩)
            have FIN := hide (And.intro hK4 ((unhide HF3).trans hF4))
            clear hK4 hF4 CS
            go_end0
            rw [(unhide HOn).1, (unhide HOn).2]
            rw [if_neg (unhide HM), decide_eq_false (unhide HM)]
            exact ⟨rfl, _, (unhide FIN).1, (unhide FIN).2⟩
      · have e1 : (m.term == x.term) = false := by simpa using t1
        have HM : Hid (¬ Rf.mayVote x m) := hide (fun q => t1 ((unhide HMay).1 q).1)
        clear t1
        go_quiet (fail)
        have HK3 := hide ((unhide HK2).drewN nq)
        have HF3 := hide ((unhide HF2).drewN nq)
        have HX3 : Hid (BK (w2.drewN nq) bx 40 #[.int .i64 m.kind, .int .i64 m.frm, .int .i64 m.dest, .int .i64 m.term, .int .i64 m.index, .int .i64 m.logTerm, .int .i64 m.commit, .slice ia IL ic, .bool m.yes]) := HX2
        go_upto_region 6 with fail
        generalize w2.drewN nq = w3 at HK3 HF3 HX3 ⊢
        have q1 := (unhide HX3).at (j := 1) rfl
        have CS := hide (say_any B p (x) [] o { kind := 2, frm := x.id, dest := m.frm, term := x.term, index := 0, logTerm := 0, commit := 0, items := [], yes := false } (.slice none 0 0) w3 (unhide HK3) (SC.nil _ _ _) (by simp) rfl rfl 0 0)
        go_wp2_with (go_at_call 48; refine (unhide CS).mono ?_; rintro e w4 ⟨rfl, s4, cs4, hK4, hF4⟩)
        have FIN := hide (And.intro hK4 ((unhide HF3).trans hF4))
        clear hK4 hF4 CS
        go_end0
        rw [(unhide HOn).1, (unhide HOn).2]
        rw [if_neg (unhide HM), decide_eq_false (unhide HM)]
        exact ⟨rfl, _, (unhide FIN).1, (unhide FIN).2⟩
  · have d2 : (m.logTerm == LT) = false := by simpa using o2
    have HOld : Hid (¬ (m.logTerm < LT ∨ m.logTerm = LT ∧ m.index < (LL : Int))) := hide (fun q => q.elim o1 (fun q => o2 q.1))
    clear o1 o2
    go_upto_region 2 with fail
    go_quiet ((go_at_call 49; exact Calls.quiet_of_same (unhide CT _ rfl)))
    go_upto_region 3 with fail
    have HK2 := hide ((unhide HK1).drewN nq)
    have HF2 := hide ((unhide HF1).drewN nq)
    have HX2 : Hid (BK (w1.drewN nq) bx 40 #[.int .i64 m.kind, .int .i64 m.frm, .int .i64 m.dest, .int .i64 m.term, .int .i64 m.index, .int .i64 m.logTerm, .int .i64 m.commit, .slice ia IL ic, .bool m.yes]) := HX
    generalize w1.drewN nq = w2 at HK2 HF2 HX2 ⊢
    clear HE hVL hNL hML hSL hp hbl CT HK1 HF1 HX g0 g1 g2 g3 g4 g5 g6 g7 g8 c0 c1 c2 c3 c4 c5 c6 c7 c8 c9 c10 c11 f0 f1 f2 f3 f4 f5 f6 f7 f8 f9 f10 f11 r1 r2 r3 r4
    obtain ⟨la, LL2, lc, va, VL, vc, na, NL, nc, ma, ML, mc, sa, SL, sc, HE, hLL2, hVL, hNL, hML, hSL, ⟨r1, r2, r3, r4⟩, ⟨c0, c1, c2, c3, c4, c5, c6, c7, c8, c9, c10, c11⟩, ⟨f0, f1, f2, f3, f4, f5, f6, f7, f8, f9, f10, f11⟩⟩ := (unhide HK2).tell
    obtain ⟨g0, g1, g2, g3, g4, g5, g6, g7, g8⟩ := (show GX w2 bx _ _ _ _ _ _ _ _ _ from unhide HX2).tell
    have hp := (unhide HK2).lo
    have hbl := (unhide HX2).low
    by_cases t1 : m.term = x.term
    · have e1 : (m.term == x.term) = true := by simpa using t1
      by_cases t2 : x.vote = 0
      · have e2 : (x.vote == 0) = true := by simpa using t2
        have HM : Hid (Rf.mayVote x m) := hide ((unhide HMay).2 ⟨t1, .inl t2, unhide HOld⟩)
        clear t1 t2
        go_quiet (fail)
        have K3 := ((unhide HK2).drewN nq).cell (x' := { x with vote := m.frm }) 3 (.int .i64 m.frm) ⟨rfl, rfl, rfl, rfl⟩ rfl
        have F3 := ((unhide HF2).drewN nq).trans (((unhide HK2).drewN nq).cellFr 3 (.int .i64 m.frm))
        have X3 := (((unhide HK2).drewN nq).cellFr 3 (.int .i64 m.frm)).bk (show BK (w2.drewN nq) bx 40 #[.int .i64 m.kind, .int .i64 m.frm, .int .i64 m.dest, .int .i64 m.term, .int .i64 m.index, .int .i64 m.logTerm, .int .i64 m.commit, .slice ia IL ic, .bool m.yes] from unhide HX2) (unhide HFb)
        have HK3 := hide K3
        have HF3 := hide F3
        have HX3 := hide X3
        clear K3 F3 X3
        go_upto_region 6 with fail
        generalize World.setCell (w2.drewN nq) ⟨p, 3, none⟩ (.int .i64 m.frm) = w3 at HK3 HF3 HX3 ⊢
        have q1 := (unhide HX3).at (j := 1) rfl
        have CS := hide (say_any B p ({ x with vote := m.frm }) [] o { kind := 2, frm := x.id, dest := m.frm, term := x.term, index := 0, logTerm := 0, commit := 0, items := [], yes := true } (.slice none 0 0) w3 (unhide HK3) (SC.nil _ _ _) (by simp) rfl rfl 0 0)
        go_wp2_with (go_at_call 48; refine (unhide CS).mono ?_; rintro e w4 ⟨rfl, s4, cs4, hK4, hF4⟩)
        have FIN := hide (And.intro hK4 ((unhide HF3).trans hF4))
        clear hK4 hF4 CS
        go_end0
        rw [(unhide HOn).1, (unhide HOn).2]
        rw [if_pos (unhide HM), decide_eq_true (unhide HM)]
        exact ⟨rfl, _, (unhide FIN).1, (unhide FIN).2⟩
      · have e2 : (x.vote == 0) = false := by simpa using t2
        by_cases t3 : x.vote = m.frm
        · have e3 : (x.vote == m.frm) = true := by simpa using t3
          have HM : Hid (Rf.mayVote x m) := hide ((unhide HMay).2 ⟨t1, .inr t3, unhide HOld⟩)
          clear t1 t2 t3
          go_quiet (fail)
          have K3 := ((unhide HK2).drewN nq).cell (x' := { x with vote := m.frm }) 3 (.int .i64 m.frm) ⟨rfl, rfl, rfl, rfl⟩ rfl
          have F3 := ((unhide HF2).drewN nq).trans (((unhide HK2).drewN nq).cellFr 3 (.int .i64 m.frm))
          have X3 := (((unhide HK2).drewN nq).cellFr 3 (.int .i64 m.frm)).bk (show BK (w2.drewN nq) bx 40 #[.int .i64 m.kind, .int .i64 m.frm, .int .i64 m.dest, .int .i64 m.term, .int .i64 m.index, .int .i64 m.logTerm, .int .i64 m.commit, .slice ia IL ic, .bool m.yes] from unhide HX2) (unhide HFb)
          have HK3 := hide K3
          have HF3 := hide F3
          have HX3 := hide X3
          clear K3 F3 X3
          go_upto_region 6 with fail
          generalize World.setCell (w2.drewN nq) ⟨p, 3, none⟩ (.int .i64 m.frm) = w3 at HK3 HF3 HX3 ⊢
          have q1 := (unhide HX3).at (j := 1) rfl
          have CS := hide (say_any B p ({ x with vote := m.frm }) [] o { kind := 2, frm := x.id, dest := m.frm, term := x.term, index := 0, logTerm := 0, commit := 0, items := [], yes := true } (.slice none 0 0) w3 (unhide HK3) (SC.nil _ _ _) (by simp) rfl rfl 0 0)
          go_wp2_with (go_at_call 48; refine (unhide CS).mono ?_; rintro e w4 ⟨rfl, s4, cs4, hK4, hF4⟩)
          have FIN := hide (And.intro hK4 ((unhide HF3).trans hF4))
          clear hK4 hF4 CS
          go_end0
          rw [(unhide HOn).1, (unhide HOn).2]
          rw [if_pos (unhide HM), decide_eq_true (unhide HM)]
          exact ⟨rfl, _, (unhide FIN).1, (unhide FIN).2⟩
        · have e3 : (x.vote == m.frm) = false := by simpa using t3
          have HM : Hid (¬ Rf.mayVote x m) := hide (fun q => ((unhide HMay).1 q).2.1.elim t2 t3)
          clear t1 t2 t3
          go_quiet (fail)
          have HK3 := hide ((unhide HK2).drewN nq)
          have HF3 := hide ((unhide HF2).drewN nq)
          have HX3 : Hid (BK (w2.drewN nq) bx 40 #[.int .i64 m.kind, .int .i64 m.frm, .int .i64 m.dest, .int .i64 m.term, .int .i64 m.index, .int .i64 m.logTerm, .int .i64 m.commit, .slice ia IL ic, .bool m.yes]) := HX2
          go_upto_region 6 with fail
          generalize w2.drewN nq = w3 at HK3 HF3 HX3 ⊢
          have q1 := (unhide HX3).at (j := 1) rfl
          have CS := hide (say_any B p (x) [] o { kind := 2, frm := x.id, dest := m.frm, term := x.term, index := 0, logTerm := 0, commit := 0, items := [], yes := false } (.slice none 0 0) w3 (unhide HK3) (SC.nil _ _ _) (by simp) rfl rfl 0 0)
          go_wp2_with (go_at_call 48; refine (unhide CS).mono ?_; rintro e w4 ⟨rfl, s4, cs4, hK4, hF4⟩)
          have FIN := hide (And.intro hK4 ((unhide HF3).trans hF4))
          clear hK4 hF4 CS
          go_end0
          rw [(unhide HOn).1, (unhide HOn).2]
          rw [if_neg (unhide HM), decide_eq_false (unhide HM)]
          exact ⟨rfl, _, (unhide FIN).1, (unhide FIN).2⟩
    · have e1 : (m.term == x.term) = false := by simpa using t1
      have HM : Hid (¬ Rf.mayVote x m) := hide (fun q => t1 ((unhide HMay).1 q).1)
      clear t1
      go_quiet (fail)
      have HK3 := hide ((unhide HK2).drewN nq)
      have HF3 := hide ((unhide HF2).drewN nq)
      have HX3 : Hid (BK (w2.drewN nq) bx 40 #[.int .i64 m.kind, .int .i64 m.frm, .int .i64 m.dest, .int .i64 m.term, .int .i64 m.index, .int .i64 m.logTerm, .int .i64 m.commit, .slice ia IL ic, .bool m.yes]) := HX2
      go_upto_region 6 with fail
      generalize w2.drewN nq = w3 at HK3 HF3 HX3 ⊢
      have q1 := (unhide HX3).at (j := 1) rfl
      have CS := hide (say_any B p (x) [] o { kind := 2, frm := x.id, dest := m.frm, term := x.term, index := 0, logTerm := 0, commit := 0, items := [], yes := false } (.slice none 0 0) w3 (unhide HK3) (SC.nil _ _ _) (by simp) rfl rfl 0 0)
      go_wp2_with (go_at_call 48; refine (unhide CS).mono ?_; rintro e w4 ⟨rfl, s4, cs4, hK4, hF4⟩)
      have FIN := hide (And.intro hK4 ((unhide HF3).trans hF4))
      clear hK4 hF4 CS
      go_end0
      rw [(unhide HOn).1, (unhide HOn).2]
      rw [if_neg (unhide HM), decide_eq_false (unhide HM)]
      exact ⟨rfl, _, (unhide FIN).1, (unhide FIN).2⟩

end Go.Proofs.Ytneepoaimbnneaa.RW
