/- Walks: Propose (the document's). (Its pieces: gen_ob.py; written by mk_ob.py.) -/
import Derived.Test.YtiplnegiphhdlaaOB1
namespace Go.Proofs.Ytiplnegiphhdlaa.R15
open Go.RowKit

set_option maxHeartbeats 4000000 in
set_option maxRecDepth 100000 in
theorem propose_new (P : Nat → Prop) (x : Rf.Node) (v : Array Value) (cmd : Int) (w : World) (hv : NV P w v x) (hP : ∀ c, P c → c < w.heap.size) (hsz : x.next.length + x.mtch.length ≤ 9223372036854775807) : Calls Try.prog 13 #[.agg v, .int .i64 cmd] w (PNMB P w (Rf.propose x cmd)) := by
  have HP := hide hP
  have HV := hide hv
  obtain ⟨lv, vv, nv, mv, rfl, h2, h3, h4, h5⟩ := hv
  obtain ⟨la, LL, lc, rfl, hLL, hlc, _⟩ := SC.shp h2
  obtain ⟨va, VL, vc, rfl, hVL, _, _⟩ := SC.shp h3
  obtain ⟨na, NL, nc, rfl, hNL, _, _⟩ := SC.shp h4
  obtain ⟨ma, ML, mc, rfl, hML, _, _⟩ := SC.shp h5
  clear h2 h3 h4 h5 hP
  obtain ⟨W0, hW0⟩ : ∃ W0, W0 = (w.alloc (.cells #[.int .i64 x.id, .int .i64 x.n, .int .i64 x.term, .int .i64 x.vote, .slice la LL lc, .int .i64 x.commit, .int .i64 x.role, .int .i64 x.boss, .slice va VL vc, .slice na NL nc, .slice ma ML mc] 25)).alloc (.cells #[.int .i64 0, .int .i64 0, .int .i64 0, .int .i64 0, .slice none 0 0, .int .i64 0, .int .i64 0, .int .i64 0, .slice none 0 0, .slice none 0 0, .slice none 0 0] 25) := ⟨_, rfl⟩
  have HB0 : Hid (Below w.heap.size w W0) := hide (by rw [hW0]; exact (below_new _ _).alloc (by simp) _)
  have HX0 : Hid (BK W0 w.heap.size 25 #[.int .i64 x.id, .int .i64 x.n, .int .i64 x.term, .int .i64 x.vote, .slice la LL lc, .int .i64 x.commit, .int .i64 x.role, .int .i64 x.boss, .slice va VL vc, .slice na NL nc, .slice ma ML mc]) := hide (by rw [hW0]; exact (BK.new w _ _).keep (below_new _ _))
  have HR0 : Hid (BK W0 (w.heap.size + 1) 25 #[.int .i64 0, .int .i64 0, .int .i64 0, .int .i64 0, .slice none 0 0, .int .i64 0, .int .i64 0, .int .i64 0, .slice none 0 0, .slice none 0 0, .slice none 0 0]) := hide (by
    rw [hW0]
    exact BK.new' _ _ _ (by simp))
  obtain ⟨c0, c1, c2, c3, c4, c5, c6, c7, c8, c9, c10⟩ := (show NX W0 w.heap.size _ _ _ _ _ _ _ _ _ _ _ from unhide HX0).tell
  have CW := hide (wrong_any x #[.int .i64 x.id, .int .i64 x.n, .int .i64 x.term, .int .i64 x.vote, .slice la LL lc, .int .i64 x.commit, .int .i64 x.role, .int .i64 x.boss, .slice va VL vc, .slice na NL nc, .slice ma ML mc] W0 (NV.keep (keptN (unhide HP) (unhide HB0)) (unhide HV)) hsz)
  obtain ⟨we, hwe⟩ : ∃ we, we = Rf.wrongN x := ⟨_, rfl⟩
  rw [← hwe] at CW
  have HWe := hide hwe
  clear hsz hwe
  go_enter Try.func13, Try.ntmps13
  go_wp2_with fail
  rw [← hW0]
  clear hW0
  refine (unhide CW).mono ?_
  rintro e w1 ⟨rfl, b1⟩
  have X1 := (unhide HX0).keep b1
  have R1 := (unhide HR0).keep b1
  have B1 := hide (below_via (unhide HB0) b1)
  have V1 : Hid (NV (Aw P w.heap.size w1) w1 #[.int .i64 x.id, .int .i64 x.n, .int .i64 x.term, .int .i64 x.vote, .slice la LL lc, .int .i64 x.commit, .int .i64 x.role, .int .i64 x.boss, .slice va VL vc, .slice na NL nc, .slice ma ML mc] x) := hide ((unhide HV).keep fun c hc => ⟨.inl hc, (unhide B1).block c (unhide HP c hc)⟩)
  have HX1 := hide X1
  have HR1 := hide R1
  clear HX0 HR0 HB0 c0 c1 c2 c3 c4 c5 c6 c7 c8 c9 c10 CW b1
  obtain ⟨c0, c1, c2, c3, c4, c5, c6, c7, c8, c9, c10⟩ := (show NX w1 w.heap.size _ _ _ _ _ _ _ _ _ _ _ from X1).tell
  obtain ⟨r0, r1, r2, r3, r4, r5, r6, r7, r8, r9, r10⟩ := (show NX w1 (w.heap.size + 1) _ _ _ _ _ _ _ _ _ _ _ from R1).tell
  obtain ⟨t0, t1, t2, t3, t4, t5, t6, t7, t8, t9, t10⟩ := R1.thaw11
  have rl := R1.low
  by_cases hq : we = 0
  case neg =>
    have g1 : (we != 0) = true := by simpa using hq
    have HE : Hid (Rf.propose x cmd = (x, [], false)) := hide (by rw [Rf.propose, if_pos (.inl (by rw [← unhide HWe]; exact hq))])
    have FIN : Hid (PNMB P w (Rf.propose x cmd) (.returned (.tuple #[.agg #[.int .i64 x.id, .int .i64 x.n, .int .i64 x.term, .int .i64 x.vote, .slice la LL lc, .int .i64 x.commit, .int .i64 x.role, .int .i64 x.boss, .slice va VL vc, .slice na NL nc, .slice ma ML mc], .slice none 0 0, .bool false])) (put11 w1 (w.heap.size + 1) (.int .i64 x.id) (.int .i64 x.n) (.int .i64 x.term) (.int .i64 x.vote) (.slice la LL lc) (.int .i64 x.commit) (.int .i64 x.role) (.int .i64 x.boss) (.slice va VL vc) (.slice na NL nc) (.slice ma ML mc))) := hide (by
      rw [unhide HE]
      exact pnmb_ret (unhide HP) R1.low (unhide V1) (unhide B1) (Below.refl _ _) (MV.nil _ _))
    clear X1 R1 HX1 HR1 V1 B1 HE hq
    go_wp2
    exact bodyPost_ret (v := .tuple #[.agg #[.int .i64 x.id, .int .i64 x.n, .int .i64 x.term, .int .i64 x.vote, .slice la LL lc, .int .i64 x.commit, .int .i64 x.role, .int .i64 x.boss, .slice va VL vc, .slice na NL nc, .slice ma ML mc], .slice none 0 0, .bool false]) (by simp [results, Try.results13, go_sem, r0, r1, r2, r3, r4, r5, r6, r7, r8, r9, r10]) rfl (unhide FIN)
  have g1 : (we != 0) = false := by simpa using hq
  have Hq : Hid (Rf.wrongN x = 0) := hide (by rw [← unhide HWe]; exact hq)
  clear hq HWe
  by_cases hq : x.role = 3
  case neg =>
    have g2 : (x.role != 3) = true := by simpa using hq
    have HE : Hid (Rf.propose x cmd = (x, [], false)) := hide (by rw [Rf.propose, if_pos (.inr (.inl hq))])
    have FIN : Hid (PNMB P w (Rf.propose x cmd) (.returned (.tuple #[.agg #[.int .i64 x.id, .int .i64 x.n, .int .i64 x.term, .int .i64 x.vote, .slice la LL lc, .int .i64 x.commit, .int .i64 x.role, .int .i64 x.boss, .slice va VL vc, .slice na NL nc, .slice ma ML mc], .slice none 0 0, .bool false])) (put11 w1 (w.heap.size + 1) (.int .i64 x.id) (.int .i64 x.n) (.int .i64 x.term) (.int .i64 x.vote) (.slice la LL lc) (.int .i64 x.commit) (.int .i64 x.role) (.int .i64 x.boss) (.slice va VL vc) (.slice na NL nc) (.slice ma ML mc))) := hide (by
      rw [unhide HE]
      exact pnmb_ret (unhide HP) R1.low (unhide V1) (unhide B1) (Below.refl _ _) (MV.nil _ _))
    clear X1 R1 HX1 HR1 V1 B1 HE hq
    go_wp2
    exact bodyPost_ret (v := .tuple #[.agg #[.int .i64 x.id, .int .i64 x.n, .int .i64 x.term, .int .i64 x.vote, .slice la LL lc, .int .i64 x.commit, .int .i64 x.role, .int .i64 x.boss, .slice va VL vc, .slice na NL nc, .slice ma ML mc], .slice none 0 0, .bool false]) (by simp [results, Try.results13, go_sem, r0, r1, r2, r3, r4, r5, r6, r7, r8, r9, r10]) rfl (unhide FIN)
  have g2 : (x.role != 3) = false := by simpa using hq
  have Hr := hide hq
  clear hq
  by_cases hq : LL < 60
  case neg =>
    have g3 : (60 : Int) ≤ (LL : Int) := by omega
    have HE : Hid (Rf.propose x cmd = (x, [], false)) := hide (by rw [Rf.propose, if_pos (.inr (.inr (by have := unhide hLL; omega)))])
    have FIN : Hid (PNMB P w (Rf.propose x cmd) (.returned (.tuple #[.agg #[.int .i64 x.id, .int .i64 x.n, .int .i64 x.term, .int .i64 x.vote, .slice la LL lc, .int .i64 x.commit, .int .i64 x.role, .int .i64 x.boss, .slice va VL vc, .slice na NL nc, .slice ma ML mc], .slice none 0 0, .bool false])) (put11 w1 (w.heap.size + 1) (.int .i64 x.id) (.int .i64 x.n) (.int .i64 x.term) (.int .i64 x.vote) (.slice la LL lc) (.int .i64 x.commit) (.int .i64 x.role) (.int .i64 x.boss) (.slice va VL vc) (.slice na NL nc) (.slice ma ML mc))) := hide (by
      rw [unhide HE]
      exact pnmb_ret (unhide HP) R1.low (unhide V1) (unhide B1) (Below.refl _ _) (MV.nil _ _))
    clear X1 R1 HX1 HR1 V1 B1 HE hq
    go_wp2
    exact bodyPost_ret (v := .tuple #[.agg #[.int .i64 x.id, .int .i64 x.n, .int .i64 x.term, .int .i64 x.vote, .slice la LL lc, .int .i64 x.commit, .int .i64 x.role, .int .i64 x.boss, .slice va VL vc, .slice na NL nc, .slice ma ML mc], .slice none 0 0, .bool false]) (by simp [results, Try.results13, go_sem, r0, r1, r2, r3, r4, r5, r6, r7, r8, r9, r10]) rfl (unhide FIN)
  have g3 : ¬ (60 : Int) ≤ (LL : Int) := by omega
  have HE : Hid (Rf.propose x cmd = ((Rf.put x cmd).1, (Rf.put x cmd).2, true)) := hide (by rw [Rf.propose, if_neg (fun q => q.elim (fun q => q (unhide Hq)) (fun q => q.elim (fun q => q (unhide Hr)) (fun q => by have := unhide hLL; omega)))])
  have HLd := hide (Rf.right_leads (unhide Hq) (unhide Hr))
  have CS := hide (put_new (Aw P w.heap.size w1) x cmd _ w1 (unhide V1) (fun c hc => (Aw.lt (unhide HP) X1.low hc).1) (unhide HLd))
  clear X1 R1 r0 r1 r2 r3 r4 r5 r6 r7 r8 r9 r10 t0 t1 t2 t3 t4 t5 t6 t7 t8 t9 t10 rl hq
  go_wp2_with fail
  refine (unhide CS).mono ?_
  rintro e w6 ⟨v6, m6, rfl, hv6, hm6, b6⟩
  obtain ⟨⟨z, zm⟩, hz⟩ : ∃ z, z = Rf.put x cmd := ⟨_, rfl⟩
  rw [← hz] at hv6 hm6 HE
  clear hz
  simp only at hv6 hm6 HE
  obtain ⟨lv6, vv6, nv6, mv6, rfl, p1, p2, p3, p4⟩ := id hv6
  obtain ⟨la6, L6, lc6, rfl, _, _, _⟩ := SC.shp p1
  obtain ⟨va6, V6, vc6, rfl, _, _, _⟩ := SC.shp p2
  obtain ⟨na6, N6, nc6, rfl, _, _, _⟩ := SC.shp p3
  obtain ⟨ma6, M6, mc6, rfl, _, _, _⟩ := SC.shp p4
  obtain ⟨ms6, ML6, mk6, rfl⟩ := mv_slice hm6
  clear p1 p2 p3 p4
  have X6 := (unhide HX1).keep b6
  have R6 := (unhide HR1).keep b6
  have lowR := (unhide HR1).low
  obtain ⟨d0, d1, d2, d3, d4, d5, d6, d7, d8, d9, d10⟩ := (show NX w6 w.heap.size _ _ _ _ _ _ _ _ _ _ _ from X6).tell
  obtain ⟨s0, s1, s2, s3, s4, s5, s6, s7, s8, s9, s10⟩ := X6.thaw11
  have dl := X6.low
  have xx6 : BK (put11 w6 w.heap.size (.int .i64 z.id) (.int .i64 z.n) (.int .i64 z.term) (.int .i64 z.vote) (.slice la6 L6 lc6) (.int .i64 z.commit) (.int .i64 z.role) (.int .i64 z.boss) (.slice va6 V6 vc6) (.slice na6 N6 nc6) (.slice ma6 M6 mc6)) w.heap.size 25 #[.int .i64 z.id, .int .i64 z.n, .int .i64 z.term, .int .i64 z.vote, .slice la6 L6 lc6, .int .i64 z.commit, .int .i64 z.role, .int .i64 z.boss, .slice va6 V6 vc6, .slice na6 N6 nc6, .slice ma6 M6 mc6] := BK.put11 X6 (.int .i64 z.id) (.int .i64 z.n) (.int .i64 z.term) (.int .i64 z.vote) (.slice la6 L6 lc6) (.int .i64 z.commit) (.int .i64 z.role) (.int .i64 z.boss) (.slice va6 V6 vc6) (.slice na6 N6 nc6) (.slice ma6 M6 mc6)
  have rr6 := bk_out11 (v0 := .int .i64 z.id) (v1 := .int .i64 z.n) (v2 := .int .i64 z.term) (v3 := .int .i64 z.vote) (v4 := .slice la6 L6 lc6) (v5 := .int .i64 z.commit) (v6 := .int .i64 z.role) (v7 := .int .i64 z.boss) (v8 := .slice va6 V6 vc6) (v9 := .slice na6 N6 nc6) (v10 := .slice ma6 M6 mc6) R6 (show w.heap.size + 1 ≠ w.heap.size by omega)
  have B6 : Hid (Below w.heap.size w (put11 w6 w.heap.size (.int .i64 z.id) (.int .i64 z.n) (.int .i64 z.term) (.int .i64 z.vote) (.slice la6 L6 lc6) (.int .i64 z.commit) (.int .i64 z.role) (.int .i64 z.boss) (.slice va6 V6 vc6) (.slice na6 N6 nc6) (.slice ma6 M6 mc6))) := hide (below_put11 (below_via (unhide B1) b6) (Nat.le_refl _))
  have V6' : Hid (NV (Aw P w.heap.size (put11 w6 w.heap.size (.int .i64 z.id) (.int .i64 z.n) (.int .i64 z.term) (.int .i64 z.vote) (.slice la6 L6 lc6) (.int .i64 z.commit) (.int .i64 z.role) (.int .i64 z.boss) (.slice va6 V6 vc6) (.slice na6 N6 nc6) (.slice ma6 M6 mc6))) (put11 w6 w.heap.size (.int .i64 z.id) (.int .i64 z.n) (.int .i64 z.term) (.int .i64 z.vote) (.slice la6 L6 lc6) (.int .i64 z.commit) (.int .i64 z.role) (.int .i64 z.boss) (.slice va6 V6 vc6) (.slice na6 N6 nc6) (.slice ma6 M6 mc6)) #[.int .i64 z.id, .int .i64 z.n, .int .i64 z.term, .int .i64 z.vote, .slice la6 L6 lc6, .int .i64 z.commit, .int .i64 z.role, .int .i64 z.boss, .slice va6 V6 vc6, .slice na6 N6 nc6, .slice ma6 M6 mc6] z) := hide (hv6.keep fun c hc => by
    have hc' : Aw P w.heap.size w6 c := hc.elim (fun q => q.mono b6.size) (fun q => .inr ⟨by have := q.1; omega, q.2⟩)
    exact ⟨hc'.mono (Nat.le_of_eq (put11_size _ _ _ _ _ _ _ _ _ _ _ _ _).symm), put11_heap _ _ _ (Aw.lt (unhide HP) dl hc').2 _ _ _ _ _ _ _ _ _ _ _⟩)
  have M6' : Hid (MV (fun c => w.heap.size + 1 < c ∧ c < (put11 w6 w.heap.size (.int .i64 z.id) (.int .i64 z.n) (.int .i64 z.term) (.int .i64 z.vote) (.slice la6 L6 lc6) (.int .i64 z.commit) (.int .i64 z.role) (.int .i64 z.boss) (.slice va6 V6 vc6) (.slice na6 N6 nc6) (.slice ma6 M6 mc6)).heap.size) (put11 w6 w.heap.size (.int .i64 z.id) (.int .i64 z.n) (.int .i64 z.term) (.int .i64 z.vote) (.slice la6 L6 lc6) (.int .i64 z.commit) (.int .i64 z.role) (.int .i64 z.boss) (.slice va6 V6 vc6) (.slice na6 N6 nc6) (.slice ma6 M6 mc6)) (.slice ms6 ML6 mk6) zm) := hide (hm6.keep fun c hc => ⟨⟨by have := hc.1; omega, by rw [put11_size]; exact hc.2⟩, put11_heap _ _ _ (by have := hc.1; omega) _ _ _ _ _ _ _ _ _ _ _⟩)
  have X7 := hide xx6
  have R7 := hide rr6
  unfold put11 at B6 V6' M6' X7 R7
  clear xx6 rr6 X6 R6 lowR HX1 HR1 B1 V1 HLd CS hv6 hm6 b6 c0 c1 c2 c3 c4 c5 c6 c7 c8 c9 c10
  go_upto_region 4 with fail
  clear d0 d1 d2 d3 d4 d5 d6 d7 d8 d9 d10 s0 s1 s2 s3 s4 s5 s6 s7 s8 s9 s10 dl
  generalize ((((((((((w6.setCell ⟨w.heap.size, 0, none⟩ (.int .i64 z.id)).setCell ⟨w.heap.size, 1, none⟩ (.int .i64 z.n)).setCell ⟨w.heap.size, 2, none⟩ (.int .i64 z.term)).setCell ⟨w.heap.size, 3, none⟩ (.int .i64 z.vote)).setCell ⟨w.heap.size, 4, none⟩ (.slice la6 L6 lc6)).setCell ⟨w.heap.size, 5, none⟩ (.int .i64 z.commit)).setCell ⟨w.heap.size, 6, none⟩ (.int .i64 z.role)).setCell ⟨w.heap.size, 7, none⟩ (.int .i64 z.boss)).setCell ⟨w.heap.size, 8, none⟩ (.slice va6 V6 vc6)).setCell ⟨w.heap.size, 9, none⟩ (.slice na6 N6 nc6)).setCell ⟨w.heap.size, 10, none⟩ (.slice ma6 M6 mc6) = w7 at B6 V6' M6' X7 R7 ⊢
  obtain ⟨d0, d1, d2, d3, d4, d5, d6, d7, d8, d9, d10⟩ := (show NX w7 w.heap.size _ _ _ _ _ _ _ _ _ _ _ from unhide X7).tell
  obtain ⟨r0, r1, r2, r3, r4, r5, r6, r7, r8, r9, r10⟩ := (show NX w7 (w.heap.size + 1) _ _ _ _ _ _ _ _ _ _ _ from unhide R7).tell
  obtain ⟨t0, t1, t2, t3, t4, t5, t6, t7, t8, t9, t10⟩ := (unhide R7).thaw11
  have rl := (unhide R7).low
  have FIN : Hid (PNMB P w (Rf.propose x cmd) (.returned (.tuple #[.agg #[.int .i64 z.id, .int .i64 z.n, .int .i64 z.term, .int .i64 z.vote, .slice la6 L6 lc6, .int .i64 z.commit, .int .i64 z.role, .int .i64 z.boss, .slice va6 V6 vc6, .slice na6 N6 nc6, .slice ma6 M6 mc6], .slice ms6 ML6 mk6, .bool true])) (put11 w7 (w.heap.size + 1) (.int .i64 z.id) (.int .i64 z.n) (.int .i64 z.term) (.int .i64 z.vote) (.slice la6 L6 lc6) (.int .i64 z.commit) (.int .i64 z.role) (.int .i64 z.boss) (.slice va6 V6 vc6) (.slice na6 N6 nc6) (.slice ma6 M6 mc6))) := hide (by
    rw [unhide HE]
    exact pnmb_ret2 (unhide HP) rl (unhide V6') (unhide B6) (unhide M6'))
  clear B6 V6' M6' X7 R7 HE
  go_wp2
  exact bodyPost_ret (v := .tuple #[.agg #[.int .i64 z.id, .int .i64 z.n, .int .i64 z.term, .int .i64 z.vote, .slice la6 L6 lc6, .int .i64 z.commit, .int .i64 z.role, .int .i64 z.boss, .slice va6 V6 vc6, .slice na6 N6 nc6, .slice ma6 M6 mc6], .slice ms6 ML6 mk6, .bool true]) (by simp [results, Try.results13, go_sem, r0, r1, r2, r3, r4, r5, r6, r7, r8, r9, r10]) rfl (unhide FIN)

end Go.Proofs.Ytiplnegiphhdlaa.R15
