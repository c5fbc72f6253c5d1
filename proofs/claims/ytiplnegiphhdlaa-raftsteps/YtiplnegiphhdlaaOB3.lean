/- Walks: Restart (the document's). (Its pieces: gen_ob.py; written by mk_ob.py.) -/
import Derived.Test.YtiplnegiphhdlaaOB1
namespace Go.Proofs.Ytiplnegiphhdlaa.R15
open Go.RowKit

set_option maxHeartbeats 4000000 in
set_option maxRecDepth 100000 in
theorem restart_new (P : Nat → Prop) (x : Rf.Node) (v : Array Value) (w : World) (hv : NV P w v x) (hP : ∀ c, P c → c < w.heap.size) (hsz : x.next.length + x.mtch.length ≤ 9223372036854775807) : Calls Try.prog 15 #[.agg v] w (PN P w (Rf.restart x)) := by
  have HP := hide hP
  have HV := hide hv
  obtain ⟨lv, vv, nv, mv, rfl, h2, h3, h4, h5⟩ := hv
  obtain ⟨la, LL, lc, rfl, hLL, hlc, _⟩ := SC.shp h2
  obtain ⟨va, VL, vc, rfl, hVL, _, _⟩ := SC.shp h3
  obtain ⟨na, NL, nc, rfl, hNL, _, _⟩ := SC.shp h4
  obtain ⟨ma, ML, mc, rfl, hML, _, _⟩ := SC.shp h5
  clear h2 h3 h4 h5 hP
  obtain ⟨W0, hW0⟩ : ∃ W0, W0 = (w.alloc (.cells #[.int .i64 x.id, .int .i64 x.n, .int .i64 x.term, .int .i64 x.vote, .slice la LL lc, .int .i64 x.commit, .int .i64 x.role, .int .i64 x.boss, .slice va VL vc, .slice na NL nc, .slice ma ML mc] 25)).alloc (.cells #[.int .i64 0, .int .i64 0, .int .i64 0, .int .i64 0, .slice none 0 0, .int .i64 0, .int .i64 0, .int .i64 0, .slice none 0 0, .slice none 0 0, .slice none 0 0] 25) := ⟨_, rfl⟩
  have HB0 : Hid (Below w.heap.size w W0) := hide (by rw [hW0]; exact (below_new _ _).alloc (by simp) _)
  have HX0 : Hid (BK W0 w.heap.size 25 #[.int .i64 x.id, .int .i64 x.n, .int .i64 x.term, .int .i64 x.vote, .slice la LL lc, .int .i64 x.commit, .int .i64 x.role, .int .i64 x.boss, .slice va VL vc, .slice na NL nc, .slice ma ML mc]) := hide (by rw [hW0]; exact (BK.new w _ _).keep (below_new _ _))
  have HR0 : Hid (BK W0 (w.heap.size + 1) 25 #[.int .i64 0, .int .i64 0, .int .i64 0, .int .i64 0, .slice none 0 0, .int .i64 0, .int .i64 0, .int .i64 0, .slice none 0 0, .slice none 0 0, .slice none 0 0]) := hide (by
    rw [hW0]
    exact BK.new' _ _ _ (by simp))
  obtain ⟨c0, c1, c2, c3, c4, c5, c6, c7, c8, c9, c10⟩ := (show NX W0 w.heap.size _ _ _ _ _ _ _ _ _ _ _ from unhide HX0).tell
  have CW := hide (wrong_any x #[.int .i64 x.id, .int .i64 x.n, .int .i64 x.term, .int .i64 x.vote, .slice la LL lc, .int .i64 x.commit, .int .i64 x.role, .int .i64 x.boss, .slice va VL vc, .slice na NL nc, .slice ma ML mc] W0 (NV.keep (keptN (unhide HP) (unhide HB0)) (unhide HV)) hsz)
  obtain ⟨we, hwe⟩ : ∃ we, we = Rf.wrongN x := ⟨_, rfl⟩
  rw [← hwe] at CW
  have HWe := hide hwe
  clear hsz hwe
  go_enter Try.func15, Try.ntmps15
  go_wp2_with fail
  rw [← hW0]
  clear hW0
  refine (unhide CW).mono ?_
  rintro e w1 ⟨rfl, b1⟩
  have X1 := (unhide HX0).keep b1
  have R1 := (unhide HR0).keep b1
  have B1 := hide (below_via (unhide HB0) b1)
  have V1 : Hid (NV (Aw P w.heap.size w1) w1 #[.int .i64 x.id, .int .i64 x.n, .int .i64 x.term, .int .i64 x.vote, .slice la LL lc, .int .i64 x.commit, .int .i64 x.role, .int .i64 x.boss, .slice va VL vc, .slice na NL nc, .slice ma ML mc] x) := hide ((unhide HV).keep fun c hc => ⟨.inl hc, (unhide B1).block c (unhide HP c hc)⟩)
  have HX1 := hide X1
  have HR1 := hide R1
  clear HX0 HR0 HB0 c0 c1 c2 c3 c4 c5 c6 c7 c8 c9 c10 CW b1
  obtain ⟨c0, c1, c2, c3, c4, c5, c6, c7, c8, c9, c10⟩ := (show NX w1 w.heap.size _ _ _ _ _ _ _ _ _ _ _ from X1).tell
  obtain ⟨r0, r1, r2, r3, r4, r5, r6, r7, r8, r9, r10⟩ := (show NX w1 (w.heap.size + 1) _ _ _ _ _ _ _ _ _ _ _ from R1).tell
  obtain ⟨t0, t1, t2, t3, t4, t5, t6, t7, t8, t9, t10⟩ := R1.thaw11
  have rl := R1.low
  by_cases hq : we = 0
  case neg =>
    have g1 : (we != 0) = true := by simpa using hq
    have HE : Hid (Rf.restart x = x) := hide (by rw [Rf.restart, if_pos (by rw [← unhide HWe]; exact hq)])
    have FIN : Hid (PN P w (Rf.restart x) (.returned (.agg #[.int .i64 x.id, .int .i64 x.n, .int .i64 x.term, .int .i64 x.vote, .slice la LL lc, .int .i64 x.commit, .int .i64 x.role, .int .i64 x.boss, .slice va VL vc, .slice na NL nc, .slice ma ML mc])) (put11 w1 (w.heap.size + 1) (.int .i64 x.id) (.int .i64 x.n) (.int .i64 x.term) (.int .i64 x.vote) (.slice la LL lc) (.int .i64 x.commit) (.int .i64 x.role) (.int .i64 x.boss) (.slice va VL vc) (.slice na NL nc) (.slice ma ML mc))) := hide (by
      rw [unhide HE]
      exact pn_ret (unhide HP) R1.low (unhide V1) (unhide B1))
    clear X1 R1 HX1 HR1 V1 B1 HE hq
    go_wp2
    exact bodyPost_ret (v := .agg #[.int .i64 x.id, .int .i64 x.n, .int .i64 x.term, .int .i64 x.vote, .slice la LL lc, .int .i64 x.commit, .int .i64 x.role, .int .i64 x.boss, .slice va VL vc, .slice na NL nc, .slice ma ML mc]) (by simp [results, Try.results15, go_sem, r0, r1, r2, r3, r4, r5, r6, r7, r8, r9, r10]) rfl (unhide FIN)
  have g1 : (we != 0) = false := by simpa using hq
  have HE : Hid (Rf.restart x = { Rf.follow x 0 with commit := 0 }) := hide (by rw [Rf.restart, if_neg (fun q => q (by rw [← unhide HWe]; exact hq))])
  have CS := hide (follower_new (Aw P w.heap.size w1) x _ 0 w1 (unhide V1) (fun c hc => (Aw.lt (unhide HP) X1.low hc).1))
  clear X1 R1 r0 r1 r2 r3 r4 r5 r6 r7 r8 r9 r10 t0 t1 t2 t3 t4 t5 t6 t7 t8 t9 t10 rl hq HWe
  go_wp2_with fail
  refine (unhide CS).mono ?_
  rintro e w6 ⟨v6, rfl, hv6, b6⟩
  obtain ⟨z, hz⟩ : ∃ z, z = Rf.follow x 0 := ⟨_, rfl⟩
  rw [← hz] at hv6 HE
  clear hz
  obtain ⟨lv6, vv6, nv6, mv6, rfl, p1, p2, p3, p4⟩ := id hv6
  obtain ⟨la6, L6, lc6, rfl, _, _, _⟩ := SC.shp p1
  obtain ⟨va6, V6, vc6, rfl, _, _, _⟩ := SC.shp p2
  obtain ⟨na6, N6, nc6, rfl, _, _, _⟩ := SC.shp p3
  obtain ⟨ma6, M6, mc6, rfl, _, _, _⟩ := SC.shp p4
  clear p1 p2 p3 p4
  have X6 := (unhide HX1).keep b6
  have R6 := (unhide HR1).keep b6
  have lowR := (unhide HR1).low
  obtain ⟨d0, d1, d2, d3, d4, d5, d6, d7, d8, d9, d10⟩ := (show NX w6 w.heap.size _ _ _ _ _ _ _ _ _ _ _ from X6).tell
  obtain ⟨s0, s1, s2, s3, s4, s5, s6, s7, s8, s9, s10⟩ := X6.thaw11
  have dl := X6.low
  have xx6 : BK (put11 w6 w.heap.size (.int .i64 z.id) (.int .i64 z.n) (.int .i64 z.term) (.int .i64 z.vote) (.slice la6 L6 lc6) (.int .i64 z.commit) (.int .i64 z.role) (.int .i64 z.boss) (.slice va6 V6 vc6) (.slice na6 N6 nc6) (.slice ma6 M6 mc6)) w.heap.size 25 #[.int .i64 z.id, .int .i64 z.n, .int .i64 z.term, .int .i64 z.vote, .slice la6 L6 lc6, .int .i64 z.commit, .int .i64 z.role, .int .i64 z.boss, .slice va6 V6 vc6, .slice na6 N6 nc6, .slice ma6 M6 mc6] := BK.put11 X6 (.int .i64 z.id) (.int .i64 z.n) (.int .i64 z.term) (.int .i64 z.vote) (.slice la6 L6 lc6) (.int .i64 z.commit) (.int .i64 z.role) (.int .i64 z.boss) (.slice va6 V6 vc6) (.slice na6 N6 nc6) (.slice ma6 M6 mc6)
  have rr6 := bk_out11 (v0 := .int .i64 z.id) (v1 := .int .i64 z.n) (v2 := .int .i64 z.term) (v3 := .int .i64 z.vote) (v4 := .slice la6 L6 lc6) (v5 := .int .i64 z.commit) (v6 := .int .i64 z.role) (v7 := .int .i64 z.boss) (v8 := .slice va6 V6 vc6) (v9 := .slice na6 N6 nc6) (v10 := .slice ma6 M6 mc6) R6 (show w.heap.size + 1 ≠ w.heap.size by omega)
  have B6 : Hid (Below w.heap.size w (put11 w6 w.heap.size (.int .i64 z.id) (.int .i64 z.n) (.int .i64 z.term) (.int .i64 z.vote) (.slice la6 L6 lc6) (.int .i64 z.commit) (.int .i64 z.role) (.int .i64 z.boss) (.slice va6 V6 vc6) (.slice na6 N6 nc6) (.slice ma6 M6 mc6))) := hide (below_put11 (below_via (unhide B1) b6) (Nat.le_refl _))
  have V6' : Hid (NV (Aw P w.heap.size (put11 w6 w.heap.size (.int .i64 z.id) (.int .i64 z.n) (.int .i64 z.term) (.int .i64 z.vote) (.slice la6 L6 lc6) (.int .i64 z.commit) (.int .i64 z.role) (.int .i64 z.boss) (.slice va6 V6 vc6) (.slice na6 N6 nc6) (.slice ma6 M6 mc6))) (put11 w6 w.heap.size (.int .i64 z.id) (.int .i64 z.n) (.int .i64 z.term) (.int .i64 z.vote) (.slice la6 L6 lc6) (.int .i64 z.commit) (.int .i64 z.role) (.int .i64 z.boss) (.slice va6 V6 vc6) (.slice na6 N6 nc6) (.slice ma6 M6 mc6)) #[.int .i64 z.id, .int .i64 z.n, .int .i64 z.term, .int .i64 z.vote, .slice la6 L6 lc6, .int .i64 z.commit, .int .i64 z.role, .int .i64 z.boss, .slice va6 V6 vc6, .slice na6 N6 nc6, .slice ma6 M6 mc6] z) := hide (hv6.keep fun c hc => by
    have hc' : Aw P w.heap.size w6 c := hc.elim (fun q => q.mono b6.size) (fun q => .inr ⟨by have := q.1; omega, q.2⟩)
    exact ⟨hc'.mono (Nat.le_of_eq (put11_size _ _ _ _ _ _ _ _ _ _ _ _ _).symm), put11_heap _ _ _ (Aw.lt (unhide HP) dl hc').2 _ _ _ _ _ _ _ _ _ _ _⟩)
  have X7 := hide xx6
  have R7 := hide rr6
  unfold put11 at B6 V6' X7 R7
  clear xx6 rr6 X6 R6 lowR HX1 HR1 B1 V1 CS hv6 b6 c0 c1 c2 c3 c4 c5 c6 c7 c8 c9 c10
  go_upto_region 4 with fail
  clear d0 d1 d2 d3 d4 d5 d6 d7 d8 d9 d10 s0 s1 s2 s3 s4 s5 s6 s7 s8 s9 s10 dl
  generalize ((((((((((w6.setCell ⟨w.heap.size, 0, none⟩ (.int .i64 z.id)).setCell ⟨w.heap.size, 1, none⟩ (.int .i64 z.n)).setCell ⟨w.heap.size, 2, none⟩ (.int .i64 z.term)).setCell ⟨w.heap.size, 3, none⟩ (.int .i64 z.vote)).setCell ⟨w.heap.size, 4, none⟩ (.slice la6 L6 lc6)).setCell ⟨w.heap.size, 5, none⟩ (.int .i64 z.commit)).setCell ⟨w.heap.size, 6, none⟩ (.int .i64 z.role)).setCell ⟨w.heap.size, 7, none⟩ (.int .i64 z.boss)).setCell ⟨w.heap.size, 8, none⟩ (.slice va6 V6 vc6)).setCell ⟨w.heap.size, 9, none⟩ (.slice na6 N6 nc6)).setCell ⟨w.heap.size, 10, none⟩ (.slice ma6 M6 mc6) = w7 at B6 V6' X7 R7 ⊢
  have k5 := (unhide X7).at (j := 5) rfl
  have k5f := (unhide X7).thaw 5
  have k5l := (unhide X7).low
  have X8 : Hid (BK (w7.setCell ⟨w.heap.size, 5, none⟩ (.int .i64 0)) w.heap.size 25 #[.int .i64 z.id, .int .i64 z.n, .int .i64 z.term, .int .i64 z.vote, .slice la6 L6 lc6, .int .i64 0, .int .i64 z.role, .int .i64 z.boss, .slice va6 V6 vc6, .slice na6 N6 nc6, .slice ma6 M6 mc6]) := hide ((unhide X7).set 5 _)
  have R8 := hide ((unhide R7).other ⟨w.heap.size, 5, none⟩ (.int .i64 0) (show w.heap.size + 1 ≠ w.heap.size by omega))
  have B8 := hide ((unhide B6).setCell (p := ⟨w.heap.size, 5, none⟩) (Nat.le_refl _) (.int .i64 0))
  have V8' : Hid (NV (Aw P w.heap.size (w7.setCell ⟨w.heap.size, 5, none⟩ (.int .i64 0))) (w7.setCell ⟨w.heap.size, 5, none⟩ (.int .i64 0)) #[.int .i64 z.id, .int .i64 z.n, .int .i64 z.term, .int .i64 z.vote, .slice la6 L6 lc6, .int .i64 0, .int .i64 z.role, .int .i64 z.boss, .slice va6 V6 vc6, .slice na6 N6 nc6, .slice ma6 M6 mc6] { z with commit := 0 }) := hide (by
    obtain ⟨q1, q2, q3, q4⟩ := And.intro (NV.log (unhide V6')) (NV.votes (unhide V6'))
    have k : ∀ c, Aw P w.heap.size w7 c → Aw P w.heap.size (w7.setCell ⟨w.heap.size, 5, none⟩ (.int .i64 0)) c ∧ (w7.setCell ⟨w.heap.size, 5, none⟩ (.int .i64 0)).heap[c]? = w7.heap[c]? := fun c hc => ⟨hc.mono (by simp [World.setCell]), Below.heap_setCell _ ⟨w.heap.size, 5, none⟩ _ c (Aw.lt (unhide HP) k5l hc).2⟩
    exact ⟨_, _, _, _, rfl, q1.keep k, q2.keep k, q3.keep k, q4.keep k⟩)
  clear X7 R7 B6 V6'
  go_upto_region 5 with fail
  clear k5 k5f k5l
  generalize w7.setCell ⟨w.heap.size, 5, none⟩ (.int .i64 0) = w8 at X8 R8 B8 V8' ⊢
  obtain ⟨d0, d1, d2, d3, d4, d5, d6, d7, d8, d9, d10⟩ := (show NX w8 w.heap.size _ _ _ _ _ _ _ _ _ _ _ from unhide X8).tell
  obtain ⟨r0, r1, r2, r3, r4, r5, r6, r7, r8, r9, r10⟩ := (show NX w8 (w.heap.size + 1) _ _ _ _ _ _ _ _ _ _ _ from unhide R8).tell
  obtain ⟨t0, t1, t2, t3, t4, t5, t6, t7, t8, t9, t10⟩ := (unhide R8).thaw11
  have rl := (unhide R8).low
  have FIN : Hid (PN P w (Rf.restart x) (.returned (.agg #[.int .i64 z.id, .int .i64 z.n, .int .i64 z.term, .int .i64 z.vote, .slice la6 L6 lc6, .int .i64 0, .int .i64 z.role, .int .i64 z.boss, .slice va6 V6 vc6, .slice na6 N6 nc6, .slice ma6 M6 mc6])) (put11 w8 (w.heap.size + 1) (.int .i64 z.id) (.int .i64 z.n) (.int .i64 z.term) (.int .i64 z.vote) (.slice la6 L6 lc6) (.int .i64 0) (.int .i64 z.role) (.int .i64 z.boss) (.slice va6 V6 vc6) (.slice na6 N6 nc6) (.slice ma6 M6 mc6))) := hide (by
    rw [unhide HE]
    exact pn_ret (unhide HP) rl (unhide V8') (unhide B8))
  clear B8 V8' X8 R8 HE
  go_wp2
  exact bodyPost_ret (v := .agg #[.int .i64 z.id, .int .i64 z.n, .int .i64 z.term, .int .i64 z.vote, .slice la6 L6 lc6, .int .i64 0, .int .i64 z.role, .int .i64 z.boss, .slice va6 V6 vc6, .slice na6 N6 nc6, .slice ma6 M6 mc6]) (by simp [results, Try.results15, go_sem, r0, r1, r2, r3, r4, r5, r6, r7, r8, r9, r10]) rfl (unhide FIN)

end Go.Proofs.Ytiplnegiphhdlaa.R15
