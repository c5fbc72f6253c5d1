/- Walks: Beat (the document's). (Its pieces: gen_ob.py; written by mk_ob.py.) -/
import Derived.Test.YtiplnegiphhdlaaOE
import Derived.Test.YtiplnegiphhdlaaMD
namespace Go.Proofs.Ytiplnegiphhdlaa.Rf
theorem right_leads {x : Node} (h : wrongN x = 0) (hr : x.role = 3) : Leads x := by
  have r := (wrongN_ok x).1 h
  have hl := r.lens
  rw [lensOk, if_pos hr] at hl
  exact ⟨r.n, r.id, hl.1, hl.2, r.log, r.places.1, r.commit⟩

end Go.Proofs.Ytiplnegiphhdlaa.Rf

namespace Go.Proofs.Ytiplnegiphhdlaa.R15
open Go.RowKit

set_option maxHeartbeats 4000000 in
set_option maxRecDepth 100000 in
theorem beat_new (P : Nat → Prop) (x : Rf.Node) (v : Array Value) (w : World) (hv : NV P w v x) (hP : ∀ c, P c → c < w.heap.size) (hsz : x.next.length + x.mtch.length ≤ 9223372036854775807) : Calls Try.prog 11 #[.agg v] w (PNM P w (Rf.beat x)) := by
  have HP := hide hP
  have HV := hide hv
  obtain ⟨lv, vv, nv, mv, rfl, h2, h3, h4, h5⟩ := hv
  obtain ⟨la, LL, lc, rfl, hLL, hlc, _⟩ := SC.shp h2
  obtain ⟨va, VL, vc, rfl, hVL, _, _⟩ := SC.shp h3
  obtain ⟨na, NL, nc, rfl, hNL, _, _⟩ := SC.shp h4
  obtain ⟨ma, ML, mc, rfl, hML, _, _⟩ := SC.shp h5
  clear h2 h3 h4 h5 hP
  obtain ⟨W0, hW0⟩ : ∃ W0, W0 = (w.alloc (.cells #[.int .i64 x.id, .int .i64 x.n, .int .i64 x.term, .int .i64 x.vote, .slice la LL lc, .int .i64 x.commit, .int .i64 x.role, .int .i64 x.boss, .slice va VL vc, .slice na NL nc, .slice ma ML mc] 25)).alloc (.cells #[.int .i64 0, .int .i64 0, .int .i64 0, .int .i64 0, .slice none 0 0, .int .i64 0, .int .i64 0, .int .i64 0, .slice none 0 0, .slice none 0 0, .slice none 0 0] 25) := ⟨_, rfl⟩
  have HB0 : Hid (Below w.heap.size w W0) := hide (by rw [hW0]; exact (below_new _ _).alloc (by simp) _)
  have HX0 : Hid (BK W0 w.heap.size 25 #[.int .i64 x.id, .int .i64 x.n, .int .i64 x.term, .int .i64 x.vote, .slice la LL lc, .int .i64 x.commit, .int .i64 x.role, .int .i64 x.boss, .slice va VL vc, .slice na NL nc, .slice ma ML mc]) := hide (by rw [hW0]; exact (BK.new w _ _).keep (below_new _ _))
  have HR0 : Hid (BK W0 (w.heap.size + 1) 25 #[.int .i64 0, .int .i64 0, .int .i64 0, .int .i64 0, .slice none 0 0, .int .i64 0, .int .i64 0, .int .i64 0, .slice none 0 0, .slice none 0 0, .slice none 0 0]) := hide (by
    rw [hW0]
    exact BK.new' _ _ _ (by simp))
  obtain ⟨c0, c1, c2, c3, c4, c5, c6, c7, c8, c9, c10⟩ := (show NX W0 w.heap.size _ _ _ _ _ _ _ _ _ _ _ from unhide HX0).tell
  have CW := hide (wrong_any x #[.int .i64 x.id, .int .i64 x.n, .int .i64 x.term, .int .i64 x.vote, .slice la LL lc, .int .i64 x.commit, .int .i64 x.role, .int .i64 x.boss, .slice va VL vc, .slice na NL nc, .slice ma ML mc] W0 (NV.keep (keptN (unhide HP) (unhide HB0)) (unhide HV)) hsz)
  obtain ⟨we, hwe⟩ : ∃ we, we = Rf.wrongN x := ⟨_, rfl⟩
  rw [← hwe] at CW
  have HWe := hide hwe
  clear hsz hwe
  go_enter Try.func11, Try.ntmps11
  go_wp2_with fail
  rw [← hW0]
  clear hW0
  refine (unhide CW).mono ?_
  rintro e w1 ⟨rfl, b1⟩
  have X1 := (unhide HX0).keep b1
  have R1 := (unhide HR0).keep b1
  have B1 := hide (below_via (unhide HB0) b1)
  have V1 : Hid (NV (Aw P w.heap.size w1) w1 #[.int .i64 x.id, .int .i64 x.n, .int .i64 x.term, .int .i64 x.vote, .slice la LL lc, .int .i64 x.commit, .int .i64 x.role, .int .i64 x.boss, .slice va VL vc, .slice na NL nc, .slice ma ML mc] x) := hide ((unhide HV).keep fun c hc => ⟨.inl hc, (unhide B1).block c (unhide HP c hc)⟩)
  have HX1 := hide X1
  have HR1 := hide R1
  clear HX0 HR0 HB0 c0 c1 c2 c3 c4 c5 c6 c7 c8 c9 c10 CW b1
  obtain ⟨c0, c1, c2, c3, c4, c5, c6, c7, c8, c9, c10⟩ := (show NX w1 w.heap.size _ _ _ _ _ _ _ _ _ _ _ from X1).tell
  obtain ⟨r0, r1, r2, r3, r4, r5, r6, r7, r8, r9, r10⟩ := (show NX w1 (w.heap.size + 1) _ _ _ _ _ _ _ _ _ _ _ from R1).tell
  obtain ⟨t0, t1, t2, t3, t4, t5, t6, t7, t8, t9, t10⟩ := R1.thaw11
  have rl := R1.low
  by_cases hq : we = 0
  case neg =>
    have g1 : (we != 0) = true := by simpa using hq
    have HE : Hid (Rf.beat x = (x, [])) := hide (by rw [Rf.beat, if_pos (.inl (by rw [← unhide HWe]; exact hq))])
    have FIN : Hid (PNM P w (Rf.beat x) (.returned (.tuple #[.agg #[.int .i64 x.id, .int .i64 x.n, .int .i64 x.term, .int .i64 x.vote, .slice la LL lc, .int .i64 x.commit, .int .i64 x.role, .int .i64 x.boss, .slice va VL vc, .slice na NL nc, .slice ma ML mc], .slice none 0 0])) (put11 w1 (w.heap.size + 1) (.int .i64 x.id) (.int .i64 x.n) (.int .i64 x.term) (.int .i64 x.vote) (.slice la LL lc) (.int .i64 x.commit) (.int .i64 x.role) (.int .i64 x.boss) (.slice va VL vc) (.slice na NL nc) (.slice ma ML mc))) := hide (by
      rw [unhide HE]
      exact pnm_ret (unhide HP) R1.low (unhide V1) (unhide B1) (Below.refl _ _) (MV.nil _ _))
    clear X1 R1 HX1 HR1 V1 B1 HE hq
    go_wp2
    exact bodyPost_ret (v := .tuple #[.agg #[.int .i64 x.id, .int .i64 x.n, .int .i64 x.term, .int .i64 x.vote, .slice la LL lc, .int .i64 x.commit, .int .i64 x.role, .int .i64 x.boss, .slice va VL vc, .slice na NL nc, .slice ma ML mc], .slice none 0 0]) (by simp [results, Try.results11, go_sem, r0, r1, r2, r3, r4, r5, r6, r7, r8, r9, r10]) rfl (unhide FIN)
  have g1 : (we != 0) = false := by simpa using hq
  have Hq : Hid (Rf.wrongN x = 0) := hide (by rw [← unhide HWe]; exact hq)
  clear hq HWe
  by_cases hq : x.role = 3
  case neg =>
    have g2 : (x.role != 3) = true := by simpa using hq
    have HE : Hid (Rf.beat x = (x, [])) := hide (by rw [Rf.beat, if_pos (.inr hq)])
    have FIN : Hid (PNM P w (Rf.beat x) (.returned (.tuple #[.agg #[.int .i64 x.id, .int .i64 x.n, .int .i64 x.term, .int .i64 x.vote, .slice la LL lc, .int .i64 x.commit, .int .i64 x.role, .int .i64 x.boss, .slice va VL vc, .slice na NL nc, .slice ma ML mc], .slice none 0 0])) (put11 w1 (w.heap.size + 1) (.int .i64 x.id) (.int .i64 x.n) (.int .i64 x.term) (.int .i64 x.vote) (.slice la LL lc) (.int .i64 x.commit) (.int .i64 x.role) (.int .i64 x.boss) (.slice va VL vc) (.slice na NL nc) (.slice ma ML mc))) := hide (by
      rw [unhide HE]
      exact pnm_ret (unhide HP) R1.low (unhide V1) (unhide B1) (Below.refl _ _) (MV.nil _ _))
    clear X1 R1 HX1 HR1 V1 B1 HE hq
    go_wp2
    exact bodyPost_ret (v := .tuple #[.agg #[.int .i64 x.id, .int .i64 x.n, .int .i64 x.term, .int .i64 x.vote, .slice la LL lc, .int .i64 x.commit, .int .i64 x.role, .int .i64 x.boss, .slice va VL vc, .slice na NL nc, .slice ma ML mc], .slice none 0 0]) (by simp [results, Try.results11, go_sem, r0, r1, r2, r3, r4, r5, r6, r7, r8, r9, r10]) rfl (unhide FIN)
  have g2 : (x.role != 3) = false := by simpa using hq
  have HE : Hid (Rf.beat x = (x, Rf.batches x)) := hide (by rw [Rf.beat, if_neg (fun q => q.elim (fun q => q (unhide Hq)) (fun q => q hq))])
  have HSe := hide (Rf.right_leads (unhide Hq) hq).sends
  have CB : Hid (∀ wx, Below w1.heap.size w1 wx → Calls Try.prog 32 #[.agg #[.int .i64 x.id, .int .i64 x.n, .int .i64 x.term, .int .i64 x.vote, .slice la LL lc, .int .i64 x.commit, .int .i64 x.role, .int .i64 x.boss, .slice va VL vc, .slice na NL nc, .slice ma ML mc]] wx (fun e w' => ∃ v, e = .returned v ∧ MV (Fresh wx w') w' v (Rf.batches x) ∧ Below wx.heap.size wx w')) := hide (fun wx hx => batches_any x #[.int .i64 x.id, .int .i64 x.n, .int .i64 x.term, .int .i64 x.vote, .slice la LL lc, .int .i64 x.commit, .int .i64 x.role, .int .i64 x.boss, .slice va VL vc, .slice na NL nc, .slice ma ML mc] wx ((NV.awNv (unhide HP) X1.low (unhide V1)).keep (kept hx)) (unhide HSe))
  clear X1 R1 r0 r1 r2 r3 r4 r5 r6 r7 r8 r9 r10 t0 t1 t2 t3 t4 t5 t6 t7 t8 t9 t10 rl hq
  go_wp2_with fail
  go_region_held2 (fun w' => w'.cell? ⟨w.heap.size, 0, none⟩ = some (.int .i64 x.id) ∧ w'.cell? ⟨w.heap.size, 1, none⟩ = some (.int .i64 x.n) ∧ w'.cell? ⟨w.heap.size, 2, none⟩ = some (.int .i64 x.term) ∧ w'.cell? ⟨w.heap.size, 3, none⟩ = some (.int .i64 x.vote) ∧ w'.cell? ⟨w.heap.size, 4, none⟩ = some (.slice la LL lc) ∧ w'.cell? ⟨w.heap.size, 5, none⟩ = some (.int .i64 x.commit) ∧ w'.cell? ⟨w.heap.size, 6, none⟩ = some (.int .i64 x.role) ∧ w'.cell? ⟨w.heap.size, 7, none⟩ = some (.int .i64 x.boss) ∧ w'.cell? ⟨w.heap.size, 8, none⟩ = some (.slice va VL vc) ∧ w'.cell? ⟨w.heap.size, 9, none⟩ = some (.slice na NL nc) ∧ w'.cell? ⟨w.heap.size, 10, none⟩ = some (.slice ma ML mc)) (first | go_keep | exact (show NX _ w.heap.size _ _ _ _ _ _ _ _ _ _ _ from ((unhide HX1).keep (by assumption))).tell)
    ((go_at_call 32; with_reducible refine (unhide CB _ (by repeat (first | with_reducible exact Below.refl _ _ | with_reducible apply Below.drew))).mono ?_; rintro e w8 ⟨mv8, rfl, hm8, hb0⟩; have hb8 : Below w1.heap.size w1 w8 := below_via (Below.refl w1.heap.size w1).drew hb0; have R8 := (unhide HR1).keep hb8; obtain ⟨r0, r1, r2, r3, r4, r5, r6, r7, r8, r9, r10⟩ := (show NX w8 (w.heap.size + 1) _ _ _ _ _ _ _ _ _ _ _ from R8).tell; obtain ⟨t0, t1, t2, t3, t4, t5, t6, t7, t8, t9, t10⟩ := R8.thaw11; have r8l := R8.low; obtain ⟨ms8, ML8, mk8, emv⟩ := mv_slice hm8; subst emv; have HM8 := hide hm8; have HB8 := hide hb8; clear hb0 R8 hm8))
  have FIN : Hid (PNM P w (Rf.beat x) (.returned (.tuple #[.agg #[.int .i64 x.id, .int .i64 x.n, .int .i64 x.term, .int .i64 x.vote, .slice la LL lc, .int .i64 x.commit, .int .i64 x.role, .int .i64 x.boss, .slice va VL vc, .slice na NL nc, .slice ma ML mc], .slice ms8 ML8 mk8])) (put11 w8 (w.heap.size + 1) (.int .i64 x.id) (.int .i64 x.n) (.int .i64 x.term) (.int .i64 x.vote) (.slice la LL lc) (.int .i64 x.commit) (.int .i64 x.role) (.int .i64 x.boss) (.slice va VL vc) (.slice na NL nc) (.slice ma ML mc))) := hide (by
    rw [unhide HE]
    exact pnm_ret (unhide HP) (unhide HR1).low (unhide V1) (unhide B1) (unhide HB8) (unhide HM8))
  clear V1 HM8 HB8 hb8 HX1 HR1 B1 HE HSe CB
  go_wp2
  exact bodyPost_ret (v := .tuple #[.agg #[.int .i64 x.id, .int .i64 x.n, .int .i64 x.term, .int .i64 x.vote, .slice la LL lc, .int .i64 x.commit, .int .i64 x.role, .int .i64 x.boss, .slice va VL vc, .slice na NL nc, .slice ma ML mc], .slice ms8 ML8 mk8]) (by simp [results, Try.results11, go_sem, r0, r1, r2, r3, r4, r5, r6, r7, r8, r9, r10]) rfl (unhide FIN)

end Go.Proofs.Ytiplnegiphhdlaa.R15
