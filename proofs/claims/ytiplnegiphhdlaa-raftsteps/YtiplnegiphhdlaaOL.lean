/- Walks: RaftSteps (verdictlaw15). (Written by mk_ol.py.) -/
import Derived.Test.YtiplnegiphhdlaaOT
import Derived.Test.YtiplnegiphhdlaaOB2
import Derived.Test.YtiplnegiphhdlaaOB3
import Derived.Test.YtiplnegiphhdlaaNJ
import Derived.Test.YtiplnegiphhdlaaOL0
namespace Go.Proofs.Ytiplnegiphhdlaa
open Go.RowKit

set_option maxHeartbeats 8000000 in
set_option maxRecDepth 100000 in
theorem steps_walk
    (rW : ∀ (x : Rf.Node) (v : Array Value) (w : World), Nv w v x → Calls Try.prog 4 #[.agg v] w fun e w' => e = .returned (.int .i64 (Rf.wrongN x)) ∧ Below w.heap.size w w')
    (rT : ∀ (P : Nat → Prop) (x : Rf.Node) (v : Array Value) (w : World), NV P w v x → (∀ b, P b → b < w.heap.size) → RW.FitN x → Calls Try.prog 6 #[.agg v] w (PNM P w (Rf.timeout x)))
    (rB : ∀ (P : Nat → Prop) (x : Rf.Node) (v : Array Value) (w : World), NV P w v x → (∀ b, P b → b < w.heap.size) → RW.FitN x → Calls Try.prog 10 #[.agg v] w (PNM P w (Rf.beat x)))
    (rP : ∀ (P : Nat → Prop) (x : Rf.Node) (v : Array Value) (cmd : Int) (w : World), NV P w v x → (∀ b, P b → b < w.heap.size) → RW.FitN x → Calls Try.prog 12 #[.agg v, .int .i64 cmd] w (PNMB P w (Rf.propose x cmd)))
    (rR : ∀ (P : Nat → Prop) (x : Rf.Node) (v : Array Value) (w : World), NV P w v x → (∀ b, P b → b < w.heap.size) → RW.FitN x → Calls Try.prog 14 #[.agg v] w (PN P w (Rf.restart x)))
    (x : Rf.Node) (v : Array Value) (cmd : Int) (w : World) (hv : Nv w v x) (hf : RW.FitN x) : Calls Try.prog 3 #[.agg v, .int .i64 cmd] w fun e w' => e = .returned (.bool true) ∧ Below w.heap.size w w' := by
  have hsz : x.next.length + x.mtch.length ≤ 9223372036854775807 := by have h1 := hf.2.2.1; have h2 := hf.2.2.2; omega
  have HSZ := hide hsz
  have HF := hide hf
  have HV := hide hv
  obtain ⟨lv, vv, nv, mv, rfl, h2, h3, h4, h5⟩ := hv
  obtain ⟨la, LL, lc, rfl, hLL, _, _⟩ := SC.shp h2
  obtain ⟨va, VL, vc, rfl, hVL, _, _⟩ := SC.shp h3
  obtain ⟨na, NL, nc, rfl, hNL, _, _⟩ := SC.shp h4
  obtain ⟨ma, ML, mc, rfl, hML, _, _⟩ := SC.shp h5
  clear h2 h3 h4 h5 hsz hf
  obtain ⟨W0, hW0⟩ : ∃ W0, W0 = w.alloc (.cells #[.int .i64 x.id, .int .i64 x.n, .int .i64 x.term, .int .i64 x.vote, .slice la LL lc, .int .i64 x.commit, .int .i64 x.role, .int .i64 x.boss, .slice va VL vc, .slice na NL nc, .slice ma ML mc] 25) := ⟨_, rfl⟩
  have HB0 : Hid (Below w.heap.size w W0) := hide (by rw [hW0]; exact below_new _ _)
  have HX0 : Hid (BK W0 w.heap.size 25 #[.int .i64 x.id, .int .i64 x.n, .int .i64 x.term, .int .i64 x.vote, .slice la LL lc, .int .i64 x.commit, .int .i64 x.role, .int .i64 x.boss, .slice va VL vc, .slice na NL nc, .slice ma ML mc]) := hide (by rw [hW0]; exact BK.new w _ _)
  have HN : Hid (∀ wx, Below W0.heap.size W0 wx → NV (· < w.heap.size) wx #[.int .i64 x.id, .int .i64 x.n, .int .i64 x.term, .int .i64 x.vote, .slice la LL lc, .int .i64 x.commit, .int .i64 x.role, .int .i64 x.boss, .slice va VL vc, .slice na NL nc, .slice ma ML mc] x ∧ ∀ c, c < w.heap.size → c < wx.heap.size) := hide (fun wx hx => ⟨(unhide HV).keep fun c hc => ⟨hc, (hx.block c (Nat.lt_of_lt_of_le hc (unhide HB0).size)).trans ((unhide HB0).block c hc)⟩, fun c hc => Nat.lt_of_lt_of_le (Nat.lt_of_lt_of_le hc (unhide HB0).size) hx.size⟩)
  have HLW : Hid (w.heap.size < W0.heap.size) := hide (unhide HX0).low
  obtain ⟨we, hwe⟩ : ∃ we, we = Rf.wrongN x := ⟨_, rfl⟩
  have CW1 : Hid (∀ wx, Below W0.heap.size W0 wx → Calls Try.prog 4 #[.agg #[.int .i64 x.id, .int .i64 x.n, .int .i64 x.term, .int .i64 x.vote, .slice la LL lc, .int .i64 x.commit, .int .i64 x.role, .int .i64 x.boss, .slice va VL vc, .slice na NL nc, .slice ma ML mc]] wx (fun e w' => e = .returned (.int .i64 we) ∧ Below wx.heap.size wx w')) := hide (fun wx hx => by rw [hwe]; exact rW x _ wx ((unhide HN wx hx).1.keep fun c hc => ⟨(unhide HN wx hx).2 c hc, rfl⟩))
  have CW2 : Hid (∀ wx, Below W0.heap.size W0 wx → Calls Try.prog 5 #[.agg #[.int .i64 x.id, .int .i64 x.n, .int .i64 x.term, .int .i64 x.vote, .slice la LL lc, .int .i64 x.commit, .int .i64 x.role, .int .i64 x.boss, .slice va VL vc, .slice na NL nc, .slice ma ML mc]] wx (fun e w' => e = .returned (.int .i64 we) ∧ Below wx.heap.size wx w')) := hide (fun wx hx => by rw [hwe]; exact R15.wrong_any x _ wx ((unhide HN wx hx).1.keep fun c hc => ⟨(unhide HN wx hx).2 c hc, rfl⟩) (unhide HSZ))
  obtain ⟨⟨z1, zm1⟩, hz1⟩ : ∃ z, z = Rf.timeout x := ⟨_, rfl⟩
  obtain ⟨⟨z2, zm2⟩, hz2⟩ : ∃ z, z = Rf.beat x := ⟨_, rfl⟩
  obtain ⟨⟨z3, zm3, zb3⟩, hz3⟩ : ∃ z, z = Rf.propose x cmd := ⟨_, rfl⟩
  obtain ⟨z4, hz4⟩ : ∃ z, z = Rf.restart x := ⟨_, rfl⟩
  have CT1 : Hid (∀ wx, Below W0.heap.size W0 wx → Calls Try.prog 6 #[.agg #[.int .i64 x.id, .int .i64 x.n, .int .i64 x.term, .int .i64 x.vote, .slice la LL lc, .int .i64 x.commit, .int .i64 x.role, .int .i64 x.boss, .slice va VL vc, .slice na NL nc, .slice ma ML mc]] wx (PNM (· < w.heap.size) wx (z1, zm1))) := hide (fun wx hx => by rw [hz1]; exact rT _ x _ wx (unhide HN wx hx).1 (unhide HN wx hx).2 (unhide HF))
  have CT2 : Hid (∀ wx, Below W0.heap.size W0 wx → Calls Try.prog 7 #[.agg #[.int .i64 x.id, .int .i64 x.n, .int .i64 x.term, .int .i64 x.vote, .slice la LL lc, .int .i64 x.commit, .int .i64 x.role, .int .i64 x.boss, .slice va VL vc, .slice na NL nc, .slice ma ML mc]] wx (PNM (· < w.heap.size) wx (z1, zm1))) := hide (fun wx hx => by rw [hz1]; exact R15.timeout_new _ x _ wx (unhide HN wx hx).1 (unhide HN wx hx).2 (unhide HSZ))
  have CB1 : Hid (∀ wx, Below W0.heap.size W0 wx → Calls Try.prog 10 #[.agg #[.int .i64 x.id, .int .i64 x.n, .int .i64 x.term, .int .i64 x.vote, .slice la LL lc, .int .i64 x.commit, .int .i64 x.role, .int .i64 x.boss, .slice va VL vc, .slice na NL nc, .slice ma ML mc]] wx (PNM (· < w.heap.size) wx (z2, zm2))) := hide (fun wx hx => by rw [hz2]; exact rB _ x _ wx (unhide HN wx hx).1 (unhide HN wx hx).2 (unhide HF))
  have CB2 : Hid (∀ wx, Below W0.heap.size W0 wx → Calls Try.prog 11 #[.agg #[.int .i64 x.id, .int .i64 x.n, .int .i64 x.term, .int .i64 x.vote, .slice la LL lc, .int .i64 x.commit, .int .i64 x.role, .int .i64 x.boss, .slice va VL vc, .slice na NL nc, .slice ma ML mc]] wx (PNM (· < w.heap.size) wx (z2, zm2))) := hide (fun wx hx => by rw [hz2]; exact R15.beat_new _ x _ wx (unhide HN wx hx).1 (unhide HN wx hx).2 (unhide HSZ))
  have CP1 : Hid (∀ wx, Below W0.heap.size W0 wx → Calls Try.prog 12 #[.agg #[.int .i64 x.id, .int .i64 x.n, .int .i64 x.term, .int .i64 x.vote, .slice la LL lc, .int .i64 x.commit, .int .i64 x.role, .int .i64 x.boss, .slice va VL vc, .slice na NL nc, .slice ma ML mc], .int .i64 cmd] wx (PNMB (· < w.heap.size) wx (z3, zm3, zb3))) := hide (fun wx hx => by rw [hz3]; exact rP _ x _ cmd wx (unhide HN wx hx).1 (unhide HN wx hx).2 (unhide HF))
  have CP2 : Hid (∀ wx, Below W0.heap.size W0 wx → Calls Try.prog 13 #[.agg #[.int .i64 x.id, .int .i64 x.n, .int .i64 x.term, .int .i64 x.vote, .slice la LL lc, .int .i64 x.commit, .int .i64 x.role, .int .i64 x.boss, .slice va VL vc, .slice na NL nc, .slice ma ML mc], .int .i64 cmd] wx (PNMB (· < w.heap.size) wx (z3, zm3, zb3))) := hide (fun wx hx => by rw [hz3]; exact R15.propose_new _ x _ cmd wx (unhide HN wx hx).1 (unhide HN wx hx).2 (unhide HSZ))
  have CR1 : Hid (∀ wx, Below W0.heap.size W0 wx → Calls Try.prog 14 #[.agg #[.int .i64 x.id, .int .i64 x.n, .int .i64 x.term, .int .i64 x.vote, .slice la LL lc, .int .i64 x.commit, .int .i64 x.role, .int .i64 x.boss, .slice va VL vc, .slice na NL nc, .slice ma ML mc]] wx (PN (· < w.heap.size) wx z4)) := hide (fun wx hx => by rw [hz4]; exact rR _ x _ wx (unhide HN wx hx).1 (unhide HN wx hx).2 (unhide HF))
  have CR2 : Hid (∀ wx, Below W0.heap.size W0 wx → Calls Try.prog 15 #[.agg #[.int .i64 x.id, .int .i64 x.n, .int .i64 x.term, .int .i64 x.vote, .slice la LL lc, .int .i64 x.commit, .int .i64 x.role, .int .i64 x.boss, .slice va VL vc, .slice na NL nc, .slice ma ML mc]] wx (PN (· < w.heap.size) wx z4)) := hide (fun wx hx => by rw [hz4]; exact R15.restart_new _ x _ wx (unhide HN wx hx).1 (unhide HN wx hx).2 (unhide HSZ))
  clear hwe hz1 hz2 hz3 hz4 HN HV HF HSZ rW rT rB rP rR
  obtain ⟨c0, c1, c2, c3, c4, c5, c6, c7, c8, c9, c10⟩ := (show NX W0 w.heap.size _ _ _ _ _ _ _ _ _ _ _ from unhide HX0).tell
  go_enter Try.func3, Try.ntmps3
  go_wp2_with fail
  rw [← hW0]
  clear hW0
  go_region_held2 (fun w' => w'.cell? ⟨w.heap.size, 0, none⟩ = some (.int .i64 x.id) ∧ w'.cell? ⟨w.heap.size, 1, none⟩ = some (.int .i64 x.n) ∧ w'.cell? ⟨w.heap.size, 2, none⟩ = some (.int .i64 x.term) ∧ w'.cell? ⟨w.heap.size, 3, none⟩ = some (.int .i64 x.vote) ∧ w'.cell? ⟨w.heap.size, 4, none⟩ = some (.slice la LL lc) ∧ w'.cell? ⟨w.heap.size, 5, none⟩ = some (.int .i64 x.commit) ∧ w'.cell? ⟨w.heap.size, 6, none⟩ = some (.int .i64 x.role) ∧ w'.cell? ⟨w.heap.size, 7, none⟩ = some (.int .i64 x.boss) ∧ w'.cell? ⟨w.heap.size, 8, none⟩ = some (.slice va VL vc) ∧ w'.cell? ⟨w.heap.size, 9, none⟩ = some (.slice na NL nc) ∧ w'.cell? ⟨w.heap.size, 10, none⟩ = some (.slice ma ML mc)) (first | go_keep | exact (show NX _ w.heap.size _ _ _ _ _ _ _ _ _ _ _ from ((unhide HX0).keep (by assumption))).tell)
    (first
      | (go_at_call 4; with_reducible refine (unhide CW1 _ (by repeat (first | with_reducible exact Below.refl _ _ | with_reducible apply Below.drew))).mono ?_; rintro e wa ⟨rfl, hb0⟩; have hba : Below W0.heap.size W0 wa := below_via (Below.refl W0.heap.size W0).drew hb0; clear hb0)
      | (go_at_call 5; with_reducible refine (unhide CW2 _ (by repeat (first | with_reducible exact hba | with_reducible apply Below.drew))).mono ?_; rintro e wb ⟨rfl, hb0⟩; have hbb : Below W0.heap.size W0 wb := below_via hba hb0; clear hb0))
  have gne : (we != we) = false := by simp
  clear c0 c1 c2 c3 c4 c5 c6 c7 c8 c9 c10 hba CW1 CW2
  have X1 := (unhide HX0).keep hbb
  have HX1 := hide X1
  have HBb := hide hbb
  clear hbb HX0
  obtain ⟨c0, c1, c2, c3, c4, c5, c6, c7, c8, c9, c10⟩ := (show NX wb w.heap.size _ _ _ _ _ _ _ _ _ _ _ from X1).tell
  clear X1
  go_wp2_with fail
  refine (unhide CT1 _ (by repeat (first | with_reducible exact unhide HBb | with_reducible apply Below.drew))).mono ?_
  rintro e w1 ⟨v1, m1, rfl, hv1, hm1, b1⟩
  simp only at hv1 hm1
  obtain ⟨lv1, vv1, nv1, mv1, rfl, p1, p2, p3, p4⟩ := id hv1
  obtain ⟨la1, LL1, lc1, rfl, _, _, _⟩ := SC.shp p1
  obtain ⟨va1, VL1, vc1, rfl, _, _, _⟩ := SC.shp p2
  obtain ⟨na1, NL1, nc1, rfl, _, _, _⟩ := SC.shp p3
  obtain ⟨ma1, ML1, mc1, rfl, _, _, _⟩ := SC.shp p4
  obtain ⟨ms1, MN1, mk1, rfl⟩ := mv_slice hm1
  clear p1 p2 p3 p4
  have HB1 := hide (below_via (unhide HBb) b1)
  have HX2 := hide (((unhide HX1).keep b1).keep (below_new w1 (.cells #[.int .i64 z1.id, .int .i64 z1.n, .int .i64 z1.term, .int .i64 z1.vote, .slice la1 LL1 lc1, .int .i64 z1.commit, .int .i64 z1.role, .int .i64 z1.boss, .slice va1 VL1 vc1, .slice na1 NL1 nc1, .slice ma1 ML1 mc1] 25)))
  have HB2 := hide (below_via (unhide HB1) (below_new w1 (.cells #[.int .i64 z1.id, .int .i64 z1.n, .int .i64 z1.term, .int .i64 z1.vote, .slice la1 LL1 lc1, .int .i64 z1.commit, .int .i64 z1.role, .int .i64 z1.boss, .slice va1 VL1 vc1, .slice na1 NL1 nc1, .slice ma1 ML1 mc1] 25)))
  have HA2 : Hid (∀ B, w1.heap.size < B → LA w1.heap.size B (w1.alloc (.cells #[.int .i64 z1.id, .int .i64 z1.n, .int .i64 z1.term, .int .i64 z1.vote, .slice la1 LL1 lc1, .int .i64 z1.commit, .int .i64 z1.role, .int .i64 z1.boss, .slice va1 VL1 vc1, .slice na1 NL1 nc1, .slice ma1 ML1 mc1] 25)) #[.int .i64 z1.id, .int .i64 z1.n, .int .i64 z1.term, .int .i64 z1.vote, .slice la1 LL1 lc1, .int .i64 z1.commit, .int .i64 z1.role, .int .i64 z1.boss, .slice va1 VL1 vc1, .slice na1 NL1 nc1, .slice ma1 ML1 mc1] z1 (.slice ms1 MN1 mk1) zm1) := hide (fun B hB => la_alloc (fun c (hc : c < w.heap.size) => by have q1 := unhide HLW; have q2 := (unhide HB1).size; omega) (.inr hB) hv1 hm1)
  have HZ2 : Hid (w1.heap.size < (w1.alloc (.cells #[.int .i64 z1.id, .int .i64 z1.n, .int .i64 z1.term, .int .i64 z1.vote, .slice la1 LL1 lc1, .int .i64 z1.commit, .int .i64 z1.role, .int .i64 z1.boss, .slice va1 VL1 vc1, .slice na1 NL1 nc1, .slice ma1 ML1 mc1] 25)).heap.size) := hide (by rw [World.size_alloc]; omega)
  clear hv1 hm1 b1 HX1
  clear c0 c1 c2 c3 c4 c5 c6 c7 c8 c9 c10
  go_upto_region 4 with fail
  generalize w1.alloc (.cells #[.int .i64 z1.id, .int .i64 z1.n, .int .i64 z1.term, .int .i64 z1.vote, .slice la1 LL1 lc1, .int .i64 z1.commit, .int .i64 z1.role, .int .i64 z1.boss, .slice va1 VL1 vc1, .slice na1 NL1 nc1, .slice ma1 ML1 mc1] 25) = w2 at HX2 HB2 HA2 HZ2 ⊢
  obtain ⟨c0, c1, c2, c3, c4, c5, c6, c7, c8, c9, c10⟩ := (show NX w2 w.heap.size _ _ _ _ _ _ _ _ _ _ _ from unhide HX2).tell
  go_wp2_with fail
  refine (unhide CT2 _ (by repeat (first | with_reducible exact unhide HB2 | with_reducible apply Below.drew))).mono ?_
  rintro e w3 ⟨v2, m2, rfl, hv2, hm2, b3⟩
  simp only at hv2 hm2
  obtain ⟨lv2, vv2, nv2, mv2, rfl, p1, p2, p3, p4⟩ := id hv2
  obtain ⟨la2, LL2, lc2, rfl, _, _, _⟩ := SC.shp p1
  obtain ⟨va2, VL2, vc2, rfl, _, _, _⟩ := SC.shp p2
  obtain ⟨na2, NL2, nc2, rfl, _, _, _⟩ := SC.shp p3
  obtain ⟨ma2, ML2, mc2, rfl, _, _, _⟩ := SC.shp p4
  obtain ⟨ms2, MN2, mk2, rfl⟩ := mv_slice hm2
  clear p1 p2 p3 p4
  have HZ3 : Hid (w1.heap.size < w3.heap.size) := hide (Nat.lt_of_lt_of_le (unhide HZ2) b3.size)
  have HX4 := hide (((unhide HX2).keep b3).keep (below_new w3 (.cells #[.int .i64 z1.id, .int .i64 z1.n, .int .i64 z1.term, .int .i64 z1.vote, .slice la2 LL2 lc2, .int .i64 z1.commit, .int .i64 z1.role, .int .i64 z1.boss, .slice va2 VL2 vc2, .slice na2 NL2 nc2, .slice ma2 ML2 mc2] 25)))
  have HB3 := hide (below_via (unhide HB2) b3)
  have HB4 := hide (below_via (unhide HB3) (below_new w3 (.cells #[.int .i64 z1.id, .int .i64 z1.n, .int .i64 z1.term, .int .i64 z1.vote, .slice la2 LL2 lc2, .int .i64 z1.commit, .int .i64 z1.role, .int .i64 z1.boss, .slice va2 VL2 vc2, .slice na2 NL2 nc2, .slice ma2 ML2 mc2] 25)))
  have HZ1 : Hid (w.heap.size < w1.heap.size) := hide (Nat.lt_of_lt_of_le (unhide HLW) (unhide HB1).size)
  have HA4 := hide (((unhide HA2 _ (unhide HZ3)).keep b3).keep (below_new w3 (.cells #[.int .i64 z1.id, .int .i64 z1.n, .int .i64 z1.term, .int .i64 z1.vote, .slice la2 LL2 lc2, .int .i64 z1.commit, .int .i64 z1.role, .int .i64 z1.boss, .slice va2 VL2 vc2, .slice na2 NL2 nc2, .slice ma2 ML2 mc2] 25)))
  have HC4 : Hid (LA w3.heap.size w1.heap.size (w3.alloc (.cells #[.int .i64 z1.id, .int .i64 z1.n, .int .i64 z1.term, .int .i64 z1.vote, .slice la2 LL2 lc2, .int .i64 z1.commit, .int .i64 z1.role, .int .i64 z1.boss, .slice va2 VL2 vc2, .slice na2 NL2 nc2, .slice ma2 ML2 mc2] 25)) #[.int .i64 z1.id, .int .i64 z1.n, .int .i64 z1.term, .int .i64 z1.vote, .slice la2 LL2 lc2, .int .i64 z1.commit, .int .i64 z1.role, .int .i64 z1.boss, .slice va2 VL2 vc2, .slice na2 NL2 nc2, .slice ma2 ML2 mc2] z1 (.slice ms2 MN2 mk2) zm1) := hide (la_alloc (fun c (hc : c < w.heap.size) => by have q1 := unhide HZ1; have q2 := unhide HZ3; omega) (.inl (unhide HZ2)) hv2 hm2)
  clear hv2 hm2 b3 HX2 HA2 HZ2
  clear c0 c1 c2 c3 c4 c5 c6 c7 c8 c9 c10
  go_upto_region 5 with fail
  generalize w3.alloc (.cells #[.int .i64 z1.id, .int .i64 z1.n, .int .i64 z1.term, .int .i64 z1.vote, .slice la2 LL2 lc2, .int .i64 z1.commit, .int .i64 z1.role, .int .i64 z1.boss, .slice va2 VL2 vc2, .slice na2 NL2 nc2, .slice ma2 ML2 mc2] 25) = w4 at HX4 HB4 HA4 HC4 ⊢
  obtain ⟨d0, d1, d2, d3, d4, d5, d6, d7, d8, d9, d10⟩ := (show NX w4 w1.heap.size _ _ _ _ _ _ _ _ _ _ _ from (unhide HA4).bk).tell
  obtain ⟨f0, f1, f2, f3, f4, f5, f6, f7, f8, f9, f10⟩ := (show NX w4 w3.heap.size _ _ _ _ _ _ _ _ _ _ _ from (unhide HC4).bk).tell
  have CS : Hid (∀ wx, Below w4.heap.size w4 wx → Calls Try.prog 8 #[.agg #[.int .i64 z1.id, .int .i64 z1.n, .int .i64 z1.term, .int .i64 z1.vote, .slice la1 LL1 lc1, .int .i64 z1.commit, .int .i64 z1.role, .int .i64 z1.boss, .slice va1 VL1 vc1, .slice na1 NL1 nc1, .slice ma1 ML1 mc1], .agg #[.int .i64 z1.id, .int .i64 z1.n, .int .i64 z1.term, .int .i64 z1.vote, .slice la2 LL2 lc2, .int .i64 z1.commit, .int .i64 z1.role, .int .i64 z1.boss, .slice va2 VL2 vc2, .slice na2 NL2 nc2, .slice ma2 ML2 mc2]] wx fun e w' => e = .returned (.bool true) ∧ Below wx.heap.size wx w') := hide (fun wx hx => R15.same_any z1 _ _ wx ((unhide HA4).keep hx).nw ((unhide HC4).keep hx).nw)
  have CM : Hid (∀ wx, Below w4.heap.size w4 wx → Calls Try.prog 9 #[.slice ms1 MN1 mk1, .slice ms2 MN2 mk2] wx fun e w' => e = .returned (.bool true) ∧ Below wx.heap.size wx w') := hide (fun wx hx => R15.sameMsgs_any zm1 _ _ wx ((unhide HA4).keep hx).mw ((unhide HC4).keep hx).mw)
  go_wp2_with fail
  refine (unhide CS _ (Below.refl _ _)).mono ?_
  rintro e w5 ⟨rfl, hb⟩
  have HBa := hide hb
  clear hb CS
  clear d0 d1 d2 d3 d4 d5 d6 d7 d8 d9 d10 f0 f1 f2 f3 f4 f5 f6 f7 f8 f9 f10
  go_wp2_with fail
  refine (unhide CM _ (unhide HBa)).mono ?_
  rintro e w6 ⟨rfl, hb⟩
  have HBc := hide (below_via (unhide HBa) hb)
  clear hb CM HBa
  have HX6 := hide ((unhide HX4).keep (unhide HBc))
  have HB6 := hide (below_via (unhide HB4) (unhide HBc))
  have HA6 := hide ((unhide HA4).keep (unhide HBc))
  have HC6 := hide ((unhide HC4).keep (unhide HBc))
  clear HX4 HB4 HA4 HC4 HBc
  obtain ⟨c0, c1, c2, c3, c4, c5, c6, c7, c8, c9, c10⟩ := (show NX w6 w.heap.size _ _ _ _ _ _ _ _ _ _ _ from unhide HX6).tell
  go_wp2_with fail
  refine (unhide CB1 _ (by repeat (first | with_reducible exact unhide HB6 | with_reducible apply Below.drew))).mono ?_
  rintro e w7 ⟨v3, m3, rfl, hv3, hm3, bn⟩
  simp only at hv3 hm3
  obtain ⟨lv3, vv3, nv3, mv3, rfl, p1, p2, p3, p4⟩ := id hv3
  obtain ⟨la3, LL3, lc3, rfl, _, _, _⟩ := SC.shp p1
  obtain ⟨va3, VL3, vc3, rfl, _, _, _⟩ := SC.shp p2
  obtain ⟨na3, NL3, nc3, rfl, _, _, _⟩ := SC.shp p3
  obtain ⟨ma3, ML3, mc3, rfl, _, _, _⟩ := SC.shp p4
  obtain ⟨ms3, MN3, mk3, rfl⟩ := mv_slice hm3
  clear p1 p2 p3 p4
  have HL6 : Hid (BK w7 (w1.heap.size) 25 _) := hide ((unhide HA6).bk.keep bn)
  have HLo : Hid (BK w7 (w3.heap.size) 25 _) := hide ((unhide HC6).bk.keep bn)
  have HX8 := hide (bk_out11 (v0 := .int .i64 z2.id) (v1 := .int .i64 z2.n) (v2 := .int .i64 z2.term) (v3 := .int .i64 z2.vote) (v4 := .slice la3 LL3 lc3) (v5 := .int .i64 z2.commit) (v6 := .int .i64 z2.role) (v7 := .int .i64 z2.boss) (v8 := .slice va3 VL3 vc3) (v9 := .slice na3 NL3 nc3) (v10 := .slice ma3 ML3 mc3) ((unhide HX6).keep bn) (show w.heap.size ≠ w1.heap.size by have q1 := unhide HZ1; have q2 := unhide HZ3; omega))
  have HB8 : Hid (Below W0.heap.size W0 (put11 w7 (w1.heap.size) (.int .i64 z2.id) (.int .i64 z2.n) (.int .i64 z2.term) (.int .i64 z2.vote) (.slice la3 LL3 lc3) (.int .i64 z2.commit) (.int .i64 z2.role) (.int .i64 z2.boss) (.slice va3 VL3 vc3) (.slice na3 NL3 nc3) (.slice ma3 ML3 mc3))) := hide (below_put11 (below_via (unhide HB6) bn) (by have q1 := (unhide HB1).size; have q2 := unhide HZ3; omega))
  have HA8 : Hid (LA (w1.heap.size) (w3.heap.size) (put11 w7 (w1.heap.size) (.int .i64 z2.id) (.int .i64 z2.n) (.int .i64 z2.term) (.int .i64 z2.vote) (.slice la3 LL3 lc3) (.int .i64 z2.commit) (.int .i64 z2.role) (.int .i64 z2.boss) (.slice va3 VL3 vc3) (.slice na3 NL3 nc3) (.slice ma3 ML3 mc3)) #[.int .i64 z2.id, .int .i64 z2.n, .int .i64 z2.term, .int .i64 z2.vote, .slice la3 LL3 lc3, .int .i64 z2.commit, .int .i64 z2.role, .int .i64 z2.boss, .slice va3 VL3 vc3, .slice na3 NL3 nc3, .slice ma3 ML3 mc3] z2 (.slice ms3 MN3 mk3) zm2) := hide (la_set (unhide HL6) (fun c (hc : c < w.heap.size) => by have q1 := unhide HZ1; have q2 := unhide HZ3; have q3 := (unhide HL6).low; have q4 := (unhide HLo).low; omega) (unhide HA6).bk.low (unhide HC6).bk.low hv3 hm3)
  have HC8 := hide (((unhide HC6).keep bn).other (show w3.heap.size ≠ w1.heap.size by have q2 := unhide HZ3; omega) (.int .i64 z2.id) (.int .i64 z2.n) (.int .i64 z2.term) (.int .i64 z2.vote) (.slice la3 LL3 lc3) (.int .i64 z2.commit) (.int .i64 z2.role) (.int .i64 z2.boss) (.slice va3 VL3 vc3) (.slice na3 NL3 nc3) (.slice ma3 ML3 mc3))
  obtain ⟨s0, s1, s2, s3, s4, s5, s6, s7, s8, s9, s10⟩ := (unhide HL6).thaw11
  have sl := (unhide HL6).low
  obtain ⟨d0, d1, d2, d3, d4, d5, d6, d7, d8, d9, d10⟩ := (show NX w7 w1.heap.size _ _ _ _ _ _ _ _ _ _ _ from unhide HL6).tell
  unfold put11 at HX8 HB8 HA8 HC8
  clear hv3 hm3 bn HX6 HB6 HA6 HC6 HLo
  clear c0 c1 c2 c3 c4 c5 c6 c7 c8 c9 c10
  go_upto_region 8 with fail
  generalize (((((((((((w7.setCell ⟨w1.heap.size, 0, none⟩ (.int .i64 z2.id)).setCell ⟨w1.heap.size, 1, none⟩ (.int .i64 z2.n)).setCell ⟨w1.heap.size, 2, none⟩ (.int .i64 z2.term)).setCell ⟨w1.heap.size, 3, none⟩ (.int .i64 z2.vote)).setCell ⟨w1.heap.size, 4, none⟩ (.slice la3 LL3 lc3)).setCell ⟨w1.heap.size, 5, none⟩ (.int .i64 z2.commit)).setCell ⟨w1.heap.size, 6, none⟩ (.int .i64 z2.role)).setCell ⟨w1.heap.size, 7, none⟩ (.int .i64 z2.boss)).setCell ⟨w1.heap.size, 8, none⟩ (.slice va3 VL3 vc3)).setCell ⟨w1.heap.size, 9, none⟩ (.slice na3 NL3 nc3)).setCell ⟨w1.heap.size, 10, none⟩ (.slice ma3 ML3 mc3)) = w8 at HX8 HB8 HA8 HC8 ⊢
  clear sl HL6
  clear s0 s1 s2 s3 s4 s5 s6 s7 s8 s9 s10 d0 d1 d2 d3 d4 d5 d6 d7 d8 d9 d10
  obtain ⟨c0, c1, c2, c3, c4, c5, c6, c7, c8, c9, c10⟩ := (show NX w8 w.heap.size _ _ _ _ _ _ _ _ _ _ _ from unhide HX8).tell
  go_wp2_with fail
  refine (unhide CB2 _ (by repeat (first | with_reducible exact unhide HB8 | with_reducible apply Below.drew))).mono ?_
  rintro e w9 ⟨v4, m4, rfl, hv4, hm4, bn⟩
  simp only at hv4 hm4
  obtain ⟨lv4, vv4, nv4, mv4, rfl, p1, p2, p3, p4⟩ := id hv4
  obtain ⟨la4, LL4, lc4, rfl, _, _, _⟩ := SC.shp p1
  obtain ⟨va4, VL4, vc4, rfl, _, _, _⟩ := SC.shp p2
  obtain ⟨na4, NL4, nc4, rfl, _, _, _⟩ := SC.shp p3
  obtain ⟨ma4, ML4, mc4, rfl, _, _, _⟩ := SC.shp p4
  obtain ⟨ms4, MN4, mk4, rfl⟩ := mv_slice hm4
  clear p1 p2 p3 p4
  have HL8 : Hid (BK w9 (w3.heap.size) 25 _) := hide ((unhide HC8).bk.keep bn)
  have HLo : Hid (BK w9 (w1.heap.size) 25 _) := hide ((unhide HA8).bk.keep bn)
  have HX10 := hide (bk_out11 (v0 := .int .i64 z2.id) (v1 := .int .i64 z2.n) (v2 := .int .i64 z2.term) (v3 := .int .i64 z2.vote) (v4 := .slice la4 LL4 lc4) (v5 := .int .i64 z2.commit) (v6 := .int .i64 z2.role) (v7 := .int .i64 z2.boss) (v8 := .slice va4 VL4 vc4) (v9 := .slice na4 NL4 nc4) (v10 := .slice ma4 ML4 mc4) ((unhide HX8).keep bn) (show w.heap.size ≠ w3.heap.size by have q1 := unhide HZ1; have q2 := unhide HZ3; omega))
  have HB10 : Hid (Below W0.heap.size W0 (put11 w9 (w3.heap.size) (.int .i64 z2.id) (.int .i64 z2.n) (.int .i64 z2.term) (.int .i64 z2.vote) (.slice la4 LL4 lc4) (.int .i64 z2.commit) (.int .i64 z2.role) (.int .i64 z2.boss) (.slice va4 VL4 vc4) (.slice na4 NL4 nc4) (.slice ma4 ML4 mc4))) := hide (below_put11 (below_via (unhide HB8) bn) (by have q1 := (unhide HB1).size; have q2 := unhide HZ3; omega))
  have HC10 : Hid (LA (w3.heap.size) (w1.heap.size) (put11 w9 (w3.heap.size) (.int .i64 z2.id) (.int .i64 z2.n) (.int .i64 z2.term) (.int .i64 z2.vote) (.slice la4 LL4 lc4) (.int .i64 z2.commit) (.int .i64 z2.role) (.int .i64 z2.boss) (.slice va4 VL4 vc4) (.slice na4 NL4 nc4) (.slice ma4 ML4 mc4)) #[.int .i64 z2.id, .int .i64 z2.n, .int .i64 z2.term, .int .i64 z2.vote, .slice la4 LL4 lc4, .int .i64 z2.commit, .int .i64 z2.role, .int .i64 z2.boss, .slice va4 VL4 vc4, .slice na4 NL4 nc4, .slice ma4 ML4 mc4] z2 (.slice ms4 MN4 mk4) zm2) := hide (la_set (unhide HL8) (fun c (hc : c < w.heap.size) => by have q1 := unhide HZ1; have q2 := unhide HZ3; have q3 := (unhide HL8).low; have q4 := (unhide HLo).low; omega) (unhide HC8).bk.low (unhide HA8).bk.low hv4 hm4)
  have HA10 := hide (((unhide HA8).keep bn).other (show w1.heap.size ≠ w3.heap.size by have q2 := unhide HZ3; omega) (.int .i64 z2.id) (.int .i64 z2.n) (.int .i64 z2.term) (.int .i64 z2.vote) (.slice la4 LL4 lc4) (.int .i64 z2.commit) (.int .i64 z2.role) (.int .i64 z2.boss) (.slice va4 VL4 vc4) (.slice na4 NL4 nc4) (.slice ma4 ML4 mc4))
  obtain ⟨s0, s1, s2, s3, s4, s5, s6, s7, s8, s9, s10⟩ := (unhide HL8).thaw11
  have sl := (unhide HL8).low
  obtain ⟨d0, d1, d2, d3, d4, d5, d6, d7, d8, d9, d10⟩ := (show NX w9 w3.heap.size _ _ _ _ _ _ _ _ _ _ _ from unhide HL8).tell
  unfold put11 at HX10 HB10 HA10 HC10
  clear hv4 hm4 bn HX8 HB8 HA8 HC8 HLo
  clear c0 c1 c2 c3 c4 c5 c6 c7 c8 c9 c10
  go_upto_region 9 with fail
  generalize (((((((((((w9.setCell ⟨w3.heap.size, 0, none⟩ (.int .i64 z2.id)).setCell ⟨w3.heap.size, 1, none⟩ (.int .i64 z2.n)).setCell ⟨w3.heap.size, 2, none⟩ (.int .i64 z2.term)).setCell ⟨w3.heap.size, 3, none⟩ (.int .i64 z2.vote)).setCell ⟨w3.heap.size, 4, none⟩ (.slice la4 LL4 lc4)).setCell ⟨w3.heap.size, 5, none⟩ (.int .i64 z2.commit)).setCell ⟨w3.heap.size, 6, none⟩ (.int .i64 z2.role)).setCell ⟨w3.heap.size, 7, none⟩ (.int .i64 z2.boss)).setCell ⟨w3.heap.size, 8, none⟩ (.slice va4 VL4 vc4)).setCell ⟨w3.heap.size, 9, none⟩ (.slice na4 NL4 nc4)).setCell ⟨w3.heap.size, 10, none⟩ (.slice ma4 ML4 mc4)) = w10 at HX10 HB10 HA10 HC10 ⊢
  clear sl HL8
  clear s0 s1 s2 s3 s4 s5 s6 s7 s8 s9 s10 d0 d1 d2 d3 d4 d5 d6 d7 d8 d9 d10
  obtain ⟨d0, d1, d2, d3, d4, d5, d6, d7, d8, d9, d10⟩ := (show NX w10 w1.heap.size _ _ _ _ _ _ _ _ _ _ _ from (unhide HA10).bk).tell
  obtain ⟨f0, f1, f2, f3, f4, f5, f6, f7, f8, f9, f10⟩ := (show NX w10 w3.heap.size _ _ _ _ _ _ _ _ _ _ _ from (unhide HC10).bk).tell
  have CS : Hid (∀ wx, Below w10.heap.size w10 wx → Calls Try.prog 8 #[.agg #[.int .i64 z2.id, .int .i64 z2.n, .int .i64 z2.term, .int .i64 z2.vote, .slice la3 LL3 lc3, .int .i64 z2.commit, .int .i64 z2.role, .int .i64 z2.boss, .slice va3 VL3 vc3, .slice na3 NL3 nc3, .slice ma3 ML3 mc3], .agg #[.int .i64 z2.id, .int .i64 z2.n, .int .i64 z2.term, .int .i64 z2.vote, .slice la4 LL4 lc4, .int .i64 z2.commit, .int .i64 z2.role, .int .i64 z2.boss, .slice va4 VL4 vc4, .slice na4 NL4 nc4, .slice ma4 ML4 mc4]] wx fun e w' => e = .returned (.bool true) ∧ Below wx.heap.size wx w') := hide (fun wx hx => R15.same_any z2 _ _ wx ((unhide HA10).keep hx).nw ((unhide HC10).keep hx).nw)
  have CM : Hid (∀ wx, Below w10.heap.size w10 wx → Calls Try.prog 9 #[.slice ms3 MN3 mk3, .slice ms4 MN4 mk4] wx fun e w' => e = .returned (.bool true) ∧ Below wx.heap.size wx w') := hide (fun wx hx => R15.sameMsgs_any zm2 _ _ wx ((unhide HA10).keep hx).mw ((unhide HC10).keep hx).mw)
  go_wp2_with fail
  refine (unhide CS _ (Below.refl _ _)).mono ?_
  rintro e w11 ⟨rfl, hb⟩
  have HBa := hide hb
  clear hb CS
  clear d0 d1 d2 d3 d4 d5 d6 d7 d8 d9 d10 f0 f1 f2 f3 f4 f5 f6 f7 f8 f9 f10
  go_wp2_with fail
  refine (unhide CM _ (unhide HBa)).mono ?_
  rintro e w12 ⟨rfl, hb⟩
  have HBc := hide (below_via (unhide HBa) hb)
  clear hb CM HBa
  have HX12 := hide ((unhide HX10).keep (unhide HBc))
  have HB12 := hide (below_via (unhide HB10) (unhide HBc))
  have HA12 := hide ((unhide HA10).keep (unhide HBc))
  have HC12 := hide ((unhide HC10).keep (unhide HBc))
  clear HX10 HB10 HA10 HC10 HBc
  obtain ⟨c0, c1, c2, c3, c4, c5, c6, c7, c8, c9, c10⟩ := (show NX w12 w.heap.size _ _ _ _ _ _ _ _ _ _ _ from unhide HX12).tell
  go_wp2_with fail
  refine (unhide CP1 _ (by repeat (first | with_reducible exact unhide HB12 | with_reducible apply Below.drew))).mono ?_
  rintro e w13 ⟨v5, m5, rfl, hv5, hm5, bn⟩
  simp only at hv5 hm5
  obtain ⟨lv5, vv5, nv5, mv5, rfl, p1, p2, p3, p4⟩ := id hv5
  obtain ⟨la5, LL5, lc5, rfl, _, _, _⟩ := SC.shp p1
  obtain ⟨va5, VL5, vc5, rfl, _, _, _⟩ := SC.shp p2
  obtain ⟨na5, NL5, nc5, rfl, _, _, _⟩ := SC.shp p3
  obtain ⟨ma5, ML5, mc5, rfl, _, _, _⟩ := SC.shp p4
  obtain ⟨ms5, MN5, mk5, rfl⟩ := mv_slice hm5
  clear p1 p2 p3 p4
  have HL12 : Hid (BK w13 (w1.heap.size) 25 _) := hide ((unhide HA12).bk.keep bn)
  have HLo : Hid (BK w13 (w3.heap.size) 25 _) := hide ((unhide HC12).bk.keep bn)
  have HX14 := hide (bk_out11 (v0 := .int .i64 z3.id) (v1 := .int .i64 z3.n) (v2 := .int .i64 z3.term) (v3 := .int .i64 z3.vote) (v4 := .slice la5 LL5 lc5) (v5 := .int .i64 z3.commit) (v6 := .int .i64 z3.role) (v7 := .int .i64 z3.boss) (v8 := .slice va5 VL5 vc5) (v9 := .slice na5 NL5 nc5) (v10 := .slice ma5 ML5 mc5) ((unhide HX12).keep bn) (show w.heap.size ≠ w1.heap.size by have q1 := unhide HZ1; have q2 := unhide HZ3; omega))
  have HB14 : Hid (Below W0.heap.size W0 (put11 w13 (w1.heap.size) (.int .i64 z3.id) (.int .i64 z3.n) (.int .i64 z3.term) (.int .i64 z3.vote) (.slice la5 LL5 lc5) (.int .i64 z3.commit) (.int .i64 z3.role) (.int .i64 z3.boss) (.slice va5 VL5 vc5) (.slice na5 NL5 nc5) (.slice ma5 ML5 mc5))) := hide (below_put11 (below_via (unhide HB12) bn) (by have q1 := (unhide HB1).size; have q2 := unhide HZ3; omega))
  have HA14 : Hid (LA (w1.heap.size) (w3.heap.size) (put11 w13 (w1.heap.size) (.int .i64 z3.id) (.int .i64 z3.n) (.int .i64 z3.term) (.int .i64 z3.vote) (.slice la5 LL5 lc5) (.int .i64 z3.commit) (.int .i64 z3.role) (.int .i64 z3.boss) (.slice va5 VL5 vc5) (.slice na5 NL5 nc5) (.slice ma5 ML5 mc5)) #[.int .i64 z3.id, .int .i64 z3.n, .int .i64 z3.term, .int .i64 z3.vote, .slice la5 LL5 lc5, .int .i64 z3.commit, .int .i64 z3.role, .int .i64 z3.boss, .slice va5 VL5 vc5, .slice na5 NL5 nc5, .slice ma5 ML5 mc5] z3 (.slice ms5 MN5 mk5) zm3) := hide (la_set (unhide HL12) (fun c (hc : c < w.heap.size) => by have q1 := unhide HZ1; have q2 := unhide HZ3; have q3 := (unhide HL12).low; have q4 := (unhide HLo).low; omega) (unhide HA12).bk.low (unhide HC12).bk.low hv5 hm5)
  have HC14 := hide (((unhide HC12).keep bn).other (show w3.heap.size ≠ w1.heap.size by have q2 := unhide HZ3; omega) (.int .i64 z3.id) (.int .i64 z3.n) (.int .i64 z3.term) (.int .i64 z3.vote) (.slice la5 LL5 lc5) (.int .i64 z3.commit) (.int .i64 z3.role) (.int .i64 z3.boss) (.slice va5 VL5 vc5) (.slice na5 NL5 nc5) (.slice ma5 ML5 mc5))
  obtain ⟨s0, s1, s2, s3, s4, s5, s6, s7, s8, s9, s10⟩ := (unhide HL12).thaw11
  have sl := (unhide HL12).low
  obtain ⟨d0, d1, d2, d3, d4, d5, d6, d7, d8, d9, d10⟩ := (show NX w13 w1.heap.size _ _ _ _ _ _ _ _ _ _ _ from unhide HL12).tell
  unfold put11 at HX14 HB14 HA14 HC14
  clear hv5 hm5 bn HX12 HB12 HA12 HC12 HLo
  clear c0 c1 c2 c3 c4 c5 c6 c7 c8 c9 c10
  go_upto_region 12 with fail
  generalize (((((((((((w13.setCell ⟨w1.heap.size, 0, none⟩ (.int .i64 z3.id)).setCell ⟨w1.heap.size, 1, none⟩ (.int .i64 z3.n)).setCell ⟨w1.heap.size, 2, none⟩ (.int .i64 z3.term)).setCell ⟨w1.heap.size, 3, none⟩ (.int .i64 z3.vote)).setCell ⟨w1.heap.size, 4, none⟩ (.slice la5 LL5 lc5)).setCell ⟨w1.heap.size, 5, none⟩ (.int .i64 z3.commit)).setCell ⟨w1.heap.size, 6, none⟩ (.int .i64 z3.role)).setCell ⟨w1.heap.size, 7, none⟩ (.int .i64 z3.boss)).setCell ⟨w1.heap.size, 8, none⟩ (.slice va5 VL5 vc5)).setCell ⟨w1.heap.size, 9, none⟩ (.slice na5 NL5 nc5)).setCell ⟨w1.heap.size, 10, none⟩ (.slice ma5 ML5 mc5)) = w14 at HX14 HB14 HA14 HC14 ⊢
  clear sl HL12
  clear s0 s1 s2 s3 s4 s5 s6 s7 s8 s9 s10 d0 d1 d2 d3 d4 d5 d6 d7 d8 d9 d10
  obtain ⟨c0, c1, c2, c3, c4, c5, c6, c7, c8, c9, c10⟩ := (show NX w14 w.heap.size _ _ _ _ _ _ _ _ _ _ _ from unhide HX14).tell
  go_wp2_with fail
  refine (unhide CP2 _ (by repeat (first | with_reducible exact unhide HB14 | with_reducible apply Below.drew))).mono ?_
  rintro e w15 ⟨v6, m6, rfl, hv6, hm6, bn⟩
  simp only at hv6 hm6
  obtain ⟨lv6, vv6, nv6, mv6, rfl, p1, p2, p3, p4⟩ := id hv6
  obtain ⟨la6, LL6, lc6, rfl, _, _, _⟩ := SC.shp p1
  obtain ⟨va6, VL6, vc6, rfl, _, _, _⟩ := SC.shp p2
  obtain ⟨na6, NL6, nc6, rfl, _, _, _⟩ := SC.shp p3
  obtain ⟨ma6, ML6, mc6, rfl, _, _, _⟩ := SC.shp p4
  obtain ⟨ms6, MN6, mk6, rfl⟩ := mv_slice hm6
  clear p1 p2 p3 p4
  have HL14 : Hid (BK w15 (w3.heap.size) 25 _) := hide ((unhide HC14).bk.keep bn)
  have HLo : Hid (BK w15 (w1.heap.size) 25 _) := hide ((unhide HA14).bk.keep bn)
  have HX16 := hide (bk_out11 (v0 := .int .i64 z3.id) (v1 := .int .i64 z3.n) (v2 := .int .i64 z3.term) (v3 := .int .i64 z3.vote) (v4 := .slice la6 LL6 lc6) (v5 := .int .i64 z3.commit) (v6 := .int .i64 z3.role) (v7 := .int .i64 z3.boss) (v8 := .slice va6 VL6 vc6) (v9 := .slice na6 NL6 nc6) (v10 := .slice ma6 ML6 mc6) ((unhide HX14).keep bn) (show w.heap.size ≠ w3.heap.size by have q1 := unhide HZ1; have q2 := unhide HZ3; omega))
  have HB16 : Hid (Below W0.heap.size W0 (put11 w15 (w3.heap.size) (.int .i64 z3.id) (.int .i64 z3.n) (.int .i64 z3.term) (.int .i64 z3.vote) (.slice la6 LL6 lc6) (.int .i64 z3.commit) (.int .i64 z3.role) (.int .i64 z3.boss) (.slice va6 VL6 vc6) (.slice na6 NL6 nc6) (.slice ma6 ML6 mc6))) := hide (below_put11 (below_via (unhide HB14) bn) (by have q1 := (unhide HB1).size; have q2 := unhide HZ3; omega))
  have HC16 : Hid (LA (w3.heap.size) (w1.heap.size) (put11 w15 (w3.heap.size) (.int .i64 z3.id) (.int .i64 z3.n) (.int .i64 z3.term) (.int .i64 z3.vote) (.slice la6 LL6 lc6) (.int .i64 z3.commit) (.int .i64 z3.role) (.int .i64 z3.boss) (.slice va6 VL6 vc6) (.slice na6 NL6 nc6) (.slice ma6 ML6 mc6)) #[.int .i64 z3.id, .int .i64 z3.n, .int .i64 z3.term, .int .i64 z3.vote, .slice la6 LL6 lc6, .int .i64 z3.commit, .int .i64 z3.role, .int .i64 z3.boss, .slice va6 VL6 vc6, .slice na6 NL6 nc6, .slice ma6 ML6 mc6] z3 (.slice ms6 MN6 mk6) zm3) := hide (la_set (unhide HL14) (fun c (hc : c < w.heap.size) => by have q1 := unhide HZ1; have q2 := unhide HZ3; have q3 := (unhide HL14).low; have q4 := (unhide HLo).low; omega) (unhide HC14).bk.low (unhide HA14).bk.low hv6 hm6)
  have HA16 := hide (((unhide HA14).keep bn).other (show w1.heap.size ≠ w3.heap.size by have q2 := unhide HZ3; omega) (.int .i64 z3.id) (.int .i64 z3.n) (.int .i64 z3.term) (.int .i64 z3.vote) (.slice la6 LL6 lc6) (.int .i64 z3.commit) (.int .i64 z3.role) (.int .i64 z3.boss) (.slice va6 VL6 vc6) (.slice na6 NL6 nc6) (.slice ma6 ML6 mc6))
  obtain ⟨s0, s1, s2, s3, s4, s5, s6, s7, s8, s9, s10⟩ := (unhide HL14).thaw11
  have sl := (unhide HL14).low
  obtain ⟨d0, d1, d2, d3, d4, d5, d6, d7, d8, d9, d10⟩ := (show NX w15 w3.heap.size _ _ _ _ _ _ _ _ _ _ _ from unhide HL14).tell
  unfold put11 at HX16 HB16 HA16 HC16
  clear hv6 hm6 bn HX14 HB14 HA14 HC14 HLo
  clear c0 c1 c2 c3 c4 c5 c6 c7 c8 c9 c10
  go_upto_region 13 with fail
  generalize (((((((((((w15.setCell ⟨w3.heap.size, 0, none⟩ (.int .i64 z3.id)).setCell ⟨w3.heap.size, 1, none⟩ (.int .i64 z3.n)).setCell ⟨w3.heap.size, 2, none⟩ (.int .i64 z3.term)).setCell ⟨w3.heap.size, 3, none⟩ (.int .i64 z3.vote)).setCell ⟨w3.heap.size, 4, none⟩ (.slice la6 LL6 lc6)).setCell ⟨w3.heap.size, 5, none⟩ (.int .i64 z3.commit)).setCell ⟨w3.heap.size, 6, none⟩ (.int .i64 z3.role)).setCell ⟨w3.heap.size, 7, none⟩ (.int .i64 z3.boss)).setCell ⟨w3.heap.size, 8, none⟩ (.slice va6 VL6 vc6)).setCell ⟨w3.heap.size, 9, none⟩ (.slice na6 NL6 nc6)).setCell ⟨w3.heap.size, 10, none⟩ (.slice ma6 ML6 mc6)) = w16 at HX16 HB16 HA16 HC16 ⊢
  clear sl HL14
  clear s0 s1 s2 s3 s4 s5 s6 s7 s8 s9 s10 d0 d1 d2 d3 d4 d5 d6 d7 d8 d9 d10
  have CS : Hid (∀ wx, Below w16.heap.size w16 wx → Calls Try.prog 8 #[.agg #[.int .i64 z3.id, .int .i64 z3.n, .int .i64 z3.term, .int .i64 z3.vote, .slice la5 LL5 lc5, .int .i64 z3.commit, .int .i64 z3.role, .int .i64 z3.boss, .slice va5 VL5 vc5, .slice na5 NL5 nc5, .slice ma5 ML5 mc5], .agg #[.int .i64 z3.id, .int .i64 z3.n, .int .i64 z3.term, .int .i64 z3.vote, .slice la6 LL6 lc6, .int .i64 z3.commit, .int .i64 z3.role, .int .i64 z3.boss, .slice va6 VL6 vc6, .slice na6 NL6 nc6, .slice ma6 ML6 mc6]] wx fun e w' => e = .returned (.bool true) ∧ Below wx.heap.size wx w') := hide (fun wx hx => R15.same_any z3 _ _ wx ((unhide HA16).keep hx).nw ((unhide HC16).keep hx).nw)
  have CM : Hid (∀ wx, Below w16.heap.size w16 wx → Calls Try.prog 9 #[.slice ms5 MN5 mk5, .slice ms6 MN6 mk6] wx fun e w' => e = .returned (.bool true) ∧ Below wx.heap.size wx w') := hide (fun wx hx => R15.sameMsgs_any zm3 _ _ wx ((unhide HA16).keep hx).mw ((unhide HC16).keep hx).mw)
  have CQ1 : Hid (∀ wx, Below w16.heap.size w16 wx → Calls Try.prog 14 #[.agg #[.int .i64 x.id, .int .i64 x.n, .int .i64 x.term, .int .i64 x.vote, .slice la LL lc, .int .i64 x.commit, .int .i64 x.role, .int .i64 x.boss, .slice va VL vc, .slice na NL nc, .slice ma ML mc]] wx (PN (· < w.heap.size) wx z4)) := hide (fun wx hx => unhide CR1 wx (below_via (unhide HB16) hx))
  have CQ2 : Hid (∀ wx, Below w16.heap.size w16 wx → Calls Try.prog 15 #[.agg #[.int .i64 x.id, .int .i64 x.n, .int .i64 x.term, .int .i64 x.vote, .slice la LL lc, .int .i64 x.commit, .int .i64 x.role, .int .i64 x.boss, .slice va VL vc, .slice na NL nc, .slice ma ML mc]] wx (PN (· < w.heap.size) wx z4)) := hide (fun wx hx => unhide CR2 wx (below_via (unhide HB16) hx))
  have HLN : Hid (w.heap.size ≤ w16.heap.size) := hide (by have q1 := (unhide HX16).low; omega)
  have gzb : (zb3 == zb3) = true := by simp
  have hcur : Below w16.heap.size w16 w16 := Below.refl _ _
  obtain ⟨c0, c1, c2, c3, c4, c5, c6, c7, c8, c9, c10, d0, d1, d2, d3, d4, d5, d6, d7, d8, d9, d10, f0, f1, f2, f3, f4, f5, f6, f7, f8, f9, f10⟩ := tell33 (unhide HX16) (unhide HA16).bk (unhide HC16).bk
  go_region_held2 (fun w' => w'.cell? ⟨w.heap.size, 0, none⟩ = some (.int .i64 x.id) ∧ w'.cell? ⟨w.heap.size, 1, none⟩ = some (.int .i64 x.n) ∧ w'.cell? ⟨w.heap.size, 2, none⟩ = some (.int .i64 x.term) ∧ w'.cell? ⟨w.heap.size, 3, none⟩ = some (.int .i64 x.vote) ∧ w'.cell? ⟨w.heap.size, 4, none⟩ = some (.slice la LL lc) ∧ w'.cell? ⟨w.heap.size, 5, none⟩ = some (.int .i64 x.commit) ∧ w'.cell? ⟨w.heap.size, 6, none⟩ = some (.int .i64 x.role) ∧ w'.cell? ⟨w.heap.size, 7, none⟩ = some (.int .i64 x.boss) ∧ w'.cell? ⟨w.heap.size, 8, none⟩ = some (.slice va VL vc) ∧ w'.cell? ⟨w.heap.size, 9, none⟩ = some (.slice na NL nc) ∧ w'.cell? ⟨w.heap.size, 10, none⟩ = some (.slice ma ML mc) ∧ w'.cell? ⟨w1.heap.size, 0, none⟩ = some (.int .i64 z3.id) ∧ w'.cell? ⟨w1.heap.size, 1, none⟩ = some (.int .i64 z3.n) ∧ w'.cell? ⟨w1.heap.size, 2, none⟩ = some (.int .i64 z3.term) ∧ w'.cell? ⟨w1.heap.size, 3, none⟩ = some (.int .i64 z3.vote) ∧ w'.cell? ⟨w1.heap.size, 4, none⟩ = some (.slice la5 LL5 lc5) ∧ w'.cell? ⟨w1.heap.size, 5, none⟩ = some (.int .i64 z3.commit) ∧ w'.cell? ⟨w1.heap.size, 6, none⟩ = some (.int .i64 z3.role) ∧ w'.cell? ⟨w1.heap.size, 7, none⟩ = some (.int .i64 z3.boss) ∧ w'.cell? ⟨w1.heap.size, 8, none⟩ = some (.slice va5 VL5 vc5) ∧ w'.cell? ⟨w1.heap.size, 9, none⟩ = some (.slice na5 NL5 nc5) ∧ w'.cell? ⟨w1.heap.size, 10, none⟩ = some (.slice ma5 ML5 mc5) ∧ w'.cell? ⟨w3.heap.size, 0, none⟩ = some (.int .i64 z3.id) ∧ w'.cell? ⟨w3.heap.size, 1, none⟩ = some (.int .i64 z3.n) ∧ w'.cell? ⟨w3.heap.size, 2, none⟩ = some (.int .i64 z3.term) ∧ w'.cell? ⟨w3.heap.size, 3, none⟩ = some (.int .i64 z3.vote) ∧ w'.cell? ⟨w3.heap.size, 4, none⟩ = some (.slice la6 LL6 lc6) ∧ w'.cell? ⟨w3.heap.size, 5, none⟩ = some (.int .i64 z3.commit) ∧ w'.cell? ⟨w3.heap.size, 6, none⟩ = some (.int .i64 z3.role) ∧ w'.cell? ⟨w3.heap.size, 7, none⟩ = some (.int .i64 z3.boss) ∧ w'.cell? ⟨w3.heap.size, 8, none⟩ = some (.slice va6 VL6 vc6) ∧ w'.cell? ⟨w3.heap.size, 9, none⟩ = some (.slice na6 NL6 nc6) ∧ w'.cell? ⟨w3.heap.size, 10, none⟩ = some (.slice ma6 ML6 mc6)) (first | go_keep | exact tell33 ((unhide HX16).keep (by assumption)) ((unhide HA16).bk.keep (by assumption)) ((unhide HC16).bk.keep (by assumption)))
    (first
      | (go_at_call 9; (with_reducible refine (unhide CM _ (by repeat (first | with_reducible exact hcur | with_reducible apply Below.drew))).mono ?_); rintro e wm ⟨rfl, hb0⟩; have hcur : Below w16.heap.size w16 wm := below_via (by repeat (first | with_reducible exact hcur | with_reducible apply Below.drew)) hb0; clear hb0)
      | (go_at_call 14; (with_reducible refine (unhide CQ1 _ (by repeat (first | with_reducible exact hcur | with_reducible apply Below.drew))).mono ?_); rintro e wr ⟨v7, rfl, hv7, hb0⟩; have hcur : Below w16.heap.size w16 wr := below_via (by repeat (first | with_reducible exact hcur | with_reducible apply Below.drew)) hb0; replace hv7 := pn_nv hv7 (Nat.le_trans (unhide HLN) hcur.size); (first | (replace hv8 := Nv.on (by repeat (first | with_reducible exact hv8 | with_reducible apply Nv.drew)) hb0) | skip); clear hb0)
      | (go_at_call 15; (with_reducible refine (unhide CQ2 _ (by repeat (first | with_reducible exact hcur | with_reducible apply Below.drew))).mono ?_); rintro e wq ⟨v8, rfl, hv8, hb0⟩; have hcur : Below w16.heap.size w16 wq := below_via (by repeat (first | with_reducible exact hcur | with_reducible apply Below.drew)) hb0; replace hv8 := pn_nv hv8 (Nat.le_trans (unhide HLN) hcur.size); (first | (replace hv7 := Nv.on (by repeat (first | with_reducible exact hv7 | with_reducible apply Nv.drew)) hb0) | skip); clear hb0)
      | (go_at_call 8; (with_reducible refine (unhide CS _ (by repeat (first | with_reducible exact hcur | with_reducible apply Below.drew))).mono ?_); rintro e ws ⟨rfl, hb0⟩; have hcur : Below w16.heap.size w16 ws := below_via (by repeat (first | with_reducible exact hcur | with_reducible apply Below.drew)) hb0; clear hb0)
      | (go_at_call 8; (with_reducible refine (R15.same_any z4 _ _ _ (by repeat (first | with_reducible exact hv7 | with_reducible apply Nv.drew)) (by repeat (first | with_reducible exact hv8 | with_reducible apply Nv.drew))).mono ?_); rintro e wt ⟨rfl, hb0⟩; have hcur : Below w16.heap.size w16 wt := below_via (by repeat (first | with_reducible exact hcur | with_reducible apply Below.drew)) hb0; clear hb0))
  all_goals
    have HF := hide (below_via (unhide HB0) (below_via (unhide HB16) hcur))
    clear hcur
    go_wp2
    go_ret
    exact ⟨rfl, by repeat (first | with_reducible exact unhide HF | with_reducible apply Below.drew)⟩

end Go.Proofs.Ytiplnegiphhdlaa
