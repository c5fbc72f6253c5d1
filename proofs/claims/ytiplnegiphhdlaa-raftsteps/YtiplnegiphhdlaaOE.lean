/- Walks: Elect (the document's). -/
import Derived.Test.YtiplnegiphhdlaaOP
namespace Go.Proofs.Ytiplnegiphhdlaa.Rf
/-- a node that may be elected: its numbers and its log are in their bounds -/
structure Stands (x : Node) : Prop where
  n : inB x.n 1 5
  id : inB x.id 1 x.n
  log : x.log.length ≤ 60
  commit : inB x.commit 0 (x.log.length : Int)
  votes : x.votes.length ≤ 1000
theorem crowned_leads {x : Node} (h : Stands x) : Leads (crowned x) := by
  have h1 := h.n.1
  refine ⟨h.n, h.id, ?_, ?_, h.log, ?_, h.commit⟩
  · show ((List.replicate _ _).length : Int) = x.n
    rw [List.length_replicate]; omega
  · show ((List.replicate _ _).length : Int) = x.n
    rw [List.length_replicate]; omega
  · intro v hv
    have hv : v ∈ List.replicate x.n.toNat ((x.log.length : Int) + 1) := hv
    obtain ⟨_, rfl⟩ := List.mem_replicate.1 hv
    exact ⟨by omega, Int.le_refl _⟩

end Go.Proofs.Ytiplnegiphhdlaa.Rf

namespace Go.Proofs.Ytiplnegiphhdlaa
theorem iv_slice {P : Nat → Prop} {w : World} {v : Value} {l : List Int} (h : IV P w v l) : ∃ a n c, v = .slice a n c := by
  obtain ⟨a, c, e, _⟩ := SC.shape h
  exact ⟨a, _, c, e⟩

end Go.Proofs.Ytiplnegiphhdlaa

namespace Go.Proofs.Ytiplnegiphhdlaa.R15
open Go.RowKit

set_option maxHeartbeats 4000000 in
set_option maxRecDepth 100000 in
theorem elect_new (P : Nat → Prop) (x : Rf.Node) (v : Array Value) (w : World) (hv : NV P w v x) (hP : ∀ c, P c → c < w.heap.size) (hS : Rf.Stands x) : Calls Try.prog 27 #[.agg v] w (PNM P w (Rf.elect x)) := by
  obtain ⟨N, hN⟩ : ∃ N : Nat, x.n = (N : Int) := ⟨x.n.toNat, by have := hS.n.1; omega⟩
  have hN1 : 1 ≤ N := by have := hS.n.1; omega
  have hN5 : N ≤ 5 := by have := hS.n.2; omega
  have HN := hide hN
  have HS := hide hS
  have HP := hide hP
  have HV := hide hv
  obtain ⟨lv, vv, nv, mv, rfl, h2, h3, h4, h5⟩ := hv
  obtain ⟨la, LL, lc, rfl, hLL, hlc, _⟩ := SC.shp h2
  obtain ⟨va, VL, vc, rfl, hVL, _, _⟩ := SC.shp h3
  obtain ⟨na, NL, nc, rfl, hNL, _, _⟩ := SC.shp h4
  obtain ⟨ma, ML, mc, rfl, hML, _, _⟩ := SC.shp h5
  have hLb : LL ≤ 60 := by rw [unhide hLL]; exact hS.log
  clear h2 h3 h4 h5 hS hP
  obtain ⟨W0, hW0⟩ : ∃ W0, W0 = (w.alloc (.cells #[.int .i64 x.id, .int .i64 x.n, .int .i64 x.term, .int .i64 x.vote, .slice la LL lc, .int .i64 x.commit, .int .i64 x.role, .int .i64 x.boss, .slice va VL vc, .slice na NL nc, .slice ma ML mc] 25)).alloc (.cells #[.int .i64 0, .int .i64 0, .int .i64 0, .int .i64 0, .slice none 0 0, .int .i64 0, .int .i64 0, .int .i64 0, .slice none 0 0, .slice none 0 0, .slice none 0 0] 25) := ⟨_, rfl⟩
  have HB0 : Hid (Below w.heap.size w W0) := hide (by rw [hW0]; exact (below_new _ _).alloc (by simp) _)
  have HX0 : Hid (BK W0 w.heap.size 25 #[.int .i64 x.id, .int .i64 x.n, .int .i64 x.term, .int .i64 x.vote, .slice la LL lc, .int .i64 x.commit, .int .i64 x.role, .int .i64 x.boss, .slice va VL vc, .slice na NL nc, .slice ma ML mc]) := hide (by rw [hW0]; exact (BK.new w _ _).keep (below_new _ _))
  have HR0 : Hid (BK W0 (w.heap.size + 1) 25 #[.int .i64 0, .int .i64 0, .int .i64 0, .int .i64 0, .slice none 0 0, .int .i64 0, .int .i64 0, .int .i64 0, .slice none 0 0, .slice none 0 0, .slice none 0 0]) := hide (by
    rw [hW0]
    exact BK.new' _ _ _ (by simp))
  obtain ⟨c0, c1, c2, c3, c4, c5, c6, c7, c8, c9, c10⟩ := (show NX W0 w.heap.size _ _ _ _ _ _ _ _ _ _ _ from unhide HX0).tell
  have CM := hide (most_any x #[.int .i64 x.id, .int .i64 x.n, .int .i64 x.term, .int .i64 x.vote, .slice la LL lc, .int .i64 x.commit, .int .i64 x.role, .int .i64 x.boss, .slice va VL vc, .slice na NL nc, .slice ma ML mc] VL W0 (NV.keep (keptN (unhide HP) (unhide HB0)) (unhide HV)) (unhide HS).n.1 (unhide HS).n.2 (by have := unhide hVL; have := (unhide HS).votes; omega))
  clear hN
  go_enter Try.func27, Try.ntmps27
  go_upto_region 1 with fail
  rw [← hW0]
  clear hW0
  go_wp2_with fail
  refine (unhide CM).mono ?_
  rintro e w1 ⟨rfl, b1⟩
  have X1 := (unhide HX0).keep b1
  have R1 := (unhide HR0).keep b1
  have B1 := hide (below_via (unhide HB0) b1)
  have V1 : Hid (NV (Aw P w.heap.size w1) w1 #[.int .i64 x.id, .int .i64 x.n, .int .i64 x.term, .int .i64 x.vote, .slice la LL lc, .int .i64 x.commit, .int .i64 x.role, .int .i64 x.boss, .slice va VL vc, .slice na NL nc, .slice ma ML mc] x) := hide ((unhide HV).keep fun c hc => ⟨.inl hc, (unhide B1).block c (unhide HP c hc)⟩)
  have HX1 := hide X1
  have HR1 := hide R1
  clear HX0 HR0 HB0 c0 c1 c2 c3 c4 c5 c6 c7 c8 c9 c10 CM b1
  obtain ⟨c0, c1, c2, c3, c4, c5, c6, c7, c8, c9, c10⟩ := (show NX w1 w.heap.size _ _ _ _ _ _ _ _ _ _ _ from X1).tell
  by_cases hm : Rf.most x.n VL
  case neg =>
    have hd : decide (Rf.most x.n VL) = false := decide_eq_false hm
    have HE : Hid (Rf.elect x = (x, [])) := hide (by rw [Rf.elect, if_neg (by rw [← unhide hVL]; exact hm)])
    obtain ⟨r0, r1, r2, r3, r4, r5, r6, r7, r8, r9, r10⟩ := (show NX w1 (w.heap.size + 1) _ _ _ _ _ _ _ _ _ _ _ from R1).tell
    obtain ⟨t0, t1, t2, t3, t4, t5, t6, t7, t8, t9, t10⟩ := R1.thaw11
    have rl := R1.low
    have FIN : Hid (PNM P w (Rf.elect x) (.returned (.tuple #[.agg #[.int .i64 x.id, .int .i64 x.n, .int .i64 x.term, .int .i64 x.vote, .slice la LL lc, .int .i64 x.commit, .int .i64 x.role, .int .i64 x.boss, .slice va VL vc, .slice na NL nc, .slice ma ML mc], .slice none 0 0])) (put11 w1 (w.heap.size + 1) (.int .i64 x.id) (.int .i64 x.n) (.int .i64 x.term) (.int .i64 x.vote) (.slice la LL lc) (.int .i64 x.commit) (.int .i64 x.role) (.int .i64 x.boss) (.slice va VL vc) (.slice na NL nc) (.slice ma ML mc))) := hide (by
      rw [unhide HE]
      exact pnm_ret (unhide HP) R1.low (unhide V1) (unhide B1) (Below.refl _ _) (MV.nil _ _))
    clear hm X1 R1 HX1 HR1 V1 B1 HE
    go_wp2
    exact bodyPost_ret (v := .tuple #[.agg #[.int .i64 x.id, .int .i64 x.n, .int .i64 x.term, .int .i64 x.vote, .slice la LL lc, .int .i64 x.commit, .int .i64 x.role, .int .i64 x.boss, .slice va VL vc, .slice na NL nc, .slice ma ML mc], .slice none 0 0]) (by simp [results, Try.results27, go_sem, r0, r1, r2, r3, r4, r5, r6, r7, r8, r9, r10]) rfl (unhide FIN)
  have hd : decide (Rf.most x.n VL) = true := decide_eq_true hm
  have HE : Hid (Rf.elect x = Rf.put (Rf.crowned x) 0) := hide (by rw [Rf.elect, if_pos (by rw [← unhide hVL]; exact hm)])
  obtain ⟨t0, t1, t2, t3, t4, t5, t6, t7, t8, t9, t10⟩ := X1.thaw11
  have xl := X1.low
  clear hm X1 R1
  have N2 : Hid (NB P w.heap.size (((w1.setCell ⟨w.heap.size, 6, none⟩ (.int .i64 3)).setCell ⟨w.heap.size, 7, none⟩ (.int .i64 x.id)).setCell ⟨w.heap.size, 8, none⟩ (.slice none 0 0)) { x with role := 3, boss := x.id, votes := [] }) := hide (by
    obtain ⟨q1, _, q3, q4⟩ := And.intro (NV.log (unhide V1)) (NV.votes (unhide V1))
    have k : ∀ c, Aw P w.heap.size w1 c → Aw P w.heap.size (((w1.setCell ⟨w.heap.size, 6, none⟩ (.int .i64 3)).setCell ⟨w.heap.size, 7, none⟩ (.int .i64 x.id)).setCell ⟨w.heap.size, 8, none⟩ (.slice none 0 0)) c ∧ (((w1.setCell ⟨w.heap.size, 6, none⟩ (.int .i64 3)).setCell ⟨w.heap.size, 7, none⟩ (.int .i64 x.id)).setCell ⟨w.heap.size, 8, none⟩ (.slice none 0 0)).heap[c]? = w1.heap[c]? := fun c hc => by
      have hs : ∀ (u : World) (j : Nat) (y : Value), (u.setCell ⟨w.heap.size, j, none⟩ y).heap[c]? = u.heap[c]? := fun u j y => Below.heap_setCell u ⟨w.heap.size, j, none⟩ y c (Aw.lt (unhide HP) xl hc).2
      exact ⟨hc.mono (by simp [World.setCell]), by rw [hs, hs, hs]⟩
    exact ⟨_, (((unhide HX1).set 6 _).set 7 _).set 8 _, _, _, _, _, rfl, q1.keep k, SC.nil _ _ _, q3.keep k, q4.keep k⟩)
  have R2 := hide ((((unhide HR1).other ⟨w.heap.size, 6, none⟩ (.int .i64 3) (show w.heap.size + 1 ≠ w.heap.size by omega)).other ⟨w.heap.size, 7, none⟩ (.int .i64 x.id) (show w.heap.size + 1 ≠ w.heap.size by omega)).other ⟨w.heap.size, 8, none⟩ (.slice none 0 0) (show w.heap.size + 1 ≠ w.heap.size by omega))
  have B2 := hide ((((unhide B1).setCell (p := ⟨w.heap.size, 6, none⟩) (Nat.le_refl _) (.int .i64 3)).setCell (p := ⟨w.heap.size, 7, none⟩) (Nat.le_refl _) (.int .i64 x.id)).setCell (p := ⟨w.heap.size, 8, none⟩) (Nat.le_refl _) (.slice none 0 0))
  clear HX1 HR1 B1 V1 HV
  go_upto_region 4 with fail
  clear c0 c1 c2 c3 c4 c5 c6 c7 c8 c9 c10 t0 t1 t2 t3 t4 t5 t6 t7 t8 t9 t10 xl
  generalize ((w1.setCell ⟨w.heap.size, 6, none⟩ (.int .i64 3)).setCell ⟨w.heap.size, 7, none⟩ (.int .i64 x.id)).setCell ⟨w.heap.size, 8, none⟩ (.slice none 0 0) = w2 at N2 R2 B2 ⊢
  obtain ⟨la2, L2, lc2, va2, V2, vc2, na2, N2', nc2, ma2, M2, mc2, A2, V2', HLn⟩ := (unhide N2).cells
  simp only at A2 V2' HLn
  rw [unhide HN] at A2
  have hL2 : L2 ≤ 60 := by have := (unhide HLn).1; have := (unhide HS).log; omega
  have eL : IntKind.i64.wrap ((L2 : Int) + 1) = (L2 : Int) + 1 := wrap_i64 (by omega) (by omega)
  have C1 : Hid (∀ wx, Calls Try.prog 45 #[.int .i64 ((L2 : Int) + 1), .int .i64 (N : Int)] wx fun e w' => ∃ v, e = .returned v ∧ IV (Fresh wx w') w' v (List.replicate N ((L2 : Int) + 1)) ∧ Below wx.heap.size wx w') := hide (fun wx => copy_new _ N (by omega) wx)
  have C2 : Hid (∀ wx, Calls Try.prog 45 #[.int .i64 0, .int .i64 (N : Int)] wx fun e w' => ∃ v, e = .returned v ∧ IV (Fresh wx w') w' v (List.replicate N 0) ∧ Below wx.heap.size wx w') := hide (fun wx => copy_new _ N (by omega) wx)
  have HA := hide A2
  have HV2 := hide V2'
  have c1 := A2.at (j := 1) rfl
  have c4 := A2.at (j := 4) rfl
  clear A2 V2' N2
  go_region_held2 (fun w' => w'.cell? ⟨w.heap.size, 1, none⟩ = some (.int .i64 (N : Int)) ∧ w'.cell? ⟨w.heap.size, 4, none⟩ = some (.slice la2 L2 lc2)) (first | go_keep | exact ⟨((((unhide HA).keep hb4).set 9 _).set 10 _).at rfl, ((((unhide HA).keep hb4).set 9 _).set 10 _).at rfl⟩ | exact ⟨(((unhide HA).keep hb4).set 9 _).at rfl, (((unhide HA).keep hb4).set 9 _).at rfl⟩ | exact ⟨((unhide HA).keep hb4).at rfl, ((unhide HA).keep hb4).at rfl⟩ | exact ⟨((unhide HA).keep hb3).at rfl, ((unhide HA).keep hb3).at rfl⟩ | exact ⟨((unhide HA).keep (by assumption)).at rfl, ((unhide HA).keep (by assumption)).at rfl⟩)
    (first
      | (go_at_call 45; with_reducible refine (unhide C1 _).mono ?_; rintro e w3 ⟨nv3, rfl, hn3, hb0⟩; have hb3 : Below w2.heap.size w2 w3 := below_via (Below.refl w2.heap.size w2).drew hb0; clear hb0; obtain ⟨na3, N3, nc3, en⟩ := iv_slice hn3; subst en; have HN3 := hide hn3; clear hn3)
      | (go_at_call 45; with_reducible refine (unhide C2 _).mono ?_; rintro e w4 ⟨mv4, rfl, hm4, hb0⟩; have hb4 : Below w2.heap.size w2 w4 := below_via hb3 hb0; obtain ⟨ma4, M4, mc4, em⟩ := iv_slice hm4; subst em; have HM4 := hide hm4; have HB34 := hide hb0; have X4 := (unhide HA).keep hb4; have y9 := X4.at (j := 9) rfl; have y10 := X4.at (j := 10) rfl; have y9f := X4.thaw 9; have y10f := X4.thaw 10; have yl := X4.low; clear hm4 hb0 X4))
  have kA : ∀ c, Aw P w.heap.size w2 c → Aw P w.heap.size w4 c ∧ w4.heap[c]? = w2.heap[c]? := fun c hc => ⟨hc.mono hb4.size, hb4.block c (Aw.lt (unhide HP) (unhide HA).low hc).1⟩
  have s2 := (unhide R2).low
  have s3 := hb3.size
  have s4 := (unhide HB34).size
  have N4 : Hid (NB P w.heap.size ((w4.setCell ⟨w.heap.size, 9, none⟩ (.slice na3 N3 nc3)).setCell ⟨w.heap.size, 10, none⟩ (.slice ma4 M4 mc4)) (Rf.crowned x)) := hide (by
    obtain ⟨q1, q2, _, _⟩ := And.intro (NV.log (unhide HV2)) (NV.votes (unhide HV2))
    have X4 := (unhide HA).keep hb4
    have k : ∀ c, Aw P w.heap.size w4 c → Aw P w.heap.size ((w4.setCell ⟨w.heap.size, 9, none⟩ (.slice na3 N3 nc3)).setCell ⟨w.heap.size, 10, none⟩ (.slice ma4 M4 mc4)) c ∧ ((w4.setCell ⟨w.heap.size, 9, none⟩ (.slice na3 N3 nc3)).setCell ⟨w.heap.size, 10, none⟩ (.slice ma4 M4 mc4)).heap[c]? = w4.heap[c]? := fun c hc => by
      have hs : ∀ (u : World) (j : Nat) (y : Value), (u.setCell ⟨w.heap.size, j, none⟩ y).heap[c]? = u.heap[c]? := fun u j y => Below.heap_setCell u ⟨w.heap.size, j, none⟩ y c (Aw.lt (unhide HP) X4.low hc).2
      exact ⟨hc.mono (by simp [World.setCell]), by rw [hs, hs]⟩
    have eC : Rf.crowned x = { x with role := 3, boss := x.id, votes := [], next := List.replicate N ((L2 : Int) + 1), mtch := List.replicate N 0 } := by
      rw [Rf.crowned, unhide HN, Int.toNat_natCast, (unhide HLn).1]
    rw [eC]
    refine ⟨_, (X4.set 9 _).set 10 _, _, _, _, _, by rw [← unhide HN]; rfl, (q1.keep kA).keep k, (q2.keep kA).keep k, ?_, ?_⟩
    · exact ((unhide HN3).keep (Q := Aw P w.heap.size w4) fun c hc => ⟨.inr ⟨by have := hc.1; have : w2.drew.heap.size = w2.heap.size := rfl; omega, by have := hc.2; omega⟩, (unhide HB34).block c hc.2⟩).keep k
    · exact ((unhide HM4).keep (Q := Aw P w.heap.size w4) fun c hc => ⟨.inr ⟨by have := hc.1; omega, hc.2⟩, rfl⟩).keep k)
  have R4 := hide ((((unhide R2).keep hb4).other ⟨w.heap.size, 9, none⟩ (.slice na3 N3 nc3) (show w.heap.size + 1 ≠ w.heap.size by omega)).other ⟨w.heap.size, 10, none⟩ (.slice ma4 M4 mc4) (show w.heap.size + 1 ≠ w.heap.size by omega))
  have B4 := hide (((below_via (unhide B2) hb4).setCell (p := ⟨w.heap.size, 9, none⟩) (Nat.le_refl _) (.slice na3 N3 nc3)).setCell (p := ⟨w.heap.size, 10, none⟩) (Nat.le_refl _) (.slice ma4 M4 mc4))
  clear kA s2 s3 s4 R2 B2 HA HV2 HN3 HM4 HB34 hb3 hb4 y9 y10 y9f y10f yl C1 C2 HLn
  generalize (w4.setCell ⟨w.heap.size, 9, none⟩ (.slice na3 N3 nc3)).setCell ⟨w.heap.size, 10, none⟩ (.slice ma4 M4 mc4) = w5 at N4 R4 B4 ⊢
  have HLd := hide (Rf.crowned_leads (unhide HS))
  obtain ⟨y, hy⟩ : ∃ y, y = Rf.crowned x := ⟨_, rfl⟩
  rw [← hy] at N4 HLd HE
  clear hy
  obtain ⟨la5, L5, lc5, va5, V5, vc5, na5, N5, nc5, ma5, M5, mc5, A5, V5', -⟩ := (unhide N4).cells
  have CS := hide (put_new (Aw P w.heap.size w5) y 0 _ w5 V5' (fun c hc => (Aw.lt (unhide HP) A5.low hc).1) (unhide HLd))
  obtain ⟨c0, c1, c2, c3, c4, c5, c6, c7, c8, c9, c10⟩ := (show NX w5 w.heap.size _ _ _ _ _ _ _ _ _ _ _ from A5).tell
  clear A5 V5' N4
  go_wp2_with fail
  refine (unhide CS).mono ?_
  rintro e w6 ⟨v6, m6, rfl, hv6, hm6, b6⟩
  obtain ⟨⟨z, zm⟩, hz⟩ : ∃ z, z = Rf.put y 0 := ⟨_, rfl⟩
  rw [← hz] at hv6 hm6 HE
  clear hz
  simp only at hv6 hm6
  obtain ⟨lv6, vv6, nv6, mv6, rfl, p1, p2, p3, p4⟩ := id hv6
  obtain ⟨la6, L6, lc6, rfl, _, _, _⟩ := SC.shp p1
  obtain ⟨va6, V6, vc6, rfl, _, _, _⟩ := SC.shp p2
  obtain ⟨na6, N6, nc6, rfl, _, _, _⟩ := SC.shp p3
  obtain ⟨ma6, M6, mc6, rfl, _, _, _⟩ := SC.shp p4
  obtain ⟨ms6, ML6, mk6, rfl⟩ := mv_slice hm6
  clear p1 p2 p3 p4
  have R6 := (unhide R4).keep b6
  have lowR := (unhide R4).low
  obtain ⟨r0, r1, r2, r3, r4, r5, r6, r7, r8, r9, r10⟩ := (show NX w6 (w.heap.size + 1) _ _ _ _ _ _ _ _ _ _ _ from R6).tell
  obtain ⟨t0, t1, t2, t3, t4, t5, t6, t7, t8, t9, t10⟩ := R6.thaw11
  have rl := R6.low
  have FIN : Hid (PNM P w (Rf.elect x) (.returned (.tuple #[.agg #[.int .i64 z.id, .int .i64 z.n, .int .i64 z.term, .int .i64 z.vote, .slice la6 L6 lc6, .int .i64 z.commit, .int .i64 z.role, .int .i64 z.boss, .slice va6 V6 vc6, .slice na6 N6 nc6, .slice ma6 M6 mc6], .slice ms6 ML6 mk6])) (put11 w6 (w.heap.size + 1) (.int .i64 z.id) (.int .i64 z.n) (.int .i64 z.term) (.int .i64 z.vote) (.slice la6 L6 lc6) (.int .i64 z.commit) (.int .i64 z.role) (.int .i64 z.boss) (.slice va6 V6 vc6) (.slice na6 N6 nc6) (.slice ma6 M6 mc6))) := hide (by
    rw [unhide HE]
    exact pnm_ret2 (unhide HP) R6.low (hv6.keep (Q := Aw P w.heap.size w6) fun c hc => ⟨hc.elim (fun q => q.mono b6.size) (fun q => .inr ⟨by have := q.1; omega, q.2⟩), rfl⟩) (below_via (unhide B4) b6) (hm6.keep fun c hc => ⟨⟨by have := hc.1; omega, hc.2⟩, rfl⟩))
  clear hv6 hm6 R6 R4 B4 b6 CS HLd HE lowR c0 c1 c2 c3 c4 c5 c6 c7 c8 c9 c10
  go_wp2
  exact bodyPost_ret (v := .tuple #[.agg #[.int .i64 z.id, .int .i64 z.n, .int .i64 z.term, .int .i64 z.vote, .slice la6 L6 lc6, .int .i64 z.commit, .int .i64 z.role, .int .i64 z.boss, .slice va6 V6 vc6, .slice na6 N6 nc6, .slice ma6 M6 mc6], .slice ms6 ML6 mk6]) (by simp [results, Try.results27, go_sem, r0, r1, r2, r3, r4, r5, r6, r7, r8, r9, r10]) rfl (unhide FIN)

end Go.Proofs.Ytiplnegiphhdlaa.R15
