/- Walks: Timeout (the document's). (Its pieces: gen_ob.py; written by mk_ot.py.) -/
import Derived.Test.YtiplnegiphhdlaaOB1
import Derived.Test.YtiplnegiphhdlaaOU
namespace Go.Proofs.Ytiplnegiphhdlaa
open Go.RowKit
theorem out_fin {P : Nat → Prop} {w w2 wr w7 Wd w8 : World} {u4 v8 : Value} {ms zm : List Rf.Msg} {cs csM : List Value} {z : Rf.Node} {u0 u1 u2 u3 a4 u5 u6 u7 u8 u9 u10 : Value} (hP : ∀ c, P c → c < w.heap.size) (lowb : w.heap.size + 1 < w2.heap.size) (hs2 : w2.heap.size ≤ wr.heap.size) (hs7 : wr.heap.size ≤ w7.heap.size) (hB : Below w.heap.size w w7) (hv : NV (fun c => Aw P w.heap.size w2 c ∨ Fresh wr w7 c) w7 #[u0, u1, u2, u3, a4, u5, u6, u7, u8, u9, u10] z)
    (o1 : w7.ownsRow w2.heap.size 49 9 u4 ms.length cs) (o2 : MC (fun b => w2.heap.size ≤ b ∧ b < w7.heap.size ∧ u4.ownBlock ≠ some b) w7 ms cs) (og : ∀ g, u4.ownBlock = some g → w2.heap.size ≤ g ∧ g < wr.heap.size) (hC : MC (Fresh wr w7) w7 zm csM) (hd : Below w7.heap.size w7 Wd) (hg : Wd.grownBy w8 u4.ownBlock)
    (ho : w8.ownsRow w2.heap.size 49 9 v8 (ms.length + zm.length) (cs ++ csM)) (hat : v8.ownBlock = u4.ownBlock ∨ v8.ownBlock = some Wd.heap.size) :
    NV (Aw P w.heap.size w8) w8 #[u0, u1, u2, u3, a4, u5, u6, u7, u8, u9, u10] z ∧ MV (fun c => w.heap.size + 1 < c ∧ c < w8.heap.size) w8 v8 (ms ++ zm) ∧ Below w.heap.size w w8 ∧ Below w2.heap.size w7 w8 := by
  have sd := hd.size
  have sg := hg.size
  have b8 : Below w2.heap.size w7 w8 := (hd.mono (by omega)).trans (own_old (own_below o1 hd) hg (by omega))
  have hM : MO w2.heap.size w8 v8 (ms ++ zm) := MO.next (o2.keep fun c hc => ⟨⟨hc.1, Nat.lt_of_lt_of_le hc.2.1 sd, hc.2.2⟩, hd.block c hc.2.1⟩) (hC.keep fun c hc => ⟨⟨by have := hc.1; omega, Nat.lt_of_lt_of_le hc.2 sd, fun e => by have := (og c e).2; have := hc.1; omega⟩, hd.block c hc.2⟩) ho hg hat
  refine ⟨hv.keep fun c hc => ?_, hM.mv.keep fun c hc => ⟨⟨by have := hc.1; omega, hc.2⟩, rfl⟩, hB.trans (b8.mono (by omega)), b8⟩
  rcases hc with q | q
  · have hl := (Aw.lt hP (by omega) q).1
    exact ⟨q.mono (by omega), b8.block c hl⟩
  · have q1 := q.1
    have q2 := q.2
    exact ⟨.inr ⟨by omega, by omega⟩, (hg.block c (by omega) (fun e => by have := (og c e.symm).2; omega)).trans (hd.block c q2)⟩

end Go.Proofs.Ytiplnegiphhdlaa

namespace Go.Proofs.Ytiplnegiphhdlaa.Rf
theorem elect_few (x : Node) (h : x.n ≤ 5) : (elect x).2.length ≤ 5 := by
  have l : ∀ y : Node, (batches y).length ≤ y.n.toNat := fun y => by
    rw [batches, List.length_map, others]
    have := List.length_filter_le (fun q => decide (q ≠ y.id)) ((List.range y.n.toNat).map (fun i : Nat => (i : Int) + 1))
    rw [List.length_map, List.length_range] at this
    exact this
  unfold elect
  split
  · have := l (sure (putOne (crowned x) 0))
    have e : (sure (putOne (crowned x) 0)).n = x.n := rfl
    rw [e] at this
    show (batches _).length ≤ 5
    omega
  · simp

end Go.Proofs.Ytiplnegiphhdlaa.Rf

namespace Go.Proofs.Ytiplnegiphhdlaa.R15
open Go.RowKit

set_option maxHeartbeats 4000000 in
set_option maxRecDepth 100000 in
theorem timeout_new (P : Nat → Prop) (x : Rf.Node) (v : Array Value) (w : World) (hv : NV P w v x) (hP : ∀ c, P c → c < w.heap.size) (hsz : x.next.length + x.mtch.length ≤ 9223372036854775807) : Calls Try.prog 7 #[.agg v] w (PNM P w (Rf.timeout x)) := by
  have HP := hide hP
  have HV := hide hv
  obtain ⟨lv, vv, nv, mv, rfl, h2, h3, h4, h5⟩ := hv
  obtain ⟨la, LL, lc, rfl, hLL, hlc, _⟩ := SC.shp h2
  obtain ⟨va, VL, vc, rfl, hVL, _, _⟩ := SC.shp h3
  obtain ⟨na, NL, nc, rfl, hNL, _, _⟩ := SC.shp h4
  obtain ⟨ma, ML, mc, rfl, hML, _, _⟩ := SC.shp h5
  clear h2 h3 h4 h5 hP
  obtain ⟨W0, hW0⟩ : ∃ W0, W0 = (w.alloc (.cells #[.int .i64 x.id, .int .i64 x.n, .int .i64 x.term, .int .i64 x.vote, .slice la LL lc, .int .i64 x.commit, .int .i64 x.role, .int .i64 x.boss, .slice va VL vc, .slice na NL nc, .slice ma ML mc] 25)).alloc (.cells #[.int .i64 0, .int .i64 0, .int .i64 0, .int .i64 0, .slice none 0 0, .int .i64 0, .int .i64 0, .int .i64 0, .slice none 0 0, .slice none 0 0, .slice none 0 0] 25) := ⟨_, rfl⟩
  have HB0 : Hid (Below w.heap.size w W0) := hide (by rw [hW0]; exact (below_new _ _).alloc (by simp) _)
  have HX0 : Hid (BK W0 w.heap.size 25 #[.int .i64 x.id, .int .i64 x.n, .int .i64 x.term, .int .i64 x.vote, .slice la LL lc, .int .i64 x.commit, .int .i64 x.role, .int .i64 x.boss, .slice va VL vc, .slice na NL nc, .slice ma ML mc]) := hide (by rw [hW0]; exact (BK.new w _ _).keep (below_new _ _))
  have HR0 : Hid (BK W0 (w.heap.size + 1) 25 #[.int .i64 0, .int .i64 0, .int .i64 0, .int .i64 0, .slice none 0 0, .int .i64 0, .int .i64 0, .int .i64 0, .slice none 0 0, .slice none 0 0, .slice none 0 0]) := hide (by
    rw [hW0]
    exact BK.new' _ _ _ (by simp))
  obtain ⟨c0, c1, c2, c3, c4, c5, c6, c7, c8, c9, c10⟩ := (show NX W0 w.heap.size _ _ _ _ _ _ _ _ _ _ _ from unhide HX0).tell
  have CW := hide (wrong_any x #[.int .i64 x.id, .int .i64 x.n, .int .i64 x.term, .int .i64 x.vote, .slice la LL lc, .int .i64 x.commit, .int .i64 x.role, .int .i64 x.boss, .slice va VL vc, .slice na NL nc, .slice ma ML mc] W0 (NV.keep (keptN (unhide HP) (unhide HB0)) (unhide HV)) hsz)
  obtain ⟨we, hwe⟩ : ∃ we, we = Rf.wrongN x := ⟨_, rfl⟩
  rw [← hwe] at CW
  have HWe := hide hwe
  clear hsz hwe
  go_enter Try.func7, Try.ntmps7
  go_wp2_with fail
  rw [← hW0]
  clear hW0
  refine (unhide CW).mono ?_
  rintro e w1 ⟨rfl, b1⟩
  have X1 := (unhide HX0).keep b1
  have R1 := (unhide HR0).keep b1
  have B1 := hide (below_via (unhide HB0) b1)
  have V1 : Hid (NV (Aw P w.heap.size w1) w1 #[.int .i64 x.id, .int .i64 x.n, .int .i64 x.term, .int .i64 x.vote, .slice la LL lc, .int .i64 x.commit, .int .i64 x.role, .int .i64 x.boss, .slice va VL vc, .slice na NL nc, .slice ma ML mc] x) := hide ((unhide HV).keep fun c hc => ⟨.inl hc, (unhide B1).block c (unhide HP c hc)⟩)
  have HX1 := hide X1
  have HR1 := hide R1
  clear HX0 HR0 HB0 c0 c1 c2 c3 c4 c5 c6 c7 c8 c9 c10 CW b1
  obtain ⟨c0, c1, c2, c3, c4, c5, c6, c7, c8, c9, c10⟩ := (show NX w1 w.heap.size _ _ _ _ _ _ _ _ _ _ _ from X1).tell
  obtain ⟨r0, r1, r2, r3, r4, r5, r6, r7, r8, r9, r10⟩ := (show NX w1 (w.heap.size + 1) _ _ _ _ _ _ _ _ _ _ _ from R1).tell
  obtain ⟨t0, t1, t2, t3, t4, t5, t6, t7, t8, t9, t10⟩ := R1.thaw11
  have rl := R1.low
  by_cases hq : we = 0
  case neg =>
    have g1 : (we != 0) = true := by simpa using hq
    have HE : Hid (Rf.timeout x = (x, [])) := hide (by rw [Rf.timeout, if_pos (.inl (by rw [← unhide HWe]; exact hq))])
    have FIN : Hid (PNM P w (Rf.timeout x) (.returned (.tuple #[.agg #[.int .i64 x.id, .int .i64 x.n, .int .i64 x.term, .int .i64 x.vote, .slice la LL lc, .int .i64 x.commit, .int .i64 x.role, .int .i64 x.boss, .slice va VL vc, .slice na NL nc, .slice ma ML mc], .slice none 0 0])) (put11 w1 (w.heap.size + 1) (.int .i64 x.id) (.int .i64 x.n) (.int .i64 x.term) (.int .i64 x.vote) (.slice la LL lc) (.int .i64 x.commit) (.int .i64 x.role) (.int .i64 x.boss) (.slice va VL vc) (.slice na NL nc) (.slice ma ML mc))) := hide (by
      rw [unhide HE]
      exact pnm_ret (unhide HP) R1.low (unhide V1) (unhide B1) (Below.refl _ _) (MV.nil _ _))
    clear X1 R1 HX1 HR1 V1 B1 HE hq
    go_wp2
    exact bodyPost_ret (v := .tuple #[.agg #[.int .i64 x.id, .int .i64 x.n, .int .i64 x.term, .int .i64 x.vote, .slice la LL lc, .int .i64 x.commit, .int .i64 x.role, .int .i64 x.boss, .slice va VL vc, .slice na NL nc, .slice ma ML mc], .slice none 0 0]) (by simp [results, Try.results7, go_sem, r0, r1, r2, r3, r4, r5, r6, r7, r8, r9, r10]) rfl (unhide FIN)
  have g1 : (we != 0) = false := by simpa using hq
  have Hq : Hid (Rf.wrongN x = 0) := hide (by rw [← unhide HWe]; exact hq)
  clear hq HWe
  by_cases hq : ¬ x.role = 3
  case neg =>
    have g2 : (x.role == 3) = true := by simpa using hq
    have HE : Hid (Rf.timeout x = (x, [])) := hide (by rw [Rf.timeout, if_pos (.inr (.inl (Classical.not_not.1 hq)))])
    have FIN : Hid (PNM P w (Rf.timeout x) (.returned (.tuple #[.agg #[.int .i64 x.id, .int .i64 x.n, .int .i64 x.term, .int .i64 x.vote, .slice la LL lc, .int .i64 x.commit, .int .i64 x.role, .int .i64 x.boss, .slice va VL vc, .slice na NL nc, .slice ma ML mc], .slice none 0 0])) (put11 w1 (w.heap.size + 1) (.int .i64 x.id) (.int .i64 x.n) (.int .i64 x.term) (.int .i64 x.vote) (.slice la LL lc) (.int .i64 x.commit) (.int .i64 x.role) (.int .i64 x.boss) (.slice va VL vc) (.slice na NL nc) (.slice ma ML mc))) := hide (by
      rw [unhide HE]
      exact pnm_ret (unhide HP) R1.low (unhide V1) (unhide B1) (Below.refl _ _) (MV.nil _ _))
    clear X1 R1 HX1 HR1 V1 B1 HE hq
    go_wp2
    exact bodyPost_ret (v := .tuple #[.agg #[.int .i64 x.id, .int .i64 x.n, .int .i64 x.term, .int .i64 x.vote, .slice la LL lc, .int .i64 x.commit, .int .i64 x.role, .int .i64 x.boss, .slice va VL vc, .slice na NL nc, .slice ma ML mc], .slice none 0 0]) (by simp [results, Try.results7, go_sem, r0, r1, r2, r3, r4, r5, r6, r7, r8, r9, r10]) rfl (unhide FIN)
  have g2 : (x.role == 3) = false := by simpa using hq
  have Hr := hide hq
  clear hq
  by_cases hq : ¬ x.term = 1000000
  case neg =>
    have g3 : (x.term == 1000000) = true := by simpa using hq
    have HE : Hid (Rf.timeout x = (x, [])) := hide (by rw [Rf.timeout, if_pos (.inr (.inr (Classical.not_not.1 hq)))])
    have FIN : Hid (PNM P w (Rf.timeout x) (.returned (.tuple #[.agg #[.int .i64 x.id, .int .i64 x.n, .int .i64 x.term, .int .i64 x.vote, .slice la LL lc, .int .i64 x.commit, .int .i64 x.role, .int .i64 x.boss, .slice va VL vc, .slice na NL nc, .slice ma ML mc], .slice none 0 0])) (put11 w1 (w.heap.size + 1) (.int .i64 x.id) (.int .i64 x.n) (.int .i64 x.term) (.int .i64 x.vote) (.slice la LL lc) (.int .i64 x.commit) (.int .i64 x.role) (.int .i64 x.boss) (.slice va VL vc) (.slice na NL nc) (.slice ma ML mc))) := hide (by
      rw [unhide HE]
      exact pnm_ret (unhide HP) R1.low (unhide V1) (unhide B1) (Below.refl _ _) (MV.nil _ _))
    clear X1 R1 HX1 HR1 V1 B1 HE hq
    go_wp2
    exact bodyPost_ret (v := .tuple #[.agg #[.int .i64 x.id, .int .i64 x.n, .int .i64 x.term, .int .i64 x.vote, .slice la LL lc, .int .i64 x.commit, .int .i64 x.role, .int .i64 x.boss, .slice va VL vc, .slice na NL nc, .slice ma ML mc], .slice none 0 0]) (by simp [results, Try.results7, go_sem, r0, r1, r2, r3, r4, r5, r6, r7, r8, r9, r10]) rfl (unhide FIN)
  have g3 : (x.term == 1000000) = false := by simpa using hq
  have HE : Hid (Rf.timeout x = ((Rf.elect (Rf.asks x)).1, (Rf.others (Rf.asks x)).map (Rf.voteMsg (Rf.asks x)) ++ (Rf.elect (Rf.asks x)).2)) := hide (by rw [Rf.timeout, if_neg (fun q => q.elim (fun q => q (unhide Hq)) (fun q => q.elim (unhide Hr) hq))])
  have HRt := hide ((Rf.wrongN_ok x).1 (unhide Hq))
  have eT : IntKind.i64.wrap (x.term + 1) = x.term + 1 := wrap_i64 (by have := (unhide HRt).term.1; omega) (by have := (unhide HRt).term.2; omega)
  obtain ⟨s0, s1, s2, s3, s4, s5, s6, s7, s8, s9, s10⟩ := X1.thaw11
  have xl := X1.low
  clear X1 R1 r0 r1 r2 r3 r4 r5 r6 r7 r8 r9 r10 t0 t1 t2 t3 t4 t5 t6 t7 t8 t9 t10 rl hq
  obtain ⟨N, hN⟩ : ∃ N : Nat, x.n = (N : Int) := ⟨x.n.toNat, by have := (unhide HRt).n.1; omega⟩
  have hN1 : 1 ≤ N := by have := (unhide HRt).n.1; omega
  have hN5 : N ≤ 5 := by have := (unhide HRt).n.2; omega
  have HN := hide hN
  clear hN
  obtain ⟨w2, hw2⟩ : ∃ w2, w2 = (((((w1.setCell ⟨w.heap.size, 2, none⟩ (.int .i64 (x.term + 1))).setCell ⟨w.heap.size, 6, none⟩ (.int .i64 2)).setCell ⟨w.heap.size, 7, none⟩ (.int .i64 0)).setCell ⟨w.heap.size, 3, none⟩ (.int .i64 x.id)).setCell ⟨w.heap.size, 8, none⟩ (.slice (some ⟨w1.heap.size, 0, none⟩) 1 1)).alloc (.cells #[.int .i64 x.id] 3) := ⟨_, rfl⟩
  have N2 : Hid (NB P w.heap.size w2 (Rf.asks x)) := hide (by
    rw [hw2]
    have zz : (((((w1.setCell ⟨w.heap.size, 2, none⟩ (.int .i64 (x.term + 1))).setCell ⟨w.heap.size, 6, none⟩ (.int .i64 2)).setCell ⟨w.heap.size, 7, none⟩ (.int .i64 0)).setCell ⟨w.heap.size, 3, none⟩ (.int .i64 x.id)).setCell ⟨w.heap.size, 8, none⟩ (.slice (some ⟨w1.heap.size, 0, none⟩) 1 1)).heap.size = w1.heap.size := by simp [World.setCell]
    have X2 := (((((unhide HX1).set 2 (.int .i64 (x.term + 1))).set 6 (.int .i64 2)).set 7 (.int .i64 0)).set 3 (.int .i64 x.id)).set 8 (.slice (some ⟨w1.heap.size, 0, none⟩) 1 1)
    have X3 := X2.over (.cells #[.int .i64 x.id] 3)
    have k : ∀ c, Aw P w.heap.size w1 c → Aw P w.heap.size ((((((w1.setCell ⟨w.heap.size, 2, none⟩ (.int .i64 (x.term + 1))).setCell ⟨w.heap.size, 6, none⟩ (.int .i64 2)).setCell ⟨w.heap.size, 7, none⟩ (.int .i64 0)).setCell ⟨w.heap.size, 3, none⟩ (.int .i64 x.id)).setCell ⟨w.heap.size, 8, none⟩ (.slice (some ⟨w1.heap.size, 0, none⟩) 1 1)).alloc (.cells #[.int .i64 x.id] 3)) c ∧ ((((((w1.setCell ⟨w.heap.size, 2, none⟩ (.int .i64 (x.term + 1))).setCell ⟨w.heap.size, 6, none⟩ (.int .i64 2)).setCell ⟨w.heap.size, 7, none⟩ (.int .i64 0)).setCell ⟨w.heap.size, 3, none⟩ (.int .i64 x.id)).setCell ⟨w.heap.size, 8, none⟩ (.slice (some ⟨w1.heap.size, 0, none⟩) 1 1)).alloc (.cells #[.int .i64 x.id] 3)).heap[c]? = w1.heap[c]? := fun c hc => by
      have hs : ∀ (u : World) (j : Nat) (y : Value), (u.setCell ⟨w.heap.size, j, none⟩ y).heap[c]? = u.heap[c]? := fun u j y => Below.heap_setCell u ⟨w.heap.size, j, none⟩ y c (Aw.lt (unhide HP) xl hc).2
      refine ⟨hc.mono (by have := (below_new (((((w1.setCell ⟨w.heap.size, 2, none⟩ (.int .i64 (x.term + 1))).setCell ⟨w.heap.size, 6, none⟩ (.int .i64 2)).setCell ⟨w.heap.size, 7, none⟩ (.int .i64 0)).setCell ⟨w.heap.size, 3, none⟩ (.int .i64 x.id)).setCell ⟨w.heap.size, 8, none⟩ (.slice (some ⟨w1.heap.size, 0, none⟩) 1 1)) (.cells #[.int .i64 x.id] 3)).size; omega), ?_⟩
      rw [heap_alloc_old _ _ (by rw [zz]; exact (Aw.lt (unhide HP) xl hc).1), hs, hs, hs, hs, hs]
    obtain ⟨q1, _, q3, q4⟩ := And.intro (NV.log (unhide V1)) (NV.votes (unhide V1))
    have nb : BK ((((((w1.setCell ⟨w.heap.size, 2, none⟩ (.int .i64 (x.term + 1))).setCell ⟨w.heap.size, 6, none⟩ (.int .i64 2)).setCell ⟨w.heap.size, 7, none⟩ (.int .i64 0)).setCell ⟨w.heap.size, 3, none⟩ (.int .i64 x.id)).setCell ⟨w.heap.size, 8, none⟩ (.slice (some ⟨w1.heap.size, 0, none⟩) 1 1)).alloc (.cells #[.int .i64 x.id] 3)) w1.heap.size 3 #[.int .i64 x.id] := BK.new' _ _ _ zz
    refine ⟨_, X3, _, _, _, _, rfl, q1.keep k, ?_, q3.keep k, q4.keep k⟩
    refine ⟨rfl, some ⟨w1.heap.size, 0, none⟩, 1, rfl, Nat.le_refl _, by omega, fun _ => ⟨w1.heap.size, 0, rfl, .inr ⟨(unhide HR1).low, nb.low⟩, fun j u hj => ?_⟩⟩
    rw [Nat.zero_add]
    replace hj : [Value.int .i64 x.id][j]? = some u := hj
    exact nb.at (by simpa using hj))
  have R2 : Hid (BK w2 (w.heap.size + 1) 25 #[.int .i64 0, .int .i64 0, .int .i64 0, .int .i64 0, .slice none 0 0, .int .i64 0, .int .i64 0, .int .i64 0, .slice none 0 0, .slice none 0 0, .slice none 0 0]) := hide (by
    rw [hw2]
    have ne : w.heap.size + 1 ≠ w.heap.size := by omega
    exact ((((((unhide HR1).other ⟨w.heap.size, 2, none⟩ _ ne).other ⟨w.heap.size, 6, none⟩ _ ne).other ⟨w.heap.size, 7, none⟩ _ ne).other ⟨w.heap.size, 3, none⟩ _ ne).other ⟨w.heap.size, 8, none⟩ _ ne).over _)
  have B2 : Hid (Below w.heap.size w w2) := hide (by
    rw [hw2]
    exact (((((((unhide B1).setCell (p := ⟨w.heap.size, 2, none⟩) (Nat.le_refl _) _).setCell (p := ⟨w.heap.size, 6, none⟩) (Nat.le_refl _) _).setCell (p := ⟨w.heap.size, 7, none⟩) (Nat.le_refl _) _).setCell (p := ⟨w.heap.size, 3, none⟩) (Nat.le_refl _) _).setCell (p := ⟨w.heap.size, 8, none⟩) (Nat.le_refl _) _).alloc (by have := (unhide B1).size; simp [World.setCell]; omega) _))
  go_wp2_with fail
  rw [← hw2]
  clear hw2 HX1 HR1 B1 V1 HV c0 c1 c2 c3 c4 c5 c6 c7 c8 c9 c10 s0 s1 s2 s3 s4 s5 s6 s7 s8 s9 s10 xl eT
  have HYi : Hid ((Rf.asks x).id = x.id ∧ (Rf.asks x).n = (N : Int)) := hide ⟨rfl, unhide HN⟩
  have HOt : Hid (Rf.others (Rf.asks x) = Rf.uptoM x.id N) := hide (by rw [Rf.others, show (Rf.asks x).n = (N : Int) from unhide HN]; rfl)
  have HSt : Hid (Rf.Stands (Rf.asks x)) := hide ⟨(unhide HRt).n, (unhide HRt).id, (unhide HRt).log, (unhide HRt).commit, by show [x.id].length ≤ 1000; simp⟩
  have HLg : Hid ((Rf.asks x).log.length ≤ 60) := hide (unhide HRt).log
  obtain ⟨y, hy⟩ : ∃ y, y = Rf.asks x := ⟨_, rfl⟩
  rw [← hy] at N2 HYi HOt HSt HE HLg
  clear hy
  obtain ⟨la2, L2, lc2, va2, V2, vc2, na2, N2', nc2, ma2, M2, mc2, A2, V2', HLn⟩ := (unhide N2).cells
  rw [(unhide HYi).1, (unhide HYi).2] at A2
  have HA2 := hide A2
  have HV2 := hide V2'
  have hL2 : L2 ≤ 60 := by have := (unhide HLn).1; have := unhide HLg; omega
  clear A2 V2'
  obtain ⟨tm, htm⟩ : ∃ tm, tm = y.term := ⟨_, rfl⟩
  rw [← htm] at HA2
  have HTm := hide htm
  clear htm
  go_loopw [4, 5] (fun o i wr => ∃ p : Nat, i = .int .i64 (p : Int) ∧ 1 ≤ p ∧ p ≤ N + 1 ∧ Hid (MO w2.heap.size wr o ((Rf.uptoM x.id (p - 1)).map (Rf.voteMsg y))) ∧ Hid (Below w2.heap.size w2 wr)) (fun _ i _ => N + 1 - (intOf i).toNat)
  case atStart => exact ⟨1, rfl, by omega, by omega, hide (by rw [Nat.sub_self, Rf.uptoM_zero]; exact MO.nil _ _), hide (Below.refl _ _)⟩
  case round =>
    obtain ⟨p, rfl, p1, p2, HM, HB⟩ := hrel
    have AW := (unhide HA2).keep (unhide HB)
    have c0 := AW.at (j := 0) rfl
    have c1 := AW.at (j := 1) rfl
    by_cases hlt : p ≤ N
    · have hi1 : (p : Int) ≤ (N : Int) := by omega
      have ep : Hid (((p - 1 : Nat) : Int) + 1 = (p : Int)) := hide (by omega)
      by_cases hid : (p : Int) = x.id
      · have HU : Hid (Rf.uptoM x.id (p + 1 - 1) = Rf.uptoM x.id (p - 1)) := hide (by
          have := Rf.uptoM_no (id := x.id) (k := p - 1) (by rw [unhide ep]; exact hid)
          rwa [show p - 1 + 1 = p + 1 - 1 by omega] at this)
        have hneq2 : ((p : Int) != x.id) = false := by simp [hid]
        clear hid AW
        go_wp2
        go_roundw
        case rel => exact ⟨p + 1, by go_num, by omega, by omega, by rw [unhide HU]; exact HM, HB⟩
        case measure => simp [intOf]; omega
      · have HU : Hid (Rf.uptoM x.id (p + 1 - 1) = Rf.uptoM x.id (p - 1) ++ [(p : Int)]) := hide (by
          have := Rf.uptoM_yes (id := x.id) (k := p - 1) (by rw [unhide ep]; exact hid)
          rwa [show p - 1 + 1 = p + 1 - 1 by omega, unhide ep] at this)
        have hneq2 : ((p : Int) != x.id) = true := by simp [hid]
        have HAW := hide AW
        clear hid AW
        go_wp2_with fail
        clear c0 c1
        refine frame_nm fun f0 hf0 => ?_
        have q1 : G f0 1 = .pointer (some ⟨w.heap.size, 0, none⟩) := by rw [hf0]; rfl
        have q5 : G f0 5 = .int .i64 (p : Int) := by rw [hf0]; rfl
        have q4 : G f0 4 = u4 := by rw [hf0]; rfl
        have hsz : f0.tmps.size = 71 := by rw [hf0]; rfl
        have hdf : f0.defers = [] := by rw [hf0]
        obtain ⟨cs, hOr, hCr⟩ := unhide HM
        have hms : ((Rf.uptoM x.id (p - 1)).map (Rf.voteMsg y)).length ≤ 60 := by rw [List.length_map]; have := Rf.uptoM_len x.id (p - 1); omega
        have HC0 : ∀ w', Below wr.heap.size wr w' → w'.cell? ⟨w.heap.size, 0, none⟩ = some (.int .i64 x.id) := fun w' hb => ((unhide HAW).keep hb).at rfl
        have HC2 : ∀ w', Below wr.heap.size wr w' → w'.cell? ⟨w.heap.size, 2, none⟩ = some (.int .i64 tm) := fun w' hb => ((unhide HAW).keep hb).at rfl
        have HC4 : ∀ w', Below wr.heap.size wr w' → w'.cell? ⟨w.heap.size, 4, none⟩ = some (.slice la2 L2 lc2) := fun w' hb => ((unhide HAW).keep hb).at rfl
        have CA : ∀ w', Below wr.heap.size wr w' → Calls Try.prog 26 #[.slice la2 L2 lc2, .int .i64 (L2 : Int)] w' fun e w'' => e = .returned (.int .i64 (Rf.atN y.log L2)) ∧ ∃ m, w'' = w'.drewN m := fun w' hb => at_any y.log (.slice la2 L2 lc2) L2 w' (TV.keep (fun c hc => ⟨Nat.lt_of_lt_of_le (Nat.lt_of_lt_of_le (Aw.lt (unhide HP) (unhide HA2).low hc).1 (unhide HB).size) hb.size, (hb.block c (Nat.lt_of_lt_of_le (Aw.lt (unhide HP) (unhide HA2).low hc).1 (unhide HB).size)).trans ((unhide HB).block c (Aw.lt (unhide HP) (unhide HA2).low hc).1)⟩) (NV.log (unhide HV2)))
        have EV : vcs x.id (p : Int) tm (L2 : Int) (Rf.atN y.log L2) = mcs (Rf.voteMsg y (p : Int)) (.slice none 0 0) := by
          rw [mcs, Rf.voteMsg, Rf.lastT, (unhide HYi).1, unhide HTm, (unhide HLn).1]
        have HF : ∀ w0 g v' w', Below wr.heap.size wr w0 → BK w0 g 49 (vcs x.id (p : Int) tm (L2 : Int) (Rf.atN y.log L2)).toArray → wr.heap.size ≤ g → w0.grownBy w' u4.ownBlock → w'.ownsRow w2.heap.size 49 9 v' (((Rf.uptoM x.id (p - 1)).map (Rf.voteMsg y)).length + 1) (cs ++ vcs x.id (p : Int) tm (L2 : Int) (Rf.atN y.log L2)) → (v'.ownBlock = u4.ownBlock ∨ v'.ownBlock = some w0.heap.size) → (fun vf wf => MO w2.heap.size wf vf ((Rf.uptoM x.id (p - 1)).map (Rf.voteMsg y) ++ [Rf.voteMsg y (p : Int)]) ∧ Below w2.heap.size w2 wf) v' w' := fun w0 g v' w' hb _ _ hg ho hat => by
          refine ⟨MO.next (hCr.keep fun c hp => ⟨⟨hp.1, Nat.lt_of_lt_of_le hp.2.1 hb.size, hp.2.2⟩, hb.block c hp.2.1⟩) (show MC _ _ [Rf.voteMsg y (p : Int)] (vcs x.id (p : Int) tm (L2 : Int) (Rf.atN y.log L2)) from ⟨.slice none 0 0, [], by rw [EV, List.append_nil], SC.nil _ _ _, rfl⟩) ho hg hat, ?_⟩
          exact (unhide HB).trans ((hb.mono (unhide HB).size).trans (own_old (own_below hOr hb) hg (Nat.le_trans (unhide HB).size hb.size)))
        refine region_any (I := TI wr w.heap.size 71 u4 x.id (p : Int) tm la2 L2 lc2 (Rf.atN y.log L2) f0 (fun vf wf => MO w2.heap.size wf vf ((Rf.uptoM x.id (p - 1)).map (Rf.voteMsg y) ++ [Rf.voteMsg y (p : Int)]) ∧ Below w2.heap.size w2 wf)) (by kernel_rfl) ?wait ?step ?done ?start
        case wait => exact ⟨by first | (simp; done) | (simp; rfl), by first | (simp; done) | (simp; rfl), by first | (simp; done) | (simp; rfl), by first | (simp; done) | (simp; rfl), by first | (simp; done) | (simp; rfl), by first | (simp; done) | (simp; rfl), by first | (simp; done) | (simp; rfl), by first | (simp; done) | (simp; rfl), by first | (simp; done) | (simp; rfl), by first | (simp; done) | (simp; rfl), by first | (simp; done) | (simp; rfl), by first | (simp; done) | (simp; rfl), by first | (simp; done) | (simp; rfl), by first | (simp; done) | (simp; rfl), by first | (simp; done) | (simp; rfl), by first | (simp; done) | (simp; rfl), by first | (simp; done) | (simp; rfl), by first | (simp; done) | (simp; rfl), by first | (simp; done) | (simp; rfl), trivial⟩
        case start => exact ⟨hsz, hdf, fun _ _ _ => rfl, fun _ => (Below.refl _ _).drew, fun q => (by cases q), fun q => (by cases q), fun q => (by cases q), fun q => (by cases q), fun q => (by cases q), fun q => (by cases q), fun q => (by cases q), fun q => (by cases q), fun q => (by cases q), fun q => (by cases q), fun q => (by cases q), fun q => (by cases q), fun q => (by cases q), fun q => (by cases q), fun q => (by cases q), fun q => (by cases q), fun q => (by cases q), fun q => (by cases q), fun _ => q4, fun q => (by cases q)⟩
        case step =>
          refine ⟨?_, ?_, ?_, ?_, ?_, ?_, ?_, ?_, ?_, ?_, ?_, ?_, ?_, ?_, ?_, ?_, ?_, ?_, ?_, trivial⟩
          · rintro L fa wx h hcl hL hw2
            exact ti0 h (by decide) hL (by cases e : L 18 with | false => rfl | true => exact absurd (hcl 17 _ rfl (hcl 18 _ rfl e ⟨17, .data⟩ (by simp) rfl) ⟨0, .data⟩ (by simp) rfl) (by rw [hL]; decide)) rfl ⟨_, _, _, rfl⟩
          · rintro L fa wx h hcl hL hw2
            exact ti1 h (by decide) hL q1 rfl ⟨_, _, _, rfl⟩
          · rintro L fa wx h hcl hL hw2
            exact ti2 h (by decide) hL (by cases e : L 17 with | false => rfl | true => exact absurd (hcl 15 _ rfl (hcl 16 _ rfl (hcl 17 _ rfl e ⟨16, .data⟩ (by simp) rfl) ⟨15, .data⟩ (by simp) rfl) ⟨2, .data⟩ (by simp) rfl) (by rw [hL]; decide)) (hw2 ⟨1, .data⟩ (by simp) rfl) HC0 rfl ⟨_, _, _, rfl⟩
          · rintro L fa wx h hcl hL hw2
            exact ti3 h (by decide) hL q5 rfl ⟨_, _, _, rfl⟩
          · rintro L fa wx h hcl hL hw2
            exact ti4 h (by decide) hL q1 rfl ⟨_, _, _, rfl⟩
          · rintro L fa wx h hcl hL hw2
            exact ti5 h (by decide) hL (by cases e : L 17 with | false => rfl | true => exact absurd (hcl 15 _ rfl (hcl 16 _ rfl (hcl 17 _ rfl e ⟨16, .data⟩ (by simp) rfl) ⟨15, .data⟩ (by simp) rfl) ⟨5, .data⟩ (by simp) rfl) (by rw [hL]; decide)) (hw2 ⟨4, .data⟩ (by simp) rfl) HC2 rfl ⟨_, _, _, rfl⟩
          · rintro L fa wx h hcl hL hw2
            exact ti6 h (by decide) hL q1 rfl ⟨_, _, _, rfl⟩
          · rintro L fa wx h hcl hL hw2
            exact ti7 h (by decide) hL (by cases e : L 17 with | false => rfl | true => exact absurd (hcl 8 _ rfl (hcl 15 _ rfl (hcl 16 _ rfl (hcl 17 _ rfl e ⟨16, .data⟩ (by simp) rfl) ⟨15, .data⟩ (by simp) rfl) ⟨8, .data⟩ (by simp) rfl) ⟨7, .data⟩ (by simp) rfl) (by rw [hL]; decide)) (hw2 ⟨6, .data⟩ (by simp) rfl) HC4 rfl ⟨_, _, _, rfl⟩
          · rintro L fa wx h hcl hL hw2
            exact ti8 h (by decide) hL (hw2 ⟨7, .data⟩ (by simp) rfl) rfl ⟨_, _, rfl⟩
          · rintro L fa wx h hcl hL hw2
            exact ti9 h (by decide) hL q1 rfl ⟨_, _, _, rfl⟩
          · rintro L fa wx h hcl hL hw2
            exact ti10 h (by decide) hL (by cases e : L 17 with | false => rfl | true => exact absurd (hcl 14 _ rfl (hcl 15 _ rfl (hcl 16 _ rfl (hcl 17 _ rfl e ⟨16, .data⟩ (by simp) rfl) ⟨15, .data⟩ (by simp) rfl) ⟨14, .data⟩ (by simp) rfl) ⟨10, .data⟩ (by simp) rfl) (by rw [hL]; decide)) (hw2 ⟨9, .data⟩ (by simp) rfl) HC4 rfl ⟨_, _, _, rfl⟩
          · rintro L fa wx h hcl hL hw2
            exact ti11 h (by decide) hL q1 rfl ⟨_, _, _, rfl⟩
          · rintro L fa wx h hcl hL hw2
            exact ti12 h (by decide) hL (by cases e : L 17 with | false => rfl | true => exact absurd (hcl 13 _ rfl (hcl 14 _ rfl (hcl 15 _ rfl (hcl 16 _ rfl (hcl 17 _ rfl e ⟨16, .data⟩ (by simp) rfl) ⟨15, .data⟩ (by simp) rfl) ⟨14, .data⟩ (by simp) rfl) ⟨13, .data⟩ (by simp) rfl) ⟨12, .data⟩ (by simp) rfl) (by rw [hL]; decide)) (hw2 ⟨11, .data⟩ (by simp) rfl) HC4 rfl ⟨_, _, _, rfl⟩
          · rintro L fa wx h hcl hL hw2
            exact ti13 h (by decide) hL (hw2 ⟨12, .data⟩ (by simp) rfl) rfl ⟨_, _, rfl⟩
          · rintro L fa wx h hcl hL hw2
            exact ti14 h (by decide) hL (by cases e : L 17 with | false => rfl | true => exact absurd (hcl 15 _ rfl (hcl 16 _ rfl (hcl 17 _ rfl e ⟨16, .data⟩ (by simp) rfl) ⟨15, .data⟩ (by simp) rfl) ⟨14, .data⟩ (by simp) rfl) (by rw [hL]; decide)) (by cases e : L 16 with | false => rfl | true => exact absurd (hcl 15 _ rfl (hcl 16 _ rfl e ⟨15, .data⟩ (by simp) rfl) ⟨14, .data⟩ (by simp) rfl) (by rw [hL]; decide)) (by cases e : L 18 with | false => rfl | true => exact absurd (hcl 15 _ rfl (hcl 16 _ rfl (hcl 17 _ rfl (hcl 18 _ rfl e ⟨17, .data⟩ (by simp) rfl) ⟨16, .data⟩ (by simp) rfl) ⟨15, .data⟩ (by simp) rfl) ⟨14, .data⟩ (by simp) rfl) (by rw [hL]; decide)) (hw2 ⟨10, .data⟩ (by simp) rfl) (hw2 ⟨13, .data⟩ (by simp) rfl) CA rfl ⟨_, _, _, rfl⟩
          · rintro L fa wx h hcl hL hw2
            exact ti15 h (by decide) hL (hw2 ⟨2, .data⟩ (by simp) rfl) (hw2 ⟨3, .data⟩ (by simp) rfl) (hw2 ⟨5, .data⟩ (by simp) rfl) (hw2 ⟨8, .data⟩ (by simp) rfl) (hw2 ⟨14, .data⟩ (by simp) rfl) rfl ⟨_, _, _, rfl⟩
          · rintro L fa wx h hcl hL hw2
            exact ti16 h (by decide) hL (by cases e : L 17 with | false => rfl | true => exact absurd (hcl 17 _ rfl e ⟨16, .data⟩ (by simp) rfl) (by rw [hL]; decide)) (by cases e : L 18 with | false => rfl | true => exact absurd (hcl 17 _ rfl (hcl 18 _ rfl e ⟨17, .data⟩ (by simp) rfl) ⟨16, .data⟩ (by simp) rfl) (by rw [hL]; decide)) (hw2 ⟨15, .data⟩ (by simp) rfl) rfl ⟨_, _, _, rfl⟩
          · rintro L fa wx h hcl hL hw2
            exact ti17 h (by decide) hL (by cases e : L 18 with | false => rfl | true => exact absurd (hcl 18 _ rfl e ⟨17, .data⟩ (by simp) rfl) (by rw [hL]; decide)) (hw2 ⟨0, .data⟩ (by simp) rfl) (hw2 ⟨16, .data⟩ (by simp) rfl) hOr (unhide HB).size hms HF rfl ⟨_, _, _, rfl⟩
          · rintro L fa wx h hcl hL hw2
            exact ti18 h (by decide) hL (hw2 ⟨17, .data⟩ (by simp) rfl) rfl ⟨_, _, _, rfl⟩
        case done =>
          rintro L f1 wd h hall
          have HFd := hide (h.e18 (hall 18 (by simp)))
          have e := frame_is h.size h.defs
          rw [show List.range 71 = [0, 1, 2, 3, 4, 5, 6, 7, 8, 9, 10, 11, 12, 13, 14, 15, 16, 17, 18, 19, 20, 21, 22, 23, 24, 25, 26, 27, 28, 29, 30, 31, 32, 33, 34, 35, 36, 37, 38, 39, 40, 41, 42, 43, 44, 45, 46, 47, 48, 49, 50, 51, 52, 53, 54, 55, 56, 57, 58, 59, 60, 61, 62, 63, 64, 65, 66, 67, 68, 69, 70] from rfl] at e
          simp only [List.map_cons, List.map_nil] at e
          rw [h.rest 0 (by decide) (by decide), h.rest 1 (by decide) (by decide), h.rest 2 (by decide) (by decide), h.rest 3 (by decide) (by decide), h.rest 5 (by decide) (by decide), h.rest 6 (by decide) (by decide), h.rest 7 (by decide) (by decide), h.rest 8 (by decide) (by decide), h.rest 9 (by decide) (by decide), h.rest 10 (by decide) (by decide), h.rest 11 (by decide) (by decide), h.rest 12 (by decide) (by decide), h.rest 13 (by decide) (by decide), h.rest 14 (by decide) (by decide), h.rest 15 (by decide) (by decide), h.rest 16 (by decide) (by decide), h.rest 17 (by decide) (by decide), h.rest 18 (by decide) (by decide), h.rest 19 (by decide) (by decide), h.rest 20 (by decide) (by decide), h.rest 21 (by decide) (by decide), h.rest 22 (by decide) (by decide), h.rest 23 (by decide) (by decide), h.rest 24 (by decide) (by decide), h.rest 25 (by decide) (by decide), h.rest 26 (by decide) (by decide), h.rest 27 (by decide) (by decide), h.rest 28 (by decide) (by decide), h.rest 29 (by decide) (by decide), h.rest 30 (by decide) (by decide), h.rest 31 (by decide) (by decide), h.rest 32 (by decide) (by decide), h.rest 33 (by decide) (by decide), h.rest 34 (by decide) (by decide), h.rest 35 (by decide) (by decide), h.rest 36 (by decide) (by decide), h.rest 37 (by decide) (by decide), h.rest 38 (by decide) (by decide), h.rest 39 (by decide) (by decide), h.rest 40 (by decide) (by decide), h.rest 41 (by decide) (by decide), h.rest 42 (by decide) (by decide), h.rest 43 (by decide) (by decide), h.rest 62 (by decide) (by decide), h.rest 63 (by decide) (by decide), h.rest 64 (by decide) (by decide), h.rest 65 (by decide) (by decide), h.rest 66 (by decide) (by decide), h.rest 67 (by decide) (by decide), h.rest 68 (by decide) (by decide), h.rest 69 (by decide) (by decide), h.rest 70 (by decide) (by decide)] at e
          generalize G f1 4 = v4 at e HFd
          generalize G f1 44 = y44 at e
          generalize G f1 45 = y45 at e
          generalize G f1 46 = y46 at e
          generalize G f1 47 = y47 at e
          generalize G f1 48 = y48 at e
          generalize G f1 49 = y49 at e
          generalize G f1 50 = y50 at e
          generalize G f1 51 = y51 at e
          generalize G f1 52 = y52 at e
          generalize G f1 53 = y53 at e
          generalize G f1 54 = y54 at e
          generalize G f1 55 = y55 at e
          generalize G f1 56 = y56 at e
          generalize G f1 57 = y57 at e
          generalize G f1 58 = y58 at e
          generalize G f1 59 = y59 at e
          generalize G f1 60 = y60 at e
          generalize G f1 61 = y61 at e
          rw [hf0] at e
          simp only [G, Array.getD_eq_getD_getElem?, List.getElem?_toArray, List.getElem?_cons_zero, List.getElem?_cons_succ, Option.getD_some] at e
          subst e
          clear hf0
          clear h hall hsz hdf q1 q4 q5 HC0 HC2 HC4 CA EV HF hOr hCr hms
          go_wp2
          go_roundw
          case rel => exact ⟨p + 1, by go_num, by omega, by omega, by rw [unhide HU, List.map_append]; exact hide (unhide HFd).1, hide (unhide HFd).2⟩
          case measure => simp [intOf]; omega
    · have hi1 : ¬ (p : Int) ≤ (N : Int) := by omega
      have hp : p = N + 1 := by omega
      clear c0 c1
      obtain ⟨c0, c1, c2, c3, c4, c5, c6, c7, c8, c9, c10⟩ := (show NX wr w.heap.size _ _ _ _ _ _ _ _ _ _ _ from AW).tell
      have VW : Hid (NV (Aw P w.heap.size w2) wr #[.int .i64 x.id, .int .i64 (N : Int), .int .i64 tm, .int .i64 y.vote, .slice la2 L2 lc2, .int .i64 y.commit, .int .i64 y.role, .int .i64 y.boss, .slice va2 V2 vc2, .slice na2 N2' nc2, .slice ma2 M2 mc2] y) := hide (by
        rw [unhide HTm, ← (unhide HYi).2, ← (unhide HYi).1]
        exact (unhide HV2).keep fun c hc => ⟨hc, (unhide HB).block c (Aw.lt (unhide HP) (unhide HA2).low hc).1⟩)
      have CS := hide (elect_new (Aw P w.heap.size w2) y _ wr (unhide VW) (fun c hc => Nat.lt_of_lt_of_le (Aw.lt (unhide HP) (unhide HA2).low hc).1 (unhide HB).size) (unhide HSt))
      have HAW := hide AW
      have hlz := Rf.elect_few y (by rw [(unhide HYi).2]; omega)
      clear AW
      go_wp2_with fail
      refine (unhide CS).mono ?_
      rintro e w6 ⟨v6, m6, rfl, hv6, hm6, b6⟩
      obtain ⟨⟨z, zm⟩, hz⟩ : ∃ z, z = Rf.elect y := ⟨_, rfl⟩
      rw [← hz] at hv6 hm6 HE hlz
      clear hz
      simp only at hv6 hm6 HE hlz
      obtain ⟨lv6, vv6, nv6, mv6, rfl, p1, p2, p3, p4⟩ := id hv6
      obtain ⟨la6, L6, lc6, rfl, _, _, _⟩ := SC.shp p1
      obtain ⟨va6, V6, vc6, rfl, _, _, _⟩ := SC.shp p2
      obtain ⟨na6, N6, nc6, rfl, _, _, _⟩ := SC.shp p3
      obtain ⟨ma6, M6, mc6, rfl, _, _, _⟩ := SC.shp p4
      obtain ⟨ms6, ML6, mk6, rfl⟩ := mv_slice hm6
      clear p1 p2 p3 p4
      have X6 := (unhide HAW).keep b6
      have R6 := ((unhide R2).keep (unhide HB)).keep b6
      have lowR := (unhide R2).low
      have szB := (unhide HB).size
      have sz6 := b6.size
      obtain ⟨d0, d1, d2, d3, d4, d5, d6, d7, d8, d9, d10⟩ := (show NX w6 w.heap.size _ _ _ _ _ _ _ _ _ _ _ from X6).tell
      obtain ⟨s0, s1, s2, s3, s4, s5, s6, s7, s8, s9, s10⟩ := X6.thaw11
      have dl := X6.low
      have X7 : Hid (BK (put11 w6 w.heap.size (.int .i64 z.id) (.int .i64 z.n) (.int .i64 z.term) (.int .i64 z.vote) (.slice la6 L6 lc6) (.int .i64 z.commit) (.int .i64 z.role) (.int .i64 z.boss) (.slice va6 V6 vc6) (.slice na6 N6 nc6) (.slice ma6 M6 mc6)) w.heap.size 25 #[.int .i64 z.id, .int .i64 z.n, .int .i64 z.term, .int .i64 z.vote, .slice la6 L6 lc6, .int .i64 z.commit, .int .i64 z.role, .int .i64 z.boss, .slice va6 V6 vc6, .slice na6 N6 nc6, .slice ma6 M6 mc6]) := hide (BK.put11 X6 (.int .i64 z.id) (.int .i64 z.n) (.int .i64 z.term) (.int .i64 z.vote) (.slice la6 L6 lc6) (.int .i64 z.commit) (.int .i64 z.role) (.int .i64 z.boss) (.slice va6 V6 vc6) (.slice na6 N6 nc6) (.slice ma6 M6 mc6))
      have R7 : Hid (BK (put11 w6 w.heap.size (.int .i64 z.id) (.int .i64 z.n) (.int .i64 z.term) (.int .i64 z.vote) (.slice la6 L6 lc6) (.int .i64 z.commit) (.int .i64 z.role) (.int .i64 z.boss) (.slice va6 V6 vc6) (.slice na6 N6 nc6) (.slice ma6 M6 mc6)) (w.heap.size + 1) 25 #[.int .i64 0, .int .i64 0, .int .i64 0, .int .i64 0, .slice none 0 0, .int .i64 0, .int .i64 0, .int .i64 0, .slice none 0 0, .slice none 0 0, .slice none 0 0]) := hide (bk_out11 R6 (show w.heap.size + 1 ≠ w.heap.size by omega))
      have B7 : Hid (Below w.heap.size w (put11 w6 w.heap.size (.int .i64 z.id) (.int .i64 z.n) (.int .i64 z.term) (.int .i64 z.vote) (.slice la6 L6 lc6) (.int .i64 z.commit) (.int .i64 z.role) (.int .i64 z.boss) (.slice va6 V6 vc6) (.slice na6 N6 nc6) (.slice ma6 M6 mc6))) := hide (below_put11 (below_via (below_via (unhide B2) (unhide HB)) b6) (Nat.le_refl _))
      have V7' : Hid (NV (fun c => Aw P w.heap.size w2 c ∨ Fresh wr (put11 w6 w.heap.size (.int .i64 z.id) (.int .i64 z.n) (.int .i64 z.term) (.int .i64 z.vote) (.slice la6 L6 lc6) (.int .i64 z.commit) (.int .i64 z.role) (.int .i64 z.boss) (.slice va6 V6 vc6) (.slice na6 N6 nc6) (.slice ma6 M6 mc6)) c) (put11 w6 w.heap.size (.int .i64 z.id) (.int .i64 z.n) (.int .i64 z.term) (.int .i64 z.vote) (.slice la6 L6 lc6) (.int .i64 z.commit) (.int .i64 z.role) (.int .i64 z.boss) (.slice va6 V6 vc6) (.slice na6 N6 nc6) (.slice ma6 M6 mc6)) #[.int .i64 z.id, .int .i64 z.n, .int .i64 z.term, .int .i64 z.vote, .slice la6 L6 lc6, .int .i64 z.commit, .int .i64 z.role, .int .i64 z.boss, .slice va6 V6 vc6, .slice na6 N6 nc6, .slice ma6 M6 mc6] z) := hide (hv6.keep fun c hc => by
        have hne : c ≠ w.heap.size := hc.elim (fun q => (Aw.lt (unhide HP) (unhide HA2).low q).2) (fun q => by have := q.1; omega)
        exact ⟨hc.imp id (fun q => ⟨q.1, by rw [put11_size]; exact q.2⟩), put11_heap _ _ _ hne _ _ _ _ _ _ _ _ _ _ _⟩)
      have M7' : Hid (MV (Fresh wr (put11 w6 w.heap.size (.int .i64 z.id) (.int .i64 z.n) (.int .i64 z.term) (.int .i64 z.vote) (.slice la6 L6 lc6) (.int .i64 z.commit) (.int .i64 z.role) (.int .i64 z.boss) (.slice va6 V6 vc6) (.slice na6 N6 nc6) (.slice ma6 M6 mc6))) (put11 w6 w.heap.size (.int .i64 z.id) (.int .i64 z.n) (.int .i64 z.term) (.int .i64 z.vote) (.slice la6 L6 lc6) (.int .i64 z.commit) (.int .i64 z.role) (.int .i64 z.boss) (.slice va6 V6 vc6) (.slice na6 N6 nc6) (.slice ma6 M6 mc6)) (.slice ms6 ML6 mk6) zm) := hide (hm6.keep fun c hc => ⟨⟨hc.1, by rw [put11_size]; exact hc.2⟩, put11_heap _ _ _ (by have := hc.1; omega) _ _ _ _ _ _ _ _ _ _ _⟩)
      have O7 : Hid (MO w2.heap.size (put11 w6 w.heap.size (.int .i64 z.id) (.int .i64 z.n) (.int .i64 z.term) (.int .i64 z.vote) (.slice la6 L6 lc6) (.int .i64 z.commit) (.int .i64 z.role) (.int .i64 z.boss) (.slice va6 V6 vc6) (.slice na6 N6 nc6) (.slice ma6 M6 mc6)) u4 ((Rf.uptoM x.id N).map (Rf.voteMsg y)) ∧ ∀ g, u4.ownBlock = some g → w2.heap.size ≤ g ∧ g < wr.heap.size) := hide (by
        obtain ⟨cs, o1, o2⟩ := unhide HM
        rw [hp, Nat.add_sub_cancel] at o1 o2
        refine ⟨⟨cs, own_put11 (own_below o1 b6) (unhide HA2).low, o2.keep fun c hc => ⟨⟨hc.1, by rw [put11_size]; exact Nat.lt_of_lt_of_le hc.2.1 sz6, hc.2.2⟩, ?_⟩⟩, fun g hg => World.ownsRow.lt o1 g hg⟩
        rw [put11_heap _ _ _ (by have := hc.1; have := (unhide HA2).low; omega)]
        exact b6.block c hc.2.1)
      have S7 : Hid (wr.heap.size ≤ (put11 w6 w.heap.size (.int .i64 z.id) (.int .i64 z.n) (.int .i64 z.term) (.int .i64 z.vote) (.slice la6 L6 lc6) (.int .i64 z.commit) (.int .i64 z.role) (.int .i64 z.boss) (.slice va6 V6 vc6) (.slice na6 N6 nc6) (.slice ma6 M6 mc6)).heap.size) := hide (by rw [put11_size]; exact sz6)
      unfold put11 at X7 R7 B7 V7' M7' O7 S7
      clear X6 R6 HAW CS VW hv6 hm6 b6 c0 c1 c2 c3 c4 c5 c6 c7 c8 c9 c10 sz6 hp HM
      go_upto_region 12 with fail
      clear d0 d1 d2 d3 d4 d5 d6 d7 d8 d9 d10 s0 s1 s2 s3 s4 s5 s6 s7 s8 s9 s10 dl
      generalize ((((((((((w6.setCell ⟨w.heap.size, 0, none⟩ (.int .i64 z.id)).setCell ⟨w.heap.size, 1, none⟩ (.int .i64 z.n)).setCell ⟨w.heap.size, 2, none⟩ (.int .i64 z.term)).setCell ⟨w.heap.size, 3, none⟩ (.int .i64 z.vote)).setCell ⟨w.heap.size, 4, none⟩ (.slice la6 L6 lc6)).setCell ⟨w.heap.size, 5, none⟩ (.int .i64 z.commit)).setCell ⟨w.heap.size, 6, none⟩ (.int .i64 z.role)).setCell ⟨w.heap.size, 7, none⟩ (.int .i64 z.boss)).setCell ⟨w.heap.size, 8, none⟩ (.slice va6 V6 vc6)).setCell ⟨w.heap.size, 9, none⟩ (.slice na6 N6 nc6)).setCell ⟨w.heap.size, 10, none⟩ (.slice ma6 M6 mc6) = w7 at X7 R7 B7 V7' M7' O7 S7 ⊢
      obtain ⟨i0, I0, I1, I2, I3⟩ := info_parts info_M
      have I0' := hide I0
      have I1' := hide I1
      have I2' := hide I2
      have I3' := hide I3
      clear I0 I1 I2 I3
      obtain ⟨⟨cs, o1, o2⟩, og⟩ := unhide O7
      obtain ⟨csM, hxM, hCM⟩ := unhide M7'
      have HO := hide o1
      have HX := hide hxM
      have H1 := hide (MC.one hCM)
      have hn1 : ((Rf.uptoM x.id N).map (Rf.voteMsg y)).length ≤ 5 := by rw [List.length_map]; have := Rf.uptoM_len x.id N; omega
      have HFN : Hid (∀ Wd w8 v8, Below w7.heap.size w7 Wd → Wd.grownBy w8 u4.ownBlock → w8.ownsRow w2.heap.size 49 9 v8 (((Rf.uptoM x.id N).map (Rf.voteMsg y)).length + zm.length) (cs ++ csM) → (v8.ownBlock = u4.ownBlock ∨ v8.ownBlock = some Wd.heap.size) → NV (Aw P w.heap.size w8) w8 #[.int .i64 z.id, .int .i64 z.n, .int .i64 z.term, .int .i64 z.vote, .slice la6 L6 lc6, .int .i64 z.commit, .int .i64 z.role, .int .i64 z.boss, .slice va6 V6 vc6, .slice na6 N6 nc6, .slice ma6 M6 mc6] z ∧ MV (fun c => w.heap.size + 1 < c ∧ c < w8.heap.size) w8 v8 ((Rf.uptoM x.id N).map (Rf.voteMsg y) ++ zm) ∧ Below w.heap.size w w8 ∧ Below w2.heap.size w7 w8) := hide (fun Wd w8 v8 hd hg ho hat => out_fin (unhide HP) (unhide R2).low szB (unhide S7) (unhide B7) (unhide V7') o1 o2 og hCM hd hg ho hat)
      have HLo : Hid (w.heap.size < w2.heap.size ∧ w.heap.size + 1 < w2.heap.size ∧ w2.heap.size ≤ w7.heap.size) := hide ⟨(unhide HA2).low, (unhide R2).low, Nat.le_trans szB (unhide S7)⟩
      obtain ⟨d0, d1, d2, d3, d4, d5, d6, d7, d8, d9, d10⟩ := (show NX w7 w.heap.size _ _ _ _ _ _ _ _ _ _ _ from unhide X7).tell
      have HEE : Hid (Rf.timeout x = (z, (Rf.uptoM x.id N).map (Rf.voteMsg y) ++ zm)) := hide (by rw [unhide HE, unhide HOt])
      clear o1 o2 og hxM hCM M7' O7 V7' B7 S7 lowR
      go_region_law (first
        | (refine step_append_sc (P := Fresh wr w7) rfl _ _ 28 rfl w2.heap.size 49 i0 (.agg #[.int .i64 0, .int .i64 0, .int .i64 0, .int .i64 0, .int .i64 0, .int .i64 0, .int .i64 0, .slice none 0 0, .bool false]) 9 88 Try.underlying28 (unhide I0') (unhide I1') (unhide I2') (unhide I3') rfl (by decide) none_M u4 (.slice ms6 ML6 mk6) ((Rf.uptoM x.id N).map (Rf.voteMsg y)).length zm.length cs csM rfl rfl (by repeat (first | with_reducible exact unhide HO | with_reducible apply World.ownsRow.drew)) (unhide HX) (unhide H1) (by unfold maxLen; omega) (by omega) (by have := (unhide HLo).2.2; simpa using this) ?_
           intro v8 w8 ho hg hat
           have FF := unhide HFN _ w8 v8 ((Below.refl w7.heap.size w7).drew) hg ho hat
           have X8 := (unhide X7).low' FF.2.2.2 (unhide HLo).1
           have R8 := (unhide R7).low' FF.2.2.2 (unhide HLo).2.1
           obtain ⟨k0, k1, k2, k3, k4, k5, k6, k7, k8, k9, k10⟩ := (show NX w8 w.heap.size _ _ _ _ _ _ _ _ _ _ _ from X8).tell
           obtain ⟨r0, r1, r2, r3, r4, r5, r6, r7, r8, r9, r10⟩ := (show NX w8 (w.heap.size + 1) _ _ _ _ _ _ _ _ _ _ _ from R8).tell
           obtain ⟨t0, t1, t2, t3, t4, t5, t6, t7, t8, t9, t10⟩ := R8.thaw11
           have rl := R8.low
           obtain ⟨vs8, VL8, vk8, ev8⟩ := mv_slice FF.2.1
           subst ev8
           have HFF := hide FF
           clear ho hg hat FF X8 R8))
      all_goals
        have FIN : Hid (PNM P w (Rf.timeout x) (.returned (.tuple #[.agg #[.int .i64 z.id, .int .i64 z.n, .int .i64 z.term, .int .i64 z.vote, .slice la6 L6 lc6, .int .i64 z.commit, .int .i64 z.role, .int .i64 z.boss, .slice va6 V6 vc6, .slice na6 N6 nc6, .slice ma6 M6 mc6], .slice vs8 VL8 vk8])) (put11 w8 (w.heap.size + 1) (.int .i64 z.id) (.int .i64 z.n) (.int .i64 z.term) (.int .i64 z.vote) (.slice la6 L6 lc6) (.int .i64 z.commit) (.int .i64 z.role) (.int .i64 z.boss) (.slice va6 V6 vc6) (.slice na6 N6 nc6) (.slice ma6 M6 mc6))) := hide (by
          rw [unhide HEE]
          exact pnm_ret2 (unhide HP) rl (unhide HFF).1 (unhide HFF).2.2.1 (unhide HFF).2.1)
        clear HFF HFN HO HX H1 HEE HE X7 R7
        go_wp2
        exact bodyPost_ret (v := .tuple #[.agg #[.int .i64 z.id, .int .i64 z.n, .int .i64 z.term, .int .i64 z.vote, .slice la6 L6 lc6, .int .i64 z.commit, .int .i64 z.role, .int .i64 z.boss, .slice va6 V6 vc6, .slice na6 N6 nc6, .slice ma6 M6 mc6], .slice vs8 VL8 vk8]) (by simp [results, Try.results7, go_sem, r0, r1, r2, r3, r4, r5, r6, r7, r8, r9, r10]) rfl (unhide FIN)

end Go.Proofs.Ytiplnegiphhdlaa.R15
