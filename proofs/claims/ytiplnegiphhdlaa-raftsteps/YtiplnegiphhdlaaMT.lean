/- Walks: sameInts, Same, SameMsgs of what is the same. -/
import Derived.Test.YtiplnegiphhdlaaMS
import Derived.BigRegion
namespace Go.Proofs.Ytiplnegiphhdlaa
open Go.RowKit

theorem NV.votes {P : Nat → Prop} {w : World} {u0 u1 u2 u3 u4 u5 u6 u7 u8 u9 u10 : Value} {x : Rf.Node} (h : NV P w #[u0, u1, u2, u3, u4, u5, u6, u7, u8, u9, u10] x) : IV P w u8 x.votes ∧ IV P w u9 x.next ∧ IV P w u10 x.mtch := by
  obtain ⟨lv, vv, nv, mv, e, h2, h3, h4, h5⟩ := h
  simp only [Array.mk.injEq, List.cons.injEq, and_true] at e
  obtain ⟨_, _, _, _, _, _, _, _, rfl, rfl, rfl⟩ := e
  exact ⟨h3, h4, h5⟩

end Go.Proofs.Ytiplnegiphhdlaa

namespace Go.Proofs.Ytiplnegiphhdlaa.R15
open Go.RowKit

set_option maxHeartbeats 2000000 in
theorem sameInts_any (l : List Int) (u v : Value) (w : World) (hu : Iv w u l) (hv : Iv w v l) : Calls Try.prog 29 #[u, v] w fun e w' => e = .returned (.bool true) ∧ ∃ m, w' = w.drewN m := by
  obtain ⟨a1, L1, c1, rfl, hL1, _, _⟩ := SC.shp hu
  obtain ⟨a2, L2, c2, rfl, hL2, _, _⟩ := SC.shp hv
  have e12 : L2 = L1 := (unhide hL2).trans (unhide hL1).symm
  subst e12
  have HU := hide hu
  have HV := hide hv
  clear hu hv hL1
  go_enter Try.func29, Try.ntmps29
  go_wp2_with fail
  go_loopw [13] (fun i wr => ∃ m : Nat, m ≤ L2 ∧ i = .int .i64 (m : Int) ∧ ∃ k, wr = w.drewN k) (fun i _ => L2 - (intOf i).toNat)
  case atStart => exact ⟨0, Nat.zero_le _, rfl, 0, rfl⟩
  case round =>
    obtain ⟨m, hm, rfl, k, rfl⟩ := hrel
    by_cases hlt : m < L2
    · have hi1 : (m : Int) < (L2 : Int) := by omega
      have hlt2 : m < l.length := by rw [← unhide hL2]; exact hlt
      obtain ⟨x, hx⟩ : ∃ x, l[m]? = some x := ⟨_, List.getElem?_eq_getElem hlt2⟩
      have hne : l ≠ [] := by intro e; rw [e] at hlt2; simp at hlt2
      obtain ⟨b1, o1, cap1, e, _⟩ := (unhide HU).ex hne
      have ea : a1 = some ⟨b1, o1, none⟩ := by cases e; rfl
      clear e
      subst ea
      obtain ⟨b2, o2, cap2, e, _⟩ := (unhide HV).ex hne
      have ea : a2 = some ⟨b2, o2, none⟩ := by cases e; rfl
      clear e
      subst ea
      have x0 := (unhide HU).at hx
      have y0 := (unhide HV).at hx
      clear hx hne hlt2
      go_wp2_with fail
      go_region
      all_goals
        go_wp2
        go_roundw
        case rel => exact ⟨m + 1, by omega, by go_num, _, rfl⟩
        case measure => simp [intOf]; omega
    · obtain rfl : m = L2 := by omega
      go_wp2
      go_ret
      exact ⟨rfl, _, rfl⟩

set_option maxHeartbeats 2000000 in
set_option maxRecDepth 100000 in
theorem same_any (x : Rf.Node) (u v : Array Value) (w : World) (hu : Nv w u x) (hv : Nv w v x) : Calls Try.prog 8 #[.agg u, .agg v] w fun e w' => e = .returned (.bool true) ∧ Below w.heap.size w w' := by
  have HU := hide hu
  have HV := hide hv
  obtain ⟨lv, vv, nv, mv, rfl, h2, h3, h4, h5⟩ := hu
  obtain ⟨la, lc, rfl, _⟩ := SC.shape h2
  obtain ⟨va, vc, rfl, _⟩ := SC.shape h3
  obtain ⟨na, nc, rfl, _⟩ := SC.shape h4
  obtain ⟨ma, mc, rfl, _⟩ := SC.shape h5
  obtain ⟨lv, vv, nv, mv, rfl, g2, g3, g4, g5⟩ := hv
  obtain ⟨lb, ld, rfl, _⟩ := SC.shape g2
  obtain ⟨vb, vd, rfl, _⟩ := SC.shape g3
  obtain ⟨nb, nd, rfl, _⟩ := SC.shape g4
  obtain ⟨mb, md, rfl, _⟩ := SC.shape g5
  clear h2 h3 h4 h5 g2 g3 g4 g5
  obtain ⟨W0, hW0⟩ : ∃ W0, W0 = (w.alloc (.cells #[.int .i64 x.id, .int .i64 x.n, .int .i64 x.term, .int .i64 x.vote, .slice la x.log.length lc, .int .i64 x.commit, .int .i64 x.role, .int .i64 x.boss, .slice va x.votes.length vc, .slice na x.next.length nc, .slice ma x.mtch.length mc] 25)).alloc (.cells #[.int .i64 x.id, .int .i64 x.n, .int .i64 x.term, .int .i64 x.vote, .slice lb x.log.length ld, .int .i64 x.commit, .int .i64 x.role, .int .i64 x.boss, .slice vb x.votes.length vd, .slice nb x.next.length nd, .slice mb x.mtch.length md] 25) := ⟨_, rfl⟩
  have b0 : Below w.heap.size w W0 := by rw [hW0]; exact (below_new _ _).alloc (by simp) _
  have HB := hide b0
  have CI := hide (fun n => sameItems_any x.log _ _ (W0.drewN n) (TV.drewN ((unhide HU).keep (kept b0)).log n) (TV.drewN ((unhide HV).keep (kept b0)).log n))
  have C1 := hide (fun n => sameInts_any x.votes _ _ (W0.drewN n) (show Iv (W0.drewN n) _ _ from ((unhide HU).keep (kept b0)).votes.1) (show Iv (W0.drewN n) _ _ from ((unhide HV).keep (kept b0)).votes.1))
  have C2 := hide (fun n => sameInts_any x.next _ _ (W0.drewN n) (show Iv (W0.drewN n) _ _ from ((unhide HU).keep (kept b0)).votes.2.1) (show Iv (W0.drewN n) _ _ from ((unhide HV).keep (kept b0)).votes.2.1))
  have C3 := hide (fun n => sameInts_any x.mtch _ _ (W0.drewN n) (show Iv (W0.drewN n) _ _ from ((unhide HU).keep (kept b0)).votes.2.2) (show Iv (W0.drewN n) _ _ from ((unhide HV).keep (kept b0)).votes.2.2))
  have X0 : NX W0 w.heap.size (.int .i64 x.id) (.int .i64 x.n) (.int .i64 x.term) (.int .i64 x.vote) (.slice la x.log.length lc) (.int .i64 x.commit) (.int .i64 x.role) (.int .i64 x.boss) (.slice va x.votes.length vc) (.slice na x.next.length nc) (.slice ma x.mtch.length mc) := by rw [hW0]; exact (BK.new w _ _).keep (below_new _ _)
  have X1 : NX W0 (w.heap.size + 1) (.int .i64 x.id) (.int .i64 x.n) (.int .i64 x.term) (.int .i64 x.vote) (.slice lb x.log.length ld) (.int .i64 x.commit) (.int .i64 x.role) (.int .i64 x.boss) (.slice vb x.votes.length vd) (.slice nb x.next.length nd) (.slice mb x.mtch.length md) := by
    rw [hW0]
    have := BK.new (w.alloc (.cells #[.int .i64 x.id, .int .i64 x.n, .int .i64 x.term, .int .i64 x.vote, .slice la x.log.length lc, .int .i64 x.commit, .int .i64 x.role, .int .i64 x.boss, .slice va x.votes.length vc, .slice na x.next.length nc, .slice ma x.mtch.length mc] 25)) 25 #[.int .i64 x.id, .int .i64 x.n, .int .i64 x.term, .int .i64 x.vote, .slice lb x.log.length ld, .int .i64 x.commit, .int .i64 x.role, .int .i64 x.boss, .slice vb x.votes.length vd, .slice nb x.next.length nd, .slice mb x.mtch.length md]
    simpa using this
  obtain ⟨p0, p1, p2, p3, p4, p5, p6, p7, p8, p9, p10⟩ := X0.tell
  obtain ⟨q0, q1, q2, q3, q4, q5, q6, q7, q8, q9, q10⟩ := X1.tell
  have HX0 := hide X0
  have HX1 := hide X1
  clear X0 X1 b0
  go_enter Try.func8, Try.ntmps8
  go_wp2_with fail
  rw [← hW0]
  clear hW0
  have e0 : W0 = W0.drewN 0 := rfl
  with_reducible refine (Calls.mono (by rw [e0]; exact unhide CI 0) ?_)
  rintro e w1 ⟨rfl, m1, rfl⟩
  clear e0
  go_wp2_with fail
  with_reducible refine (unhide C1 _).mono ?_
  rintro e w1 ⟨rfl, m2, rfl⟩
  go_wp2_with fail
  with_reducible refine (unhide C2 _).mono ?_
  rintro e w1 ⟨rfl, m3, rfl⟩
  go_wp2_with fail
  with_reducible refine (unhide C3 _).mono ?_
  rintro e w1 ⟨rfl, m4, rfl⟩
  go_wp2
  go_ret
  exact ⟨rfl, below_drewN (unhide HB) _⟩

set_option maxHeartbeats 4000000 in
set_option maxRecDepth 100000 in
theorem sameMsgs_any (l : List Rf.Msg) (u v : Value) (w : World) (hu : Mv w u l) (hv : Mv w v l) : Calls Try.prog 9 #[u, v] w fun e w' => e = .returned (.bool true) ∧ Below w.heap.size w w' := by
  have HU := hide hu
  have HV := hide hv
  obtain ⟨_, hS, _⟩ := hu
  obtain ⟨a1, L1, c1, rfl, hL1, _, _⟩ := SC.shp hS
  obtain ⟨_, hS2, _⟩ := hv
  obtain ⟨a2, L2, c2, rfl, hL2, _, _⟩ := SC.shp hS2
  have e12 : L2 = L1 := (unhide hL2).trans (unhide hL1).symm
  subst e12
  clear hL1 hS hS2
  go_enter Try.func9, Try.ntmps9
  go_wp2_with fail
  go_loopw [15] (fun i wr => ∃ m : Nat, m ≤ L2 ∧ i = .int .i64 (m : Int) ∧ Hid (Below w.heap.size w wr)) (fun i _ => L2 - (intOf i).toNat)
  case atStart => exact ⟨0, Nat.zero_le _, rfl, hide (Below.refl _ _)⟩
  case round =>
    obtain ⟨m, hm, rfl, HB⟩ := hrel
    by_cases hlt : m < L2
    · have hi1 : (m : Int) < (L2 : Int) := by omega
      have hlt2 : m < l.length := by rw [← unhide hL2]; exact hlt
      obtain ⟨q, hx⟩ : ∃ x, l[m]? = some x := ⟨_, List.getElem?_eq_getElem hlt2⟩
      have hne : l ≠ [] := by intro e; rw [e] at hlt2; simp at hlt2
      obtain ⟨b1, o1, cap1, e, hb1, _⟩ := (unhide HU).ex hne
      have ea : a1 = some ⟨b1, o1, none⟩ := by cases e; rfl
      clear e
      subst ea
      obtain ⟨b2, o2, cap2, e, hb2, _⟩ := (unhide HV).ex hne
      have ea : a2 = some ⟨b2, o2, none⟩ := by cases e; rfl
      clear e
      subst ea
      obtain ⟨i1, t1, k1⟩ := (MV.keep (kept (unhide HB)) (unhide HU)).at hx
      obtain ⟨i2, t2, k2⟩ := (MV.keep (kept (unhide HB)) (unhide HV)).at hx
      obtain ⟨ia, ic, rfl, _⟩ := SC.shape t1
      obtain ⟨ib, id', rfl, _⟩ := SC.shape t2
      have CI := hide (fun wx (hx : Below wr.heap.size wr wx) => sameItems_any q.items _ _ wx (t1.keep (kept hx)) (t2.keep (kept hx)))
      have d0 := k1 0 _ rfl
      have d1 := k1 1 _ rfl
      have d2 := k1 2 _ rfl
      have d3 := k1 3 _ rfl
      have d4 := k1 4 _ rfl
      have d5 := k1 5 _ rfl
      have d6 := k1 6 _ rfl
      have d7 := k1 7 _ rfl
      have d8 := k1 8 _ rfl
      have g0 := k2 0 _ rfl
      have g1 := k2 1 _ rfl
      have g2 := k2 2 _ rfl
      have g3 := k2 3 _ rfl
      have g4 := k2 4 _ rfl
      have g5 := k2 5 _ rfl
      have g6 := k2 6 _ rfl
      have g7 := k2 7 _ rfl
      have g8 := k2 8 _ rfl
      have z1 : b1 < wr.heap.size := Nat.lt_of_lt_of_le hb1 (unhide HB).size
      have z2 : b2 < wr.heap.size := Nat.lt_of_lt_of_le hb2 (unhide HB).size
      have y1 : b1 ≠ wr.heap.size := by omega
      have y2 : b2 ≠ wr.heap.size := by omega
      have y3 : b1 ≠ wr.heap.size + 1 := by omega
      have y4 : b2 ≠ wr.heap.size + 1 := by omega
      have y5 : b1 < wr.heap.size + 1 := by omega
      have y6 : b2 < wr.heap.size + 1 := by omega
      rw [Nat.add_zero] at d0 g0
      clear hx hne hlt2 k1 k2 t1 t2
      go_wp2_with fail
      go_region
      all_goals
        go_wp2_with fail
        with_reducible refine (unhide CI _ (by repeat (first | with_reducible exact Below.refl _ _ | with_reducible apply Below.drew | with_reducible refine below_drewN ?_ _ | with_reducible refine Below.setCell ?_ (by first | omega | (simp; omega) | simp) _ | with_reducible refine Below.alloc ?_ (by first | omega | (simp; omega) | simp) _))).mono ?_
        rintro e w2 ⟨rfl, m2, rfl⟩
        clear d0 d1 d2 d3 d4 d5 d6 d7 d8 g0 g1 g2 g3 g4 g5 g6 g7 g8
        go_wp2
        go_roundw
        case rel => exact ⟨m + 1, by omega, by go_num, hide (below_via (unhide HB) (by repeat (first | with_reducible exact Below.refl _ _ | with_reducible apply Below.drew | with_reducible refine below_drewN ?_ _ | with_reducible refine Below.setCell ?_ (by first | omega | (simp; omega) | simp) _ | with_reducible refine Below.alloc ?_ (by first | omega | (simp; omega) | simp) _)))⟩
        case measure => simp [intOf]; omega
    · obtain rfl : m = L2 := by omega
      go_wp2
      go_ret
      exact ⟨rfl, unhide HB⟩

end Go.Proofs.Ytiplnegiphhdlaa.R15
