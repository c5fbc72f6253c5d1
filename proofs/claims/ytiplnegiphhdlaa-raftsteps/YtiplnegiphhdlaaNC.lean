/- Walks: countsAll, countsFit, Wrong (raft). Written by gen_nc.py. -/
import Derived.Test.YtiplnegiphhdlaaNB
namespace Go.Proofs.Ytiplnegiphhdlaa.Rf
theorem lens_same {x : Node} (h : lensOk x) : x.next.length = x.mtch.length := by
  unfold lensOk at h
  split at h
  · omega
  · rw [h.1, h.2]

end Go.Proofs.Ytiplnegiphhdlaa.Rf

namespace Go.Proofs.Ytiplnegiphhdlaa.RW
open Go.RowKit

set_option maxHeartbeats 2000000 in
theorem countsAll_any (x : Rf.Node) (v : Array Value) (w : World) (hv : Nv w v x) : Calls Try.prog 20 #[.agg v] w fun e w' => e = .returned (.bool (decide (Rf.lensOk x))) ∧ Below w.heap.size w w' := by
  obtain ⟨lv, vv, nv, mv, rfl, h2, h3, h4, h5⟩ := hv
  obtain ⟨la, LL, lc, rfl, hLL, _, _⟩ := SC.shp h2
  obtain ⟨va, VL, vc, rfl, hVL, _, _⟩ := SC.shp h3
  obtain ⟨na, NL, nc, rfl, hNL, _, _⟩ := SC.shp h4
  obtain ⟨ma, ML, mc, rfl, hML, _, _⟩ := SC.shp h5
  have HB := hide (below_new w (.cells #[.int .i64 x.id, .int .i64 x.n, .int .i64 x.term, .int .i64 x.vote, .slice la LL lc, .int .i64 x.commit, .int .i64 x.role, .int .i64 x.boss, .slice va VL vc, .slice na NL nc, .slice ma ML mc] 25))
  have HE : Hid (Rf.lensOk x ↔ if x.role = 3 then (NL : Int) = x.n ∧ (ML : Int) = x.n else (NL : Int) = 0 ∧ (ML : Int) = 0) := hide (by
    rw [unhide hNL, unhide hML]
    unfold Rf.lensOk
    split
    · exact Iff.rfl
    · rw [← List.length_eq_zero_iff, ← List.length_eq_zero_iff]; omega)
  clear h2 h3 h4 h5
  by_cases r : x.role = 3
  · have HE2 := hide (unhide HE)
    rw [if_pos r] at HE2
    have b : (x.role == 3) = true := by simpa using r
    clear HE r
    by_cases q1 : (NL : Int) = x.n
    · have b1 : ((NL : Int) == x.n) = true := by simpa using q1
      by_cases q2 : (ML : Int) = x.n
      · have b2 : ((ML : Int) == x.n) = true := by simpa using q2
        have HR : Hid (decide (Rf.lensOk x) = true) := hide (decide_eq_true ((unhide HE2).2 ⟨q1, q2⟩))
        clear q1 q2
        clear HE2
        go_enter Try.func20, Try.ntmps20
        go_wp2
        go_ret
        exact ⟨by first | (rw [unhide HR]; done) | (rw [unhide HR]; rfl), unhide HB⟩
      · have b2 : ((ML : Int) == x.n) = false := by simpa using q2
        have HR : Hid (decide (Rf.lensOk x) = false) := hide (decide_eq_false (fun q => q2 ((unhide HE2).1 q).2))
        clear q1 q2
        clear HE2
        go_enter Try.func20, Try.ntmps20
        go_wp2
        go_ret
        exact ⟨by first | (rw [unhide HR]; done) | (rw [unhide HR]; rfl), unhide HB⟩
    · have b1 : ((NL : Int) == x.n) = false := by simpa using q1
      have HR : Hid (decide (Rf.lensOk x) = false) := hide (decide_eq_false (fun q => q1 ((unhide HE2).1 q).1))
      clear q1
      clear HE2
      go_enter Try.func20, Try.ntmps20
      go_wp2
      go_ret
      exact ⟨by first | (rw [unhide HR]; done) | (rw [unhide HR]; rfl), unhide HB⟩
  · have HE2 := hide (unhide HE)
    rw [if_neg r] at HE2
    have b : (x.role == 3) = false := by simpa using r
    clear HE r
    by_cases q1 : NL = 0
    · by_cases q2 : ML = 0
      · have HR : Hid (decide (Rf.lensOk x) = true) := hide (decide_eq_true ((unhide HE2).2 ⟨by omega, by omega⟩))
        subst q1 q2
        clear HE2
        go_enter Try.func20, Try.ntmps20
        go_wp2
        go_ret
        exact ⟨by first | (rw [unhide HR]; done) | (rw [unhide HR]; rfl), unhide HB⟩
      · have b2 : ((ML : Int) == 0) = false := by simpa using q2
        have b3 : (ML == 0) = false := by simpa using q2
        have HR : Hid (decide (Rf.lensOk x) = false) := hide (decide_eq_false (fun q => q2 (by have := ((unhide HE2).1 q).2; omega)))
        subst q1
        clear HE2
        go_enter Try.func20, Try.ntmps20
        go_wp2
        go_ret
        exact ⟨by first | (rw [unhide HR]; done) | (rw [unhide HR]; rfl), unhide HB⟩
    · have b1 : ((NL : Int) == 0) = false := by simpa using q1
      have b3 : (NL == 0) = false := by simpa using q1
      have HR : Hid (decide (Rf.lensOk x) = false) := hide (decide_eq_false (fun q => q1 (by have := ((unhide HE2).1 q).1; omega)))
      clear HE2
      go_enter Try.func20, Try.ntmps20
      go_wp2
      go_ret
      exact ⟨by first | (rw [unhide HR]; done) | (rw [unhide HR]; rfl), unhide HB⟩

set_option maxHeartbeats 4000000 in
theorem countsFit_any (x : Rf.Node) (v : Array Value) (w : World) (hv : Nv w v x) (hlen : x.next.length = x.mtch.length) (h60 : x.log.length ≤ 60) : Calls Try.prog 21 #[.agg v] w fun e w' => e = .returned (.bool (decide (Rf.placesOk x))) ∧ Below w.heap.size w w' := by
  obtain ⟨lv, vv, nv, mv, rfl, h2, h3, h4, h5⟩ := hv
  obtain ⟨la, LL, lc, rfl, hLL, _, _⟩ := SC.shp h2
  obtain ⟨va, VL, vc, rfl, hVL, _, _⟩ := SC.shp h3
  obtain ⟨na, NL, nc, rfl, hNL, _, _⟩ := SC.shp h4
  obtain ⟨ma, ML, mc, rfl, hML, _, _⟩ := SC.shp h5
  have HX := hide (BK.new w 25 #[.int .i64 x.id, .int .i64 x.n, .int .i64 x.term, .int .i64 x.vote, .slice la LL lc, .int .i64 x.commit, .int .i64 x.role, .int .i64 x.boss, .slice va VL vc, .slice na NL nc, .slice ma ML mc])
  have HB := hide (below_new w (.cells #[.int .i64 x.id, .int .i64 x.n, .int .i64 x.term, .int .i64 x.vote, .slice la LL lc, .int .i64 x.commit, .int .i64 x.role, .int .i64 x.boss, .slice va VL vc, .slice na NL nc, .slice ma ML mc] 25))
  have HN9 := hide h4
  have HM9 := hide h5
  have HP : Hid (Rf.cntF (LL : Int) x.next x.mtch = decide (Rf.placesOk x)) := hide (by
    rw [Bool.eq_iff_iff, Rf.cntF_iff _ _ _ hlen, decide_eq_true_eq, unhide hLL]
    exact Iff.rfl)
  have HNM : Hid (NL = ML) := hide (by rw [unhide hNL, unhide hML, hlen])
  have hL60 : (LL : Int) ≤ 60 := by rw [unhide hLL]; omega
  have ew2 : IntKind.i64.wrap ((LL : Int) + 1) = (LL : Int) + 1 := wrap_i64 (by omega) (by omega)
  clear h2 h3 h4 h5 hlen h60
  go_enter Try.func21, Try.ntmps21
  go_wp2_with fail
  generalize w.alloc (.cells #[.int .i64 x.id, .int .i64 x.n, .int .i64 x.term, .int .i64 x.vote, .slice la LL lc, .int .i64 x.commit, .int .i64 x.role, .int .i64 x.boss, .slice va VL vc, .slice na NL nc, .slice ma ML mc] 25) = w1 at HX HB ⊢
  go_loopw [7] (fun i wr => ∃ m : Nat, m ≤ NL ∧ i = .int .i64 (m : Int) ∧ Hid (Rf.cntF (LL : Int) (x.next.drop m) (x.mtch.drop m) = decide (Rf.placesOk x)) ∧ Hid (Below w1.heap.size w1 wr)) (fun i _ => NL - (intOf i).toNat)
  case atStart => exact ⟨0, Nat.zero_le _, rfl, hide (by rw [List.drop_zero, List.drop_zero]; exact unhide HP), hide (Below.refl _ _)⟩
  case round =>
    obtain ⟨m, hm, rfl, HR, HW⟩ := hrel
    obtain ⟨c0, c1, c2, c3, c4, c5, c6, c7, c8, c9, c10⟩ := (show NX wr w.heap.size _ _ _ _ _ _ _ _ _ _ _ from (unhide HX).keep (unhide HW)).tell
    have HB4 := hide (below_via (unhide HB) (unhide HW))
    by_cases hlt : m < NL
    · have hi1 : (m : Int) < (NL : Int) := by omega
      have hlt2 : m < x.next.length := by rw [← unhide hNL]; exact hlt
      have hlt3 : m < x.mtch.length := by rw [← unhide hML, ← unhide HNM]; exact hlt
      have hi2 : (m : Int) < (ML : Int) := by rw [← unhide HNM]; exact hi1
      have hi3 : m < ML := by rw [← unhide HNM]; exact hlt
      obtain ⟨y, hy⟩ : ∃ y, x.next[m]? = some y := ⟨_, List.getElem?_eq_getElem hlt2⟩
      obtain ⟨z, hz⟩ : ∃ z, x.mtch[m]? = some z := ⟨_, List.getElem?_eq_getElem hlt3⟩
      have hne : x.next ≠ [] := by intro e; rw [e] at hlt2; simp at hlt2
      have hne2 : x.mtch ≠ [] := by intro e; rw [e] at hlt3; simp at hlt3
      obtain ⟨b, off, cap', e, _, _, _⟩ := (unhide HN9).ex hne
      obtain rfl : na = some ⟨b, off, none⟩ := by cases e; rfl
      obtain ⟨b2, off2, cap2, e', _, _, _⟩ := (unhide HM9).ex hne2
      obtain rfl : ma = some ⟨b2, off2, none⟩ := by cases e'; rfl
      have q0 := (IV.keep (kept (unhide HB4)) (unhide HN9)).at hy
      have q1 := (IV.keep (kept (unhide HB4)) (unhide HM9)).at hz
      have HR2 : Hid ((decide (Rf.inB y 1 ((LL : Int) + 1)) && (decide (Rf.inB z 0 (LL : Int)) && Rf.cntF (LL : Int) (x.next.drop (m + 1)) (x.mtch.drop (m + 1)))) = decide (Rf.placesOk x)) := hide (by
        rw [← unhide HR, List.drop_eq_getElem_cons hlt2, List.drop_eq_getElem_cons hlt3, Rf.cntF]
        have e1 : x.next[m] = y := by have := List.getElem?_eq_getElem hlt2; rw [hy] at this; cases this; rfl
        have e2 : x.mtch[m] = z := by have := List.getElem?_eq_getElem hlt3; rw [hz] at this; cases this; rfl
        rw [e1, e2])
      clear e e' hlt2 hlt3 HR hy hz hne hne2
      by_cases g1 : Rf.inB y 1 ((LL : Int) + 1)
      case neg =>
        have b1 : decide (Rf.inB y 1 ((LL : Int) + 1)) = false := decide_eq_false g1
        have HR := hide (unhide HR2)
        rw [b1, Bool.false_and] at HR
        replace HR := hide (unhide HR).symm
        clear HR2 g1
        go_wp2_with fail
        go_quiet ((go_at_call 37; exact Calls.quiet_of_same (within_any _ _ _ _)))
        go_wp2
        go_ret
        exact ⟨by first | (rw [unhide HR]; done) | (rw [unhide HR]; rfl), below_drewN (unhide HB4) _⟩
      have b1 : decide (Rf.inB y 1 ((LL : Int) + 1)) = true := decide_eq_true g1
      by_cases g2 : Rf.inB z 0 (LL : Int)
      case neg =>
        have b2 : decide (Rf.inB z 0 (LL : Int)) = false := decide_eq_false g2
        have HR := hide (unhide HR2)
        rw [b1, b2, Bool.false_and, Bool.true_and] at HR
        replace HR := hide (unhide HR).symm
        clear HR2 g1 g2
        go_wp2_with fail
        go_quiet ((go_at_call 37; exact Calls.quiet_of_same (within_any _ _ _ _)))
        go_wp2
        go_ret
        exact ⟨by first | (rw [unhide HR]; done) | (rw [unhide HR]; rfl), below_drewN (unhide HB4) _⟩
      have b2' : decide (Rf.inB z 0 (LL : Int)) = true := decide_eq_true g2
      have HR := hide (unhide HR2)
      rw [b1, b2', Bool.true_and, Bool.true_and] at HR
      clear HR2 g1 g2
      go_wp2_with fail
      go_quiet ((go_at_call 37; exact Calls.quiet_of_same (within_any _ _ _ _)))
      go_wp2
      go_roundw
      case rel => exact ⟨m + 1, by omega, by go_num, HR, hide (below_drewN (unhide HW) _)⟩
      case measure => simp [intOf]; omega
    · obtain rfl : m = NL := by omega
      have HR' : Hid (decide (Rf.placesOk x) = true) := hide (by rw [← unhide HR, List.drop_of_length_le (by have := unhide hNL; omega)]; simp [Rf.cntF])
      clear HR
      go_wp2
      go_ret
      exact ⟨by first | (rw [unhide HR']; done) | (rw [unhide HR']; rfl), unhide HB4⟩

set_option maxHeartbeats 4000000 in
theorem wrong_any (x : Rf.Node) (v : Array Value) (w : World) (hv : Nv w v x) : Calls Try.prog 4 #[.agg v] w fun e w' => e = .returned (.int .i64 (Rf.wrongN x)) ∧ Below w.heap.size w w' := by
  obtain ⟨lv, vv, nv, mv, rfl, h2, h3, h4, h5⟩ := hv
  obtain ⟨la, LL, lc, rfl, hLL, _, _⟩ := SC.shp h2
  obtain ⟨va, VL, vc, rfl, hVL, _, _⟩ := SC.shp h3
  obtain ⟨na, NL, nc, rfl, hNL, _, _⟩ := SC.shp h4
  obtain ⟨ma, ML, mc, rfl, hML, _, _⟩ := SC.shp h5
  have HV : Hid (Nv w #[.int .i64 x.id, .int .i64 x.n, .int .i64 x.term, .int .i64 x.vote, .slice la LL lc, .int .i64 x.commit, .int .i64 x.role, .int .i64 x.boss, .slice va VL vc, .slice na NL nc, .slice ma ML mc] x) := hide ⟨_, _, _, _, rfl, h2, h3, h4, h5⟩
  have HX := hide (BK.new w 25 #[.int .i64 x.id, .int .i64 x.n, .int .i64 x.term, .int .i64 x.vote, .slice la LL lc, .int .i64 x.commit, .int .i64 x.role, .int .i64 x.boss, .slice va VL vc, .slice na NL nc, .slice ma ML mc])
  have HB := hide (below_new w (.cells #[.int .i64 x.id, .int .i64 x.n, .int .i64 x.term, .int .i64 x.vote, .slice la LL lc, .int .i64 x.commit, .int .i64 x.role, .int .i64 x.boss, .slice va VL vc, .slice na NL nc, .slice ma ML mc] 25))
  clear h2 h3 h4 h5
  go_enter Try.func4, Try.ntmps4
  go_wp2_with fail
  generalize w.alloc (.cells #[.int .i64 x.id, .int .i64 x.n, .int .i64 x.term, .int .i64 x.vote, .slice la LL lc, .int .i64 x.commit, .int .i64 x.role, .int .i64 x.boss, .slice va VL vc, .slice na NL nc, .slice ma ML mc] 25) = w0 at HX HB ⊢
  obtain ⟨c0, c1, c2, c3, c4, c5, c6, c7, c8, c9, c10⟩ := (show NX w0 w.heap.size _ _ _ _ _ _ _ _ _ _ _ from unhide HX).tell
  have CN := hide (numbers_any x _ w0 (NV.keep (kept (unhide HB)) (unhide HV)))
  by_cases r1 : Rf.rangeOk x
  rotate_left
  · have d := decide_eq_false r1
    have HR : Hid (Rf.wrongN x = 3) := hide (by rw [Rf.wrongN, if_pos r1])
    have CN := hide (unhide CN)
    rw [d] at CN
    clear r1
    go_wp2_with (go_at_call 16; refine (unhide CN).mono ?_; rintro e wz ⟨rfl, hb⟩)
    go_ret
    exact ⟨by first | (rw [unhide HR]; done) | (rw [unhide HR]; rfl), below_via (unhide HB) hb⟩
  have HC1 := hide r1
  have d := decide_eq_true r1
  rw [d] at CN
  clear d r1
  go_wp2_with (go_at_call 16; refine (unhide CN).mono ?_; rintro e w1 ⟨rfl, hb⟩; clear c0 c1 c2 c3 c4 c5 c6 c7 c8 c9 c10; replace HX := hide ((unhide HX).keep hb); replace HB := hide (below_via (unhide HB) hb); clear hb CN; obtain ⟨c0, c1, c2, c3, c4, c5, c6, c7, c8, c9, c10⟩ := (show NX w1 w.heap.size _ _ _ _ _ _ _ _ _ _ _ from unhide HX).tell)
  have CN := hide (role_any x _ w1 (NV.keep (kept (unhide HB)) (unhide HV)) (unhide HC1).2.2.2.2.1.1)
  by_cases r2 : Rf.roleOk x
  rotate_left
  · have d := decide_eq_false r2
    have HR : Hid (Rf.wrongN x = 1) := hide (by rw [Rf.wrongN, if_neg (not_not_intro (unhide HC1)), if_pos (Classical.not_not.1 r2)])
    have CN := hide (unhide CN)
    rw [d] at CN
    clear r2
    go_wp2_with (go_at_call 17; refine (unhide CN).mono ?_; rintro e wz ⟨rfl, hb⟩)
    go_ret
    exact ⟨by first | (rw [unhide HR]; done) | (rw [unhide HR]; rfl), below_via (unhide HB) hb⟩
  have HC2 := hide r2
  have d := decide_eq_true r2
  rw [d] at CN
  clear d r2
  by_cases l60 : 60 < LL
  · have HR : Hid (Rf.wrongN x = 4) := hide (by rw [Rf.wrongN, if_neg (not_not_intro (unhide HC1)), if_neg (unhide HC2), if_pos (by rw [← unhide hLL]; exact l60)])
    have l60' : (60 : Int) < (LL : Int) := by omega
    go_wp2_with (go_at_call 17; refine (unhide CN).mono ?_; rintro e wz ⟨rfl, hb⟩; clear c0 c1 c2 c3 c4 c5 c6 c7 c8 c9 c10; replace HX := hide ((unhide HX).keep hb); obtain ⟨c0, c1, c2, c3, c4, c5, c6, c7, c8, c9, c10⟩ := (show NX wz w.heap.size _ _ _ _ _ _ _ _ _ _ _ from unhide HX).tell)
    go_ret
    exact ⟨by first | (rw [unhide HR]; done) | (rw [unhide HR]; rfl), below_via (unhide HB) hb⟩
  have HL60 : Hid (¬ 60 < x.log.length) := hide (by rw [← unhide hLL]; exact l60)
  have l60' : ¬ (60 : Int) < (LL : Int) := by omega
  go_wp2_with (go_at_call 17; refine (unhide CN).mono ?_; rintro e w2 ⟨rfl, hb⟩; clear c0 c1 c2 c3 c4 c5 c6 c7 c8 c9 c10; replace HX := hide ((unhide HX).keep hb); replace HB := hide (below_via (unhide HB) hb); clear hb CN; obtain ⟨c0, c1, c2, c3, c4, c5, c6, c7, c8, c9, c10⟩ := (show NX w2 w.heap.size _ _ _ _ _ _ _ _ _ _ _ from unhide HX).tell)
  have CN := hide ((Rf.inOrd_rises x.log x.term) ▸ inOrder_any x.log (.slice la LL lc) 1 x.term w2 (TV.keep (kept (unhide HB)) (by obtain ⟨_, _, _, _, e, h, _⟩ := unhide HV; cases e; exact h)))
  by_cases r3 : Rf.rises x.log x.term
  rotate_left
  · have d := decide_eq_false r3
    have HR : Hid (Rf.wrongN x = 2) := hide (by rw [Rf.wrongN, if_neg (not_not_intro (unhide HC1)), if_neg (unhide HC2), if_neg (unhide HL60), if_pos r3])
    have CN := hide (unhide CN)
    rw [d] at CN
    clear r3
    go_wp2_with (go_at_call 18; refine (unhide CN).mono ?_; rintro e wz ⟨rfl, hb⟩)
    go_ret
    exact ⟨by first | (rw [unhide HR]; done) | (rw [unhide HR]; rfl), below_via (unhide HB) hb⟩
  have HC3 := hide r3
  have d := decide_eq_true r3
  rw [d] at CN
  clear d r3
  have HVL : Hid (0 < VL ↔ x.votes ≠ []) := hide (by rw [unhide hVL]; exact List.length_pos_iff)
  by_cases v1 : 0 < VL
  · have v1' : (0 : Int) < (VL : Int) := by omega
    by_cases v2 : x.role = 2
    · have b2 : (x.role == 2) = true := by simpa using v2
      have HV1 : Hid (¬ (x.role ≠ 2 ∧ x.votes ≠ [])) := hide (fun q => q.1 v2)
      clear v2
      go_wp2_with (go_at_call 18; refine (unhide CN).mono ?_; rintro e w3 ⟨rfl, hb⟩; clear c0 c1 c2 c3 c4 c5 c6 c7 c8 c9 c10; replace HX := hide ((unhide HX).keep hb); replace HB := hide (below_via (unhide HB) hb); clear hb CN; obtain ⟨c0, c1, c2, c3, c4, c5, c6, c7, c8, c9, c10⟩ := (show NX w3 w.heap.size _ _ _ _ _ _ _ _ _ _ _ from unhide HX).tell)
      have CN := hide ((Rf.risI_votes x.votes x.n) ▸ rising_any x.votes (.slice va VL vc) x.n w3 (IV.keep (kept (unhide HB)) (by obtain ⟨_, _, _, _, e, _, h, _⟩ := unhide HV; cases e; exact h)) (unhide HC1).1.2)
      by_cases r4 : Rf.votesOk x.votes x.n
      rotate_left
      · have d := decide_eq_false r4
        have HR : Hid (Rf.wrongN x = 2) := hide (by rw [Rf.wrongN, if_neg (not_not_intro (unhide HC1)), if_neg (unhide HC2), if_neg (unhide HL60), if_neg (not_not_intro (unhide HC3)), if_neg (unhide HV1), if_pos r4])
        have CN := hide (unhide CN)
        rw [d] at CN
        clear r4
        go_wp2_with (go_at_call 19; refine (unhide CN).mono ?_; rintro e wz ⟨rfl, hb⟩)
        go_ret
        exact ⟨by first | (rw [unhide HR]; done) | (rw [unhide HR]; rfl), below_via (unhide HB) hb⟩
      have HC4 := hide r4
      have d := decide_eq_true r4
      rw [d] at CN
      clear d r4
      go_wp2_with (go_at_call 19; refine (unhide CN).mono ?_; rintro e w4 ⟨rfl, hb⟩; clear c0 c1 c2 c3 c4 c5 c6 c7 c8 c9 c10; replace HX := hide ((unhide HX).keep hb); replace HB := hide (below_via (unhide HB) hb); clear hb CN; obtain ⟨c0, c1, c2, c3, c4, c5, c6, c7, c8, c9, c10⟩ := (show NX w4 w.heap.size _ _ _ _ _ _ _ _ _ _ _ from unhide HX).tell)
      have CN := hide (countsAll_any x _ w4 (NV.keep (kept (unhide HB)) (unhide HV)))
      by_cases r5 : Rf.lensOk x
      rotate_left
      · have d := decide_eq_false r5
        have HR : Hid (Rf.wrongN x = 8) := hide (by rw [Rf.wrongN, if_neg (not_not_intro (unhide HC1)), if_neg (unhide HC2), if_neg (unhide HL60), if_neg (not_not_intro (unhide HC3)), if_neg (unhide HV1), if_neg (not_not_intro (unhide HC4)), if_pos r5])
        have CN := hide (unhide CN)
        rw [d] at CN
        clear r5
        go_wp2_with (go_at_call 20; refine (unhide CN).mono ?_; rintro e wz ⟨rfl, hb⟩)
        go_ret
        exact ⟨by first | (rw [unhide HR]; done) | (rw [unhide HR]; rfl), below_via (unhide HB) hb⟩
      have HC5 := hide r5
      have d := decide_eq_true r5
      rw [d] at CN
      clear d r5
      go_wp2_with (go_at_call 20; refine (unhide CN).mono ?_; rintro e w5 ⟨rfl, hb⟩; clear c0 c1 c2 c3 c4 c5 c6 c7 c8 c9 c10; replace HX := hide ((unhide HX).keep hb); replace HB := hide (below_via (unhide HB) hb); clear hb CN; obtain ⟨c0, c1, c2, c3, c4, c5, c6, c7, c8, c9, c10⟩ := (show NX w5 w.heap.size _ _ _ _ _ _ _ _ _ _ _ from unhide HX).tell)
      have CN := hide (countsFit_any x _ w5 (NV.keep (kept (unhide HB)) (unhide HV)) (Rf.lens_same (unhide HC5)) (by have := unhide HL60; omega))
      by_cases r6 : Rf.placesOk x
      rotate_left
      · have d := decide_eq_false r6
        have HR : Hid (Rf.wrongN x = 3) := hide (by rw [Rf.wrongN, if_neg (not_not_intro (unhide HC1)), if_neg (unhide HC2), if_neg (unhide HL60), if_neg (not_not_intro (unhide HC3)), if_neg (unhide HV1), if_neg (not_not_intro (unhide HC4)), if_neg (not_not_intro (unhide HC5)), if_pos r6])
        have CN := hide (unhide CN)
        rw [d] at CN
        clear r6
        go_wp2_with (go_at_call 21; refine (unhide CN).mono ?_; rintro e wz ⟨rfl, hb⟩)
        go_ret
        exact ⟨by first | (rw [unhide HR]; done) | (rw [unhide HR]; rfl), below_via (unhide HB) hb⟩
      have HC6 := hide r6
      have d := decide_eq_true r6
      rw [d] at CN
      clear d r6
      go_wp2_with (go_at_call 21; refine (unhide CN).mono ?_; rintro e w6 ⟨rfl, hb⟩; clear c0 c1 c2 c3 c4 c5 c6 c7 c8 c9 c10; replace HX := hide ((unhide HX).keep hb); replace HB := hide (below_via (unhide HB) hb); clear hb CN; obtain ⟨c0, c1, c2, c3, c4, c5, c6, c7, c8, c9, c10⟩ := (show NX w6 w.heap.size _ _ _ _ _ _ _ _ _ _ _ from unhide HX).tell)
      have HR : Hid (Rf.wrongN x = 0) := hide (by rw [Rf.wrongN, if_neg (not_not_intro (unhide HC1)), if_neg (unhide HC2), if_neg (unhide HL60), if_neg (not_not_intro (unhide HC3)), if_neg (unhide HV1), if_neg (not_not_intro (unhide HC4)), if_neg (not_not_intro (unhide HC5)), if_neg (not_not_intro (unhide HC6))])
      go_ret
      exact ⟨by first | (rw [unhide HR]; done) | (rw [unhide HR]; rfl), unhide HB⟩
    · have b2 : (x.role == 2) = false := by simpa using v2
      have HR : Hid (Rf.wrongN x = 8) := hide (by rw [Rf.wrongN, if_neg (not_not_intro (unhide HC1)), if_neg (unhide HC2), if_neg (unhide HL60), if_neg (not_not_intro (unhide HC3)), if_pos ⟨v2, (unhide HVL).1 v1⟩])
      clear v2
      go_wp2_with (go_at_call 18; refine (unhide CN).mono ?_; rintro e wz ⟨rfl, hb⟩; clear c0 c1 c2 c3 c4 c5 c6 c7 c8 c9 c10; replace HX := hide ((unhide HX).keep hb); obtain ⟨c0, c1, c2, c3, c4, c5, c6, c7, c8, c9, c10⟩ := (show NX wz w.heap.size _ _ _ _ _ _ _ _ _ _ _ from unhide HX).tell)
      go_ret
      exact ⟨by first | (rw [unhide HR]; done) | (rw [unhide HR]; rfl), below_via (unhide HB) hb⟩
  · have v1' : ¬ (0 : Int) < (VL : Int) := by omega
    have HV1 : Hid (¬ (x.role ≠ 2 ∧ x.votes ≠ [])) := hide (fun q => v1 ((unhide HVL).2 q.2))
    go_wp2_with (go_at_call 18; refine (unhide CN).mono ?_; rintro e w3 ⟨rfl, hb⟩; clear c0 c1 c2 c3 c4 c5 c6 c7 c8 c9 c10; replace HX := hide ((unhide HX).keep hb); replace HB := hide (below_via (unhide HB) hb); clear hb CN; obtain ⟨c0, c1, c2, c3, c4, c5, c6, c7, c8, c9, c10⟩ := (show NX w3 w.heap.size _ _ _ _ _ _ _ _ _ _ _ from unhide HX).tell)
    have CN := hide ((Rf.risI_votes x.votes x.n) ▸ rising_any x.votes (.slice va VL vc) x.n w3 (IV.keep (kept (unhide HB)) (by obtain ⟨_, _, _, _, e, _, h, _⟩ := unhide HV; cases e; exact h)) (unhide HC1).1.2)
    by_cases r4 : Rf.votesOk x.votes x.n
    rotate_left
    · have d := decide_eq_false r4
      have HR : Hid (Rf.wrongN x = 2) := hide (by rw [Rf.wrongN, if_neg (not_not_intro (unhide HC1)), if_neg (unhide HC2), if_neg (unhide HL60), if_neg (not_not_intro (unhide HC3)), if_neg (unhide HV1), if_pos r4])
      have CN := hide (unhide CN)
      rw [d] at CN
      clear r4
      go_wp2_with (go_at_call 19; refine (unhide CN).mono ?_; rintro e wz ⟨rfl, hb⟩)
      go_ret
      exact ⟨by first | (rw [unhide HR]; done) | (rw [unhide HR]; rfl), below_via (unhide HB) hb⟩
    have HC4 := hide r4
    have d := decide_eq_true r4
    rw [d] at CN
    clear d r4
    go_wp2_with (go_at_call 19; refine (unhide CN).mono ?_; rintro e w4 ⟨rfl, hb⟩; clear c0 c1 c2 c3 c4 c5 c6 c7 c8 c9 c10; replace HX := hide ((unhide HX).keep hb); replace HB := hide (below_via (unhide HB) hb); clear hb CN; obtain ⟨c0, c1, c2, c3, c4, c5, c6, c7, c8, c9, c10⟩ := (show NX w4 w.heap.size _ _ _ _ _ _ _ _ _ _ _ from unhide HX).tell)
    have CN := hide (countsAll_any x _ w4 (NV.keep (kept (unhide HB)) (unhide HV)))
    by_cases r5 : Rf.lensOk x
    rotate_left
    · have d := decide_eq_false r5
      have HR : Hid (Rf.wrongN x = 8) := hide (by rw [Rf.wrongN, if_neg (not_not_intro (unhide HC1)), if_neg (unhide HC2), if_neg (unhide HL60), if_neg (not_not_intro (unhide HC3)), if_neg (unhide HV1), if_neg (not_not_intro (unhide HC4)), if_pos r5])
      have CN := hide (unhide CN)
      rw [d] at CN
      clear r5
      go_wp2_with (go_at_call 20; refine (unhide CN).mono ?_; rintro e wz ⟨rfl, hb⟩)
      go_ret
      exact ⟨by first | (rw [unhide HR]; done) | (rw [unhide HR]; rfl), below_via (unhide HB) hb⟩
    have HC5 := hide r5
    have d := decide_eq_true r5
    rw [d] at CN
    clear d r5
    go_wp2_with (go_at_call 20; refine (unhide CN).mono ?_; rintro e w5 ⟨rfl, hb⟩; clear c0 c1 c2 c3 c4 c5 c6 c7 c8 c9 c10; replace HX := hide ((unhide HX).keep hb); replace HB := hide (below_via (unhide HB) hb); clear hb CN; obtain ⟨c0, c1, c2, c3, c4, c5, c6, c7, c8, c9, c10⟩ := (show NX w5 w.heap.size _ _ _ _ _ _ _ _ _ _ _ from unhide HX).tell)
    have CN := hide (countsFit_any x _ w5 (NV.keep (kept (unhide HB)) (unhide HV)) (Rf.lens_same (unhide HC5)) (by have := unhide HL60; omega))
    by_cases r6 : Rf.placesOk x
    rotate_left
    · have d := decide_eq_false r6
      have HR : Hid (Rf.wrongN x = 3) := hide (by rw [Rf.wrongN, if_neg (not_not_intro (unhide HC1)), if_neg (unhide HC2), if_neg (unhide HL60), if_neg (not_not_intro (unhide HC3)), if_neg (unhide HV1), if_neg (not_not_intro (unhide HC4)), if_neg (not_not_intro (unhide HC5)), if_pos r6])
      have CN := hide (unhide CN)
      rw [d] at CN
      clear r6
      go_wp2_with (go_at_call 21; refine (unhide CN).mono ?_; rintro e wz ⟨rfl, hb⟩)
      go_ret
      exact ⟨by first | (rw [unhide HR]; done) | (rw [unhide HR]; rfl), below_via (unhide HB) hb⟩
    have HC6 := hide r6
    have d := decide_eq_true r6
    rw [d] at CN
    clear d r6
    go_wp2_with (go_at_call 21; refine (unhide CN).mono ?_; rintro e w6 ⟨rfl, hb⟩; clear c0 c1 c2 c3 c4 c5 c6 c7 c8 c9 c10; replace HX := hide ((unhide HX).keep hb); replace HB := hide (below_via (unhide HB) hb); clear hb CN; obtain ⟨c0, c1, c2, c3, c4, c5, c6, c7, c8, c9, c10⟩ := (show NX w6 w.heap.size _ _ _ _ _ _ _ _ _ _ _ from unhide HX).tell)
    have HR : Hid (Rf.wrongN x = 0) := hide (by rw [Rf.wrongN, if_neg (not_not_intro (unhide HC1)), if_neg (unhide HC2), if_neg (unhide HL60), if_neg (not_not_intro (unhide HC3)), if_neg (unhide HV1), if_neg (not_not_intro (unhide HC4)), if_neg (not_not_intro (unhide HC5)), if_neg (not_not_intro (unhide HC6))])
    go_ret
    exact ⟨by first | (rw [unhide HR]; done) | (rw [unhide HR]; rfl), unhide HB⟩

end Go.Proofs.Ytiplnegiphhdlaa.RW
