/- Walks: Wrong. -/
import Derived.Test.YtiplnegiphhdlaaMC
import Derived.Deep.Cut
import Derived.Deep.CutRange
namespace Go.Proofs.Ytiplnegiphhdlaa.Rf

theorem wr_range {x : Node} (h : ¬ rangeOk x) : wrongN x = 3 := by rw [wrongN, if_pos h]
theorem wr_role {x : Node} (h : rangeOk x) (h2 : ¬ inB x.role 1 3 ∨ x.term = 0 ∧ x.role ≠ 1) : wrongN x = 1 := by rw [wrongN, if_neg (not_not_intro h), if_pos h2]
/-- nothing is wrong so far -/
structure SoFar (x : Node) : Prop where
  range : rangeOk x
  role : ¬ (¬ inB x.role 1 3 ∨ x.term = 0 ∧ x.role ≠ 1)
  log : ¬ 60 < x.log.length
  rise : rises x.log x.term
theorem wr_log {x : Node} (h : rangeOk x) (h2 : ¬ (¬ inB x.role 1 3 ∨ x.term = 0 ∧ x.role ≠ 1)) (h3 : 60 < x.log.length) : wrongN x = 4 := by rw [wrongN, if_neg (not_not_intro h), if_neg h2, if_pos h3]
theorem wr_rise {x : Node} (h : rangeOk x) (h2 : ¬ (¬ inB x.role 1 3 ∨ x.term = 0 ∧ x.role ≠ 1)) (h3 : ¬ 60 < x.log.length) (h4 : ¬ rises x.log x.term) : wrongN x = 2 := by rw [wrongN, if_neg (not_not_intro h), if_neg h2, if_neg h3, if_pos h4]
theorem wr_novotes {x : Node} (h : SoFar x) (h5 : x.role ≠ 2 ∧ x.votes ≠ []) : wrongN x = 8 := by rw [wrongN, if_neg (not_not_intro h.range), if_neg h.role, if_neg h.log, if_neg (not_not_intro h.rise), if_pos h5]
theorem wr_votes {x : Node} (h : SoFar x) (h5 : ¬ (x.role ≠ 2 ∧ x.votes ≠ [])) (h6 : ¬ votesOk x.votes x.n) : wrongN x = 2 := by rw [wrongN, if_neg (not_not_intro h.range), if_neg h.role, if_neg h.log, if_neg (not_not_intro h.rise), if_neg h5, if_pos h6]
theorem wr_lens {x : Node} (h : SoFar x) (h5 : ¬ (x.role ≠ 2 ∧ x.votes ≠ [])) (h6 : votesOk x.votes x.n) (h7 : ¬ lensOk x) : wrongN x = 8 := by rw [wrongN, if_neg (not_not_intro h.range), if_neg h.role, if_neg h.log, if_neg (not_not_intro h.rise), if_neg h5, if_neg (not_not_intro h6), if_pos h7]
theorem wr_places {x : Node} (h : SoFar x) (h5 : ¬ (x.role ≠ 2 ∧ x.votes ≠ [])) (h6 : votesOk x.votes x.n) (h7 : lensOk x) (h8 : ¬ placesOk x) : wrongN x = 3 := by rw [wrongN, if_neg (not_not_intro h.range), if_neg h.role, if_neg h.log, if_neg (not_not_intro h.rise), if_neg h5, if_neg (not_not_intro h6), if_neg (not_not_intro h7), if_pos h8]
theorem wr_ok {x : Node} (h : SoFar x) (h5 : ¬ (x.role ≠ 2 ∧ x.votes ≠ [])) (h6 : votesOk x.votes x.n) (h7 : lensOk x) (h8 : placesOk x) : wrongN x = 0 := by rw [wrongN, if_neg (not_not_intro h.range), if_neg h.role, if_neg h.log, if_neg (not_not_intro h.rise), if_neg h5, if_neg (not_not_intro h6), if_neg (not_not_intro h7), if_neg (not_not_intro h8)]

theorem votes_take {l : List Int} {n : Int} (h : votesOk l n) (k : Nat) : votesOk (l.take k) n :=
  ⟨fun x hx => h.1 x (List.mem_of_mem_take hx), h.2.sublist (List.take_sublist k l)⟩
theorem votes_nil (n : Int) : votesOk [] n := ⟨(fun _ hx => by cases hx), List.Pairwise.nil⟩
theorem votes_step {l : List Int} {n : Int} {m : Nat} {x : Int} (hx : l[m]? = some x) (h : votesOk (l.take m) n) : votesOk (l.take (m + 1)) n ↔ inB x 1 n ∧ ∀ y, 0 < m → l[m - 1]? = some y → y < x := by
  have hm : m < l.length := (List.getElem?_eq_some_iff.1 hx).1
  have e : l.take (m + 1) = l.take m ++ [x] := by
    rw [List.take_add_one, hx]
    rfl
  rw [e]
  constructor
  · rintro ⟨h1, h2⟩
    refine ⟨h1 x (by simp), fun y h0 hy => ?_⟩
    rw [List.pairwise_append] at h2
    refine h2.2.2 y ?_ x (by simp)
    refine List.mem_of_getElem? (i := m - 1) ?_
    rw [List.getElem?_take_of_lt (by omega)]
    exact hy
  · rintro ⟨h1, h2⟩
    refine ⟨fun z hz => ?_, ?_⟩
    · rcases List.mem_append.1 hz with q | q
      · exact h.1 z q
      · simp at q; subst q; exact h1
    · rw [List.pairwise_append]
      refine ⟨h.2, List.pairwise_singleton _ _, fun a ha b hb => ?_⟩
      simp at hb
      subst hb
      obtain ⟨i, hi, rfl⟩ := List.getElem_of_mem ha
      rw [List.length_take] at hi
      have hl : l[m - 1]? = some (l[m - 1]'(by omega)) := List.getElem?_eq_getElem (by omega)
      have h3 := h2 _ (by omega) hl
      rw [List.getElem_take]
      by_cases e : i = m - 1
      · subst e; exact h3
      · have := List.pairwise_iff_getElem.1 h.2 i (m - 1) (by rw [List.length_take]; omega) (by rw [List.length_take]; omega) (by omega)
        simp only [List.getElem_take] at this
        exact Int.lt_trans this h3

end Go.Proofs.Ytiplnegiphhdlaa.Rf

namespace Go.Proofs.Ytiplnegiphhdlaa.R15
open Go.RowKit

def PostE (w : World) (z : Int) (e : Ending) (w' : World) : Prop := e = .returned (.int .i64 z) ∧ Below w.heap.size w w'
theorem PostE.of {w w' : World} {z y : Int} (h : y = z) (hb : Below w.heap.size w w') : PostE w y (.returned (.int .i64 z)) w' := ⟨by rw [h], hb⟩

set_option maxHeartbeats 8000000 in
set_option maxRecDepth 100000 in
theorem wrong_any (x : Rf.Node) (v : Array Value) (w : World) (hv : Nv w v x) (hsz : x.next.length + x.mtch.length ≤ 9223372036854775807) : Calls Try.prog 5 #[.agg v] w (PostE w (Rf.wrongN x)) := by
  obtain ⟨lv, vv, nv, mv, rfl, h2, h3, h4, h5⟩ := hv
  have H2 := hide h2
  have H3 := hide h3
  have H4 := hide h4
  have H5 := hide h5
  obtain ⟨la, LL, lc, rfl, hLL, _, _⟩ := SC.shp h2
  obtain ⟨va, VL, vc, rfl, hVL, _, _⟩ := SC.shp h3
  obtain ⟨na, NL, nc, rfl, hNL, _, _⟩ := SC.shp h4
  obtain ⟨ma, ML, mc, rfl, hML, _, _⟩ := SC.shp h5
  clear h2 h3 h4 h5
  have hsz' : NL + ML ≤ 9223372036854775807 := by rw [unhide hNL, unhide hML]; exact hsz
  clear hsz
  obtain ⟨id, n, term, vote, log, commit, role, boss, votes, next, mtch⟩ := x
  simp only at *
  have HB := hide (below_new w (.cells #[.int .i64 id, .int .i64 n, .int .i64 term, .int .i64 vote, .slice la LL lc, .int .i64 commit, .int .i64 role, .int .i64 boss, .slice va VL vc, .slice na NL nc, .slice ma ML mc] 25))
  obtain ⟨x, hx⟩ : ∃ x : Rf.Node, x = ⟨id, n, term, vote, log, commit, role, boss, votes, next, mtch⟩ := ⟨_, rfl⟩
  rw [← hx]
  go_enter Try.func5, Try.ntmps5
  go_wp2_with fail
  refine (within_any _ _ _ _).mono ?_
  rintro e w' ⟨rfl, rfl⟩
  by_cases r1 : Rf.inB n 1 5
  case neg =>
    have hd : decide (Rf.inB n 1 5) = false := decide_eq_false r1
    have hr : Hid (Rf.wrongN x = 3) := hide (Rf.wr_range (fun q => r1 (by rw [hx] at q; exact q.1)))
    clear r1 hx
    go_wp2
    go_ret
    exact PostE.of (unhide hr) (unhide HB)
  have d1 : decide (Rf.inB n 1 5) = true := decide_eq_true r1
  go_wp2_with fail
  refine (within_any _ _ _ _).mono ?_
  rintro e w' ⟨rfl, rfl⟩
  by_cases r2 : Rf.inB id 1 n
  case neg =>
    have hd : decide (Rf.inB id 1 n) = false := decide_eq_false r2
    have hr : Hid (Rf.wrongN x = 3) := hide (Rf.wr_range (fun q => r2 (by rw [hx] at q; exact q.2.1)))
    clear r2 hx
    go_wp2
    go_ret
    exact PostE.of (unhide hr) (unhide HB)
  have d2 : decide (Rf.inB id 1 n) = true := decide_eq_true r2
  go_wp2_with fail
  refine (within_any _ _ _ _).mono ?_
  rintro e w' ⟨rfl, rfl⟩
  by_cases r3 : Rf.inB vote 0 n
  case neg =>
    have hd : decide (Rf.inB vote 0 n) = false := decide_eq_false r3
    have hr : Hid (Rf.wrongN x = 3) := hide (Rf.wr_range (fun q => r3 (by rw [hx] at q; exact q.2.2.1)))
    clear r3 hx
    go_wp2
    go_ret
    exact PostE.of (unhide hr) (unhide HB)
  have d3 : decide (Rf.inB vote 0 n) = true := decide_eq_true r3
  go_wp2_with fail
  refine (within_any _ _ _ _).mono ?_
  rintro e w' ⟨rfl, rfl⟩
  by_cases r4 : Rf.inB boss 0 n
  case neg =>
    have hd : decide (Rf.inB boss 0 n) = false := decide_eq_false r4
    have hr : Hid (Rf.wrongN x = 3) := hide (Rf.wr_range (fun q => r4 (by rw [hx] at q; exact q.2.2.2.1)))
    clear r4 hx
    go_wp2
    go_ret
    exact PostE.of (unhide hr) (unhide HB)
  have d4 : decide (Rf.inB boss 0 n) = true := decide_eq_true r4
  go_wp2_with fail
  refine (within_any _ _ _ _).mono ?_
  rintro e w' ⟨rfl, rfl⟩
  by_cases r5 : Rf.inB term 0 1000000
  case neg =>
    have hd : decide (Rf.inB term 0 1000000) = false := decide_eq_false r5
    have hr : Hid (Rf.wrongN x = 3) := hide (Rf.wr_range (fun q => r5 (by rw [hx] at q; exact q.2.2.2.2.1)))
    clear r5 hx
    go_wp2
    go_ret
    exact PostE.of (unhide hr) (unhide HB)
  have d5 : decide (Rf.inB term 0 1000000) = true := decide_eq_true r5
  go_wp2_with fail
  refine (within_any _ _ _ _).mono ?_
  rintro e w' ⟨rfl, rfl⟩
  by_cases r6 : Rf.inB commit 0 (LL : Int)
  case neg =>
    have hd : decide (Rf.inB commit 0 (LL : Int)) = false := decide_eq_false r6
    have hr : Hid (Rf.wrongN x = 3) := hide (Rf.wr_range (fun q => r6 (by rw [hx] at q; rw [unhide hLL]; exact q.2.2.2.2.2)))
    clear r6 hx
    go_wp2
    go_ret
    exact PostE.of (unhide hr) (unhide HB)
  have d6 : decide (Rf.inB commit 0 (LL : Int)) = true := decide_eq_true r6
  have RR : Hid (Rf.rangeOk x) := hide (by rw [hx]; exact ⟨r1, r2, r3, r4, r5, by rw [unhide hLL] at r6; exact r6⟩)
  have hn5 := r1.2
  have hn1 := r1.1
  clear r1 r2 r3 r4 r5 r6
  have HX := hide (BK.new w 25 #[.int .i64 id, .int .i64 n, .int .i64 term, .int .i64 vote, .slice la LL lc, .int .i64 commit, .int .i64 role, .int .i64 boss, .slice va VL vc, .slice na NL nc, .slice ma ML mc])
  go_upto_region 3 with fail
  clear d1 d2 d3 d4 d5 d6
  go_cut [62] from 49 (fun c wx => c = .bool (decide (¬ Rf.inB role 1 3 ∨ term = 0 ∧ role ≠ 1)) ∧ Hid (BK wx w.heap.size 25 #[.int .i64 id, .int .i64 n, .int .i64 term, .int .i64 vote, .slice la LL lc, .int .i64 commit, .int .i64 role, .int .i64 boss, .slice va VL vc, .slice na NL nc, .slice ma ML mc]) ∧ Hid (Below w.heap.size w wx))
  case first =>
    clear RR hx
    go_wp2_with fail
    refine (within_any _ _ _ _).mono ?_
    rintro e w' ⟨rfl, rfl⟩
    by_cases s1 : Rf.inB role 1 3
    case neg =>
      have hd : decide (Rf.inB role 1 3) = false := decide_eq_false s1
      go_wp2_with fail
      go_meet
      case rel => exact ⟨by simp [s1], HX, HB⟩
    have e1 : decide (Rf.inB role 1 3) = true := decide_eq_true s1
    by_cases s2 : term = 0
    · subst s2
      by_cases s3 : 1 < role
      · go_wp2_with fail
        go_meet
        case rel => exact ⟨by have : ¬ role = 1 := by omega
                              simp [this], HX, HB⟩
      · have s4 : Hid (role = 1) := hide (by have := s1.1; omega)
        go_wp2_with fail
        go_meet
        case rel => exact ⟨by simp [unhide s4, Rf.inB], HX, HB⟩
    · go_wp2_with fail
      go_meet
      case rel => exact ⟨by simp [s1, s2], HX, HB⟩
  case rest =>
  clear HX HB
  obtain ⟨rfl, HX, HB⟩ := hcut
  by_cases SS : ¬ Rf.inB role 1 3 ∨ term = 0 ∧ role ≠ 1
  · have hd : decide (¬ Rf.inB role 1 3 ∨ term = 0 ∧ role ≠ 1) = true := decide_eq_true SS
    have hr : Hid (Rf.wrongN x = 1) := hide (Rf.wr_role (unhide RR) (by rw [hx]; exact SS))
    clear SS hx
    rw [hd]
    go_wp2
    go_ret
    exact PostE.of (unhide hr) (unhide HB)
  have hd : decide (¬ Rf.inB role 1 3 ∨ term = 0 ∧ role ≠ 1) = false := decide_eq_false SS
  rw [hd]
  have HSS : Hid (¬ (¬ Rf.inB x.role 1 3 ∨ x.term = 0 ∧ x.role ≠ 1)) := hide (by rw [hx]; exact SS)
  clear SS hd
  obtain ⟨c0, c1, c2, c3, c4, c5, c6, c7, c8, c9, c10⟩ := (show NX wc w.heap.size _ _ _ _ _ _ _ _ _ _ _ from unhide HX).tell
  by_cases l60 : 60 < LL
  · have l60' : (60 : Int) < (LL : Int) := by omega
    have hr : Hid (Rf.wrongN x = 4) := hide (Rf.wr_log (unhide RR) (unhide HSS) (by rw [hx]; rw [unhide hLL] at l60; exact l60))
    clear hx
    go_wp2
    go_ret
    exact PostE.of (unhide hr) (unhide HB)
  have l60' : ¬ (60 : Int) < (LL : Int) := by omega
  have CR := hide (rising_any log (.slice la LL lc) term wc (TV.keep (kept (unhide HB)) (unhide H2)))
  go_wp2_with fail
  with_reducible refine (unhide CR).mono ?_
  rintro e w2 ⟨rfl, hb⟩
  replace HX := hide ((unhide HX).keep hb)
  replace HB := hide (below_via (unhide HB) hb)
  clear c0 c1 c2 c3 c4 c5 c6 c7 c8 c9 c10 hb CR
  obtain ⟨c0, c1, c2, c3, c4, c5, c6, c7, c8, c9, c10⟩ := (show NX w2 w.heap.size _ _ _ _ _ _ _ _ _ _ _ from unhide HX).tell
  by_cases t1 : Rf.rises log term
  case neg =>
    have hd : decide (Rf.rises log term) = false := decide_eq_false t1
    have hr : Hid (Rf.wrongN x = 2) := hide (Rf.wr_rise (unhide RR) (unhide HSS) (by rw [hx]; rw [unhide hLL] at l60; exact l60) (by rw [hx]; exact t1))
    clear hx t1
    go_wp2
    go_ret
    exact PostE.of (unhide hr) (unhide HB)
  have hd : decide (Rf.rises log term) = true := decide_eq_true t1
  have SF : Hid (Rf.SoFar x) := hide ⟨unhide RR, unhide HSS, by rw [hx]; rw [unhide hLL] at l60; exact l60, by rw [hx]; exact t1⟩
  clear t1 RR HSS H2
  go_upto_region 9 with fail
  clear hd
  go_cut [81] from 73 (fun c wx => c = .bool (decide (role ≠ 2 ∧ 0 < VL)) ∧ wx = w2)
  case first =>
    clear SF hx HX HB
    by_cases s2 : role = 2
    · subst s2
      go_wp2_with fail
      go_meet
      case rel => exact ⟨by simp, rfl⟩
    · by_cases s3 : 0 < VL
      · have s3' : (0 : Int) < (VL : Int) := by omega
        go_wp2_with fail
        go_meet
        case rel => exact ⟨by simp [s2, s3], rfl⟩
      · have s3' : ¬ (0 : Int) < (VL : Int) := by omega
        go_wp2_with fail
        go_meet
        case rel => exact ⟨by simp [s3], rfl⟩
  case rest =>
  obtain ⟨rfl, rfl⟩ := hcut
  have hvl : Hid (0 < VL ↔ votes ≠ []) := hide (by rw [unhide hVL]; exact List.length_pos_iff)
  by_cases v1 : role ≠ 2 ∧ 0 < VL
  · have hd : decide (role ≠ 2 ∧ 0 < VL) = true := decide_eq_true v1
    have hr : Hid (Rf.wrongN x = 8) := hide (Rf.wr_novotes (unhide SF) (by rw [hx]; exact ⟨v1.1, (unhide hvl).1 v1.2⟩))
    clear hx v1
    rw [hd]
    go_wp2
    go_ret
    exact PostE.of (unhide hr) (unhide HB)
  have hd : decide (role ≠ 2 ∧ 0 < VL) = false := decide_eq_false v1
  rw [hd]
  have HV1 : Hid (¬ (x.role ≠ 2 ∧ x.votes ≠ [])) := hide (by rw [hx]; exact fun q => v1 ⟨q.1, (unhide hvl).2 q.2⟩)
  clear v1 hd hvl
  have HVr := hide (IV.keep (kept (unhide HB)) (unhide H3))
  go_wp2_with fail
  go_loopw [85] (fun i wr => ∃ m : Nat, m ≤ VL ∧ i = .int .i64 (m : Int) ∧ Hid (Rf.votesOk (votes.take m) n) ∧ wr = wc) (fun i _ => VL - (intOf i).toNat)
  case atStart => exact ⟨0, Nat.zero_le _, rfl, hide (Rf.votes_nil n), rfl⟩
  case round =>
    obtain ⟨m, hm, rfl, HR, rfl⟩ := hrel
    by_cases hlt : m < VL
    · have hi1 : (m : Int) < (VL : Int) := by omega
      have hlt2 : m < votes.length := by rw [← unhide hVL]; exact hlt
      obtain ⟨y, hy⟩ : ∃ y, votes[m]? = some y := ⟨_, List.getElem?_eq_getElem hlt2⟩
      have hne : votes ≠ [] := by intro e; rw [e] at hlt2; simp at hlt2
      obtain ⟨b, off, cap', e, hb, _, _⟩ := (unhide HVr).ex hne
      obtain ⟨rfl, _⟩ : va = some ⟨b, off, none⟩ ∧ True := by cases e; exact ⟨rfl, trivial⟩
      have q0 := (unhide HVr).at hy
      have HS := hide (Rf.votes_step hy (unhide HR))
      have hF : Hid (¬ Rf.votesOk (votes.take (m + 1)) n → Rf.wrongN x = 2) := hide (fun h => Rf.wr_votes (unhide SF) (unhide HV1) (by rw [hx]; exact fun q => h (Rf.votes_take q _)))
      have HN := hide (fun z (hz : votes[m - 1]? = some z) => (unhide HVr).at hz)
      clear e hb
      go_wp2_with fail
      refine (within_any _ _ _ _).mono ?_
      rintro e w' ⟨rfl, rfl⟩
      by_cases g1 : Rf.inB y 1 n
      case neg =>
        have hd : decide (Rf.inB y 1 n) = false := decide_eq_false g1
        have hr := hide (unhide hF (fun q => g1 ((unhide HS).1 q).1))
        clear hF HS HN HR hy hne hx
        go_wp2
        go_ret
        exact PostE.of (unhide hr) (unhide HB)
      have hd : decide (Rf.inB y 1 n) = true := decide_eq_true g1
      by_cases d3 : 0 < m
      · have d3' : 0 < (m : Int) := by omega
        obtain ⟨z, hz⟩ : ∃ z, votes[m - 1]? = some z := ⟨_, List.getElem?_eq_getElem (by omega)⟩
        have cz := unhide HN z hz
        have em : (m : Int) - 1 = ((m - 1 : Nat) : Int) := by omega
        have lm : ((m - 1 : Nat) : Int) < (VL : Int) := by omega
        have lm2 : m - 1 < VL := by omega
        have ew : IntKind.i64.wrap ((m - 1 : Nat) : Int) = ((m - 1 : Nat) : Int) := wrap_i64 (by omega) (by omega)
        by_cases d4 : y ≤ z
        · have hr := hide (unhide hF (fun q => absurd (((unhide HS).1 q).2 z d3 hz) (by omega)))
          clear hF HS HN HR hy hz hne hx d3
          go_wp2
          go_ret
          exact PostE.of (unhide hr) (unhide HB)
        · have h := hide ((unhide HS).2 ⟨g1, fun z' _ hz' => by rw [hz] at hz'; cases hz'; omega⟩)
          clear hF HS HN HR hy hz hne hx d3 g1
          go_wp2
          go_roundw
          case rel => exact ⟨m + 1, by omega, by go_num, h, trivial⟩
          case measure => simp [intOf]; omega
      · have d3' : ¬ 0 < (m : Int) := by omega
        have h := hide ((unhide HS).2 ⟨g1, fun z hz _ => absurd hz d3⟩)
        clear hF HS HN HR hy hne hx d3 g1
        go_wp2
        go_roundw
        case rel => exact ⟨m + 1, by omega, by go_num, h, trivial⟩
        case measure => simp [intOf]; omega
    · obtain rfl : m = VL := by omega
      have HVO : Hid (Rf.votesOk votes n) := hide (by have := unhide HR; rwa [unhide hVL, List.take_length] at this)
      clear HR HVr H3
      have HN9 := hide (IV.keep (kept (unhide HB)) (unhide H4))
      have HM9 := hide (IV.keep (kept (unhide HB)) (unhide H5))
      have ewl : IntKind.i64.wrap ((NL : Int) + (ML : Int)) = (NL : Int) + (ML : Int) := wrap_i64 (by omega) (by omega)
      go_upto_region 17 with fail
      go_cut [143] from 110 (fun c wx => c = .bool (decide (role = 3 ∧ ((NL : Int) ≠ n ∨ (ML : Int) ≠ n) ∨ role ≠ 3 ∧ 0 < NL + ML)) ∧ wx = wr)
      case first =>
        clear SF hx HX HB HV1 HVO HN9 HM9 hNL hML hVL hLL H4 H5
        by_cases s2 : role = 3
        · subst s2
          by_cases s3 : (NL : Int) = n
          · subst s3
            by_cases s4 : (ML : Int) = (NL : Int)
            · have s5 : ML = NL := by omega
              subst s5
              go_wp2_with fail
              go_meet
              case rel => exact ⟨by simp, rfl⟩
            · go_wp2_with fail
              go_meet
              case rel => exact ⟨by simp [s4], rfl⟩
          · go_wp2_with fail
            go_meet
            case rel => exact ⟨by simp [s3], rfl⟩
        · by_cases s3 : 0 < NL + ML
          · have s3' : (0 : Int) < (NL : Int) + (ML : Int) := by omega
            go_wp2_with fail
            go_meet
            case rel => exact ⟨by rw [decide_eq_true (p := role = 3 ∧ ((NL : Int) ≠ n ∨ (ML : Int) ≠ n) ∨ role ≠ 3 ∧ 0 < NL + ML) (.inr ⟨s2, s3⟩)]; simp [s2], rfl⟩
          · have s3' : ¬ (0 : Int) < (NL : Int) + (ML : Int) := by omega
            go_wp2_with fail
            go_meet
            case rel => exact ⟨by rw [decide_eq_false (p := role = 3 ∧ ((NL : Int) ≠ n ∨ (ML : Int) ≠ n) ∨ role ≠ 3 ∧ 0 < NL + ML) (fun q => q.elim (fun q => s2 q.1) (fun q => s3 q.2))], rfl⟩
      case rest =>
      obtain ⟨rfl, rfl⟩ := hcut
      have hlens : Hid (Rf.lensOk x ↔ ¬ (role = 3 ∧ ((NL : Int) ≠ n ∨ (ML : Int) ≠ n) ∨ role ≠ 3 ∧ 0 < NL + ML)) := hide (by
        rw [hx, Rf.lensOk, unhide hNL, unhide hML]
        simp only
        by_cases s2 : role = 3
        · rw [if_pos s2]
          constructor
          · rintro ⟨a, b⟩ (⟨_, q | q⟩ | ⟨q, _⟩)
            · exact q a
            · exact q b
            · exact q s2
          · intro h
            exact ⟨Classical.byContradiction fun q => h (.inl ⟨s2, .inl q⟩), Classical.byContradiction fun q => h (.inl ⟨s2, .inr q⟩)⟩
        · rw [if_neg s2, ← List.length_eq_zero_iff, ← List.length_eq_zero_iff]
          constructor
          · rintro ⟨a, b⟩ (⟨q, _⟩ | ⟨_, q⟩)
            · exact s2 q
            · omega
          · intro h
            have : ¬ 0 < next.length + mtch.length := fun q => h (.inr ⟨s2, q⟩)
            omega)
      by_cases BAD : role = 3 ∧ ((NL : Int) ≠ n ∨ (ML : Int) ≠ n) ∨ role ≠ 3 ∧ 0 < NL + ML
      · have hd := decide_eq_true BAD
        have hr : Hid (Rf.wrongN x = 8) := hide (Rf.wr_lens (unhide SF) (unhide HV1) (by rw [hx]; exact unhide HVO) (fun q => (unhide hlens).1 q BAD))
        clear hx BAD
        rw [hd]
        go_wp2
        go_ret
        exact PostE.of (unhide hr) (unhide HB)
      have hd := decide_eq_false BAD
      rw [hd]
      have HL := hide ((unhide hlens).2 BAD)
      have hNM : NL = ML := by
        by_cases s2 : role = 3
        · by_cases q : (NL : Int) = n
          · by_cases q2 : (ML : Int) = n
            · omega
            · exact absurd (.inl ⟨s2, .inr q2⟩) BAD
          · exact absurd (.inl ⟨s2, .inl q⟩) BAD
        · have : ¬ 0 < NL + ML := fun q => BAD (.inr ⟨s2, q⟩)
          omega
      have HNM := hide hNM
      clear BAD hd hlens hNM ewl hsz' H4 H5
      have ew2 : IntKind.i64.wrap ((LL : Int) + 1) = (LL : Int) + 1 := wrap_i64 (by omega) (by omega)
      go_wp2_with fail
      go_loopw [147] (fun i wr => ∃ m : Nat, m ≤ NL ∧ i = .int .i64 (m : Int) ∧ Hid (∀ j y z, j < m → next[j]? = some y → mtch[j]? = some z → Rf.inB y 1 ((LL : Int) + 1) ∧ Rf.inB z 0 (LL : Int)) ∧ Hid (Below wc.heap.size wc wr)) (fun i _ => NL - (intOf i).toNat)
      case atStart => exact ⟨0, Nat.zero_le _, rfl, hide (fun j y z h => absurd h (by omega)), hide (Below.refl _ _)⟩
      case round =>
        obtain ⟨m, hm, rfl, HR, HW⟩ := hrel
        clear c0 c1 c2 c3 c4 c5 c6 c7 c8 c9 c10
        obtain ⟨c0, c1, c2, c3, c4, c5, c6, c7, c8, c9, c10⟩ := (show NX wr w.heap.size _ _ _ _ _ _ _ _ _ _ _ from (unhide HX).keep (unhide HW)).tell
        have HB4 := hide (below_via (unhide HB) (unhide HW))
        by_cases hlt : m < NL
        · have hi1 : (m : Int) < (NL : Int) := by omega
          have hlt2 : m < next.length := by rw [← unhide hNL]; exact hlt
          have hlt3 : m < mtch.length := by rw [← unhide hML, ← unhide HNM]; exact hlt
          have hi2 : (m : Int) < (ML : Int) := by rw [← unhide HNM]; exact hi1
          have hi3 : m < ML := by rw [← unhide HNM]; exact hlt
          obtain ⟨y, hy⟩ : ∃ y, next[m]? = some y := ⟨_, List.getElem?_eq_getElem hlt2⟩
          obtain ⟨z, hz⟩ : ∃ z, mtch[m]? = some z := ⟨_, List.getElem?_eq_getElem hlt3⟩
          have hne : next ≠ [] := by intro e; rw [e] at hlt2; simp at hlt2
          have hne2 : mtch ≠ [] := by intro e; rw [e] at hlt3; simp at hlt3
          obtain ⟨b, off, cap', e, _, _, _⟩ := (unhide HN9).ex hne
          obtain rfl : na = some ⟨b, off, none⟩ := by cases e; rfl
          obtain ⟨b2, off2, cap2, e', _, _, _⟩ := (unhide HM9).ex hne2
          obtain rfl : ma = some ⟨b2, off2, none⟩ := by cases e'; rfl
          have q0 := (IV.keep (kept (unhide HW)) (unhide HN9)).at hy
          have q1 := (IV.keep (kept (unhide HW)) (unhide HM9)).at hz
          have hF : Hid (¬ (Rf.inB y 1 ((LL : Int) + 1) ∧ Rf.inB z 0 (LL : Int)) → Rf.wrongN x = 3) := hide (fun h => Rf.wr_places (unhide SF) (unhide HV1) (by rw [hx]; exact unhide HVO) (unhide HL) (by
            rw [hx]
            rintro ⟨p1, p2⟩
            have k1 := p1 y (List.mem_of_getElem? hy)
            have k2 := p2 z (List.mem_of_getElem? hz)
            simp only at k1 k2
            rw [← unhide hLL] at k1 k2
            exact h ⟨k1, k2⟩))
          clear e e' hlt2 hlt3
          by_cases g1 : Rf.inB y 1 ((LL : Int) + 1)
          case neg =>
            have b1 : decide (Rf.inB y 1 ((LL : Int) + 1)) = false := decide_eq_false g1
            have hr := hide (unhide hF (fun q => g1 q.1))
            clear hF HR hy hz hne hne2 hx g1
            go_wp2_with fail
            go_quiet ((go_at_call 22; exact Calls.quiet_of_same (within_any _ _ _ _)))
            go_wp2
            go_ret
            exact PostE.of (unhide hr) (below_drewN (unhide HB4) _)
          have b1 : decide (Rf.inB y 1 ((LL : Int) + 1)) = true := decide_eq_true g1
          by_cases g2 : Rf.inB z 0 (LL : Int)
          case neg =>
            have b2 : decide (Rf.inB z 0 (LL : Int)) = false := decide_eq_false g2
            have hr := hide (unhide hF (fun q => g2 q.2))
            clear hF HR hy hz hne hne2 hx g1 g2
            go_wp2_with fail
            go_quiet ((go_at_call 22; exact Calls.quiet_of_same (within_any _ _ _ _)))
            go_wp2
            go_ret
            exact PostE.of (unhide hr) (below_drewN (unhide HB4) _)
          have b2' : decide (Rf.inB z 0 (LL : Int)) = true := decide_eq_true g2
          have HR2 : Hid (∀ j y z, j < m + 1 → next[j]? = some y → mtch[j]? = some z → Rf.inB y 1 ((LL : Int) + 1) ∧ Rf.inB z 0 (LL : Int)) := hide (fun j y' z' hj h1 h2 => by
            by_cases e : j = m
            · subst e
              rw [hy] at h1
              rw [hz] at h2
              cases h1
              cases h2
              exact ⟨g1, g2⟩
            · exact unhide HR j y' z' (by omega) h1 h2)
          clear hF HR hy hz hne hne2 hx g1 g2
          go_wp2_with fail
          go_quiet ((go_at_call 22; exact Calls.quiet_of_same (within_any _ _ _ _)))
          go_wp2
          go_roundw
          case rel => exact ⟨m + 1, by omega, by go_num, HR2, hide (below_drewN (unhide HW) _)⟩
          case measure => simp [intOf]; omega
        · obtain rfl : m = NL := by omega
          have hr : Hid (Rf.wrongN x = 0) := hide (Rf.wr_ok (unhide SF) (unhide HV1) (by rw [hx]; exact unhide HVO) (unhide HL) (by
            rw [hx]
            have hl1 : next.length = m := (unhide hNL).symm
            have hl2 : mtch.length = m := by rw [← unhide hML, ← unhide HNM]
            constructor
            · intro v hv
              obtain ⟨j, hj, rfl⟩ := List.getElem_of_mem hv
              have := (unhide HR j _ _ (by simp only at hj; omega) (List.getElem?_eq_getElem hj) (List.getElem?_eq_getElem (by simp only at hj; omega))).1
              simp only
              rw [← unhide hLL]
              exact this
            · intro v hv
              obtain ⟨j, hj, rfl⟩ := List.getElem_of_mem hv
              have := (unhide HR j _ _ (by simp only at hj; omega) (List.getElem?_eq_getElem (by simp only at hj; omega)) (List.getElem?_eq_getElem hj)).2
              simp only
              rw [← unhide hLL]
              exact this))
          clear hx
          go_wp2
          go_ret
          exact PostE.of (unhide hr) (unhide HB4)

end Go.Proofs.Ytiplnegiphhdlaa.R15
