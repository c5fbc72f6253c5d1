/- Walks: count (raft). Written by gen_nq3.py. -/
import Derived.Test.YtneepoaimbnneaaNM2
import Derived.Test.YtneepoaimbnneaaNQ0
import Derived.Test.YtneepoaimbnneaaNQ2
namespace Go.Proofs.Ytneepoaimbnneaa.RW
open Go.RowKit

set_option maxHeartbeats 8000000 in
set_option maxRecDepth 100000 in
theorem count_any (B p : Nat) (x : Rf.Node) (o : Own) (m : Rf.Msg) (g : Array Value) (w : World) (hk : WK B w p x [] o) (hg : Gv w g m) (hR : Rf.Right x) (hf : Rf.inB m.frm 1 x.n) :
    Calls Try.prog 53 #[.pointer (some ⟨p, 0, none⟩), .agg g] w (PW B p o w (Rf.onVoted x m).1 (Rf.onVoted x m).2) := by
  obtain ⟨iv, rfl, hit⟩ := hg
  obtain ⟨ia, IL, ic, rfl, hIL, hic, _⟩ := SC.shp hit
  have HK := hide hk
  have HIT := hide hit
  have HX := hide (BK.new w 40 #[.int .i64 m.kind, .int .i64 m.frm, .int .i64 m.dest, .int .i64 m.term, .int .i64 m.index, .int .i64 m.logTerm, .int .i64 m.commit, .slice ia IL ic, .bool m.yes])
  have HBn := hide (below_new w (.cells #[.int .i64 m.kind, .int .i64 m.frm, .int .i64 m.dest, .int .i64 m.term, .int .i64 m.index, .int .i64 m.logTerm, .int .i64 m.commit, .slice ia IL ic, .bool m.yes] 40))
  have HFb : Hid (Free p o w.heap.size) := hide (hk.newFree (Nat.le_refl _))
  have HR := hide hR
  have HI := hide hf
  have hvl : x.votes.length ≤ 1000 := by
    have h1 := Rf.voters_in
    have hv := hR.votes
    have hsub : x.votes.length ≤ x.n.toNat := by
      have e : Rf.voters { x with votes := x.votes } m.frm = Rf.voters x m.frm := rfl
      have hl : (Rf.voters x m.frm).length ≤ x.n.toNat := by
        unfold Rf.voters
        refine Nat.le_trans (List.length_filter_le _ _) ?_
        rw [List.length_map, List.length_range]; exact Nat.le_refl _
      by_cases q : m.frm ∈ x.votes
      · rw [Rf.voters_in x hv hf q] at hl; exact hl
      · rw [Rf.voters_put x hv hf q] at hl
        simp only [List.length_append, List.length_cons, List.length_take, List.length_drop] at hl
        omega
    have := hR.n.2
    omega
  have Hvl := hide hvl
  clear hk hit hR hf hvl
  go_enter Try.func53, Try.ntmps53
  go_upto_region 1 with fail
  generalize w.alloc (.cells #[.int .i64 m.kind, .int .i64 m.frm, .int .i64 m.dest, .int .i64 m.term, .int .i64 m.index, .int .i64 m.logTerm, .int .i64 m.commit, .slice ia IL ic, .bool m.yes] 40) = w1 at HX HBn ⊢
  have HK1 := hide ((unhide HK).below (unhide HBn))
  have HF1 := hide (Fr.below (p := p) (o := o) (unhide HBn) (unhide HK).szB)
  generalize hbx : w.heap.size = bx at HX HFb ⊢
  clear hbx
  obtain ⟨la, LL, lc, va, VL, vc, na, NL, nc, ma, ML, mc, sa, SL, sc, HE, hLL, hVL, hNL, hML, hSL, ⟨r1, r2, r3, r4⟩, ⟨c0, c1, c2, c3, c4, c5, c6, c7, c8, c9, c10, c11⟩, ⟨f0, f1, f2, f3, f4, f5, f6, f7, f8, f9, f10, f11⟩⟩ := (unhide HK1).tell
  obtain ⟨g0, g1, g2, g3, g4, g5, g6, g7, g8⟩ := (show GX w1 bx _ _ _ _ _ _ _ _ _ from unhide HX).tell
  have hp := (unhide HK1).lo
  have hbl := (unhide HX).low
  by_cases t1 : x.role = 2
  rotate_left
  · have e1 : (x.role != 2) = true := by simpa using t1
    have EO : Hid (Rf.onVoted x m = (x, [])) := hide (by rw [Rf.onVoted, if_pos (.inl t1)])
    clear t1
    go_quiet (fail)
    go_wp2
    ((try simp only [Exit.inBlock, Exit.then]); refine bodyPost_ret (results_none rfl _ _ _) rfl ?_)
    rw [unhide EO]
    exact ⟨rfl, _, (unhide HK1).drewN _, (unhide HF1).drewN _⟩
  have e1 : (x.role != 2) = false := by simpa using t1
  by_cases t2 : m.term = x.term
  rotate_left
  · have e2 : (m.term != x.term) = true := by simpa using t2
    have EO : Hid (Rf.onVoted x m = (x, [])) := hide (by rw [Rf.onVoted, if_pos (.inr (.inl t2))])
    clear t1 t2
    go_quiet (fail)
    go_wp2
    ((try simp only [Exit.inBlock, Exit.then]); refine bodyPost_ret (results_none rfl _ _ _) rfl ?_)
    rw [unhide EO]
    exact ⟨rfl, _, (unhide HK1).drewN _, (unhide HF1).drewN _⟩
  have e2 : (m.term != x.term) = false := by simpa using t2
  by_cases t3 : m.yes = true
  rotate_left
  · have t3' : m.yes = false := by cases h : m.yes; rfl; exact absurd h t3
    have EO : Hid (Rf.onVoted x m = (x, [])) := hide (by rw [Rf.onVoted, if_pos (.inr (.inr t3'))])
    have g8' : w1.cell? ⟨bx, 8, none⟩ = some (.bool false) := g8.trans (by rw [t3'])
    clear t1 t2 t3 t3' g8
    go_quiet (fail)
    go_wp2
    ((try simp only [Exit.inBlock, Exit.then]); refine bodyPost_ret (results_none rfl _ _ _) rfl ?_)
    rw [unhide EO]
    exact ⟨rfl, _, (unhide HK1).drewN _, (unhide HF1).drewN _⟩
  have g8' : w1.cell? ⟨bx, 8, none⟩ = some (.bool true) := g8.trans (by rw [t3])
  have EO : Hid (Rf.onVoted x m = Rf.elect { x with votes := Rf.voters x m.frm }) := hide (by rw [Rf.onVoted, if_neg]; rintro (q | q | q); exact q t1; exact q t2; rw [t3] at q; cases q)
  have HT1 := hide t1
  have RV := hide (Rf.right_voters (unhide HR) t1 m.frm)
  clear t1 t2 t3 g8
  go_quiet (fail)
  go_upto_region 2 with fail
  have HK2 := hide ((unhide HK1).drewN nq)
  have HF2 := hide ((unhide HF1).drewN nq)
  have HX2 : Hid (BK (w1.drewN nq) bx 40 #[.int .i64 m.kind, .int .i64 m.frm, .int .i64 m.dest, .int .i64 m.term, .int .i64 m.index, .int .i64 m.logTerm, .int .i64 m.commit, .slice ia IL ic, .bool m.yes]) := HX
  generalize w1.drewN nq = w2 at HK2 HF2 HX2 ⊢
  clear HE hLL hVL hNL hML hSL hp hbl HK1 HF1 HX g0 g1 g2 g3 g4 g5 g6 g7 g8' c0 c1 c2 c3 c4 c5 c6 c7 c8 c9 c10 c11 f0 f1 f2 f3 f4 f5 f6 f7 f8 f9 f10 f11 r1 r2 r3 r4
  obtain ⟨la, LL, lc, va, VL, vc, na, NL, nc, ma, ML, mc, sa, SL, sc, HE, hLL, hVL, hNL, hML, hSL, ⟨r1, r2, r3, r4⟩, ⟨c0, c1, c2, c3, c4, c5, c6, c7, c8, c9, c10, c11⟩, ⟨f0, f1, f2, f3, f4, f5, f6, f7, f8, f9, f10, f11⟩⟩ := (unhide HK2).tell
  obtain ⟨g0, g1, g2, g3, g4, g5, g6, g7, g8⟩ := (show GX w2 bx _ _ _ _ _ _ _ _ _ from unhide HX2).tell
  have hp := (unhide HK2).lo
  have hbl := (unhide HX2).low
  have CB : Hid (Calls Try.prog 66 #[.slice va VL vc, .int .i64 m.frm] w2.drew fun e w' => e = .returned (.tuple #[.int .i64 ((x.votes.countP (· < m.frm) : Nat) : Int), .bool (decide (m.frm ∈ x.votes))]) ∧ Hid (WK B w' p x [] o) ∧ Hid (Fr B p o w o w') ∧ Hid (BK w' bx 40 #[.int .i64 m.kind, .int .i64 m.frm, .int .i64 m.dest, .int .i64 m.term, .int .i64 m.index, .int .i64 m.logTerm, .int .i64 m.commit, .slice ia IL ic, .bool m.yes])) := hide (by
    refine (search_any B x.votes (.slice va VL vc) m.frm w2.drew (by have := (unhide HK2).votes; rw [(unhide HE).2.1] at this; exact this) ((unhide HR).votes.2.imp (fun h => by omega)) (unhide Hvl)).mono ?_
    rintro e w' ⟨rfl, q, rfl⟩
    exact ⟨rfl, hide ((unhide HK2).drew.drewN q), hide ((unhide HF2).drew.drewN q), HX2⟩)
  obtain ⟨A, hA⟩ : ∃ A : Nat, A = x.votes.countP (· < m.frm) := ⟨_, rfl⟩
  rw [← hA] at CB
  have HA := hide hA
  clear hA
  by_cases hin : m.frm ∈ x.votes
  · have di : decide (m.frm ∈ x.votes) = true := decide_eq_true hin
    rw [di] at CB
    have EV : Hid (Rf.voters x m.frm = x.votes) := hide (Rf.voters_in x (unhide HR).votes (unhide HI) hin)
    clear hin di
    go_region_with ((go_at_call 66; refine (unhide CB).mono ?_; rintro e w3 ⟨rfl, HK3, HF3, HX3⟩))
    all_goals
      have CL := hide (lead_any B p x [] o w3 (unhide HK3) (unhide HR) (unhide HT1) (by simp))
      go_wp2_with (go_at_call 50; refine (unhide CL).mono ?_; rintro e w4 ⟨rfl, o4, hK4, hF4⟩)
      have FIN := hide (And.intro hK4 ((unhide HF3).trans hF4))
      clear hK4 hF4 CL
      go_end0
      rw [unhide EO, unhide EV]
      rw [List.nil_append] at FIN
      exact ⟨rfl, _, (unhide FIN).1, (unhide FIN).2⟩
  have di : decide (m.frm ∈ x.votes) = false := decide_eq_false hin
  rw [di] at CB
  have EV : Hid (Rf.voters x m.frm = x.votes.take A ++ m.frm :: x.votes.drop A) := hide (by rw [unhide HA]; exact Rf.voters_put x (unhide HR).votes (unhide HI) hin)
  have hAl : Hid (A ≤ x.votes.length) := hide (by rw [unhide HA]; exact List.countP_le_length)
  clear hin di
  go_region_with ((go_at_call 66; refine (unhide CB).mono ?_; rintro e w3 ⟨rfl, HK3, HF3, HX3⟩))
  all_goals
    go_upto_region 4 with fail
    clear HE hLL hVL hNL hML hSL hp hbl CB HK2 HF2 HX2 g0 g1 g2 g3 g4 g5 g6 g7 g8 c0 c1 c2 c3 c4 c5 c6 c7 c8 c9 c10 c11 f0 f1 f2 f3 f4 f5 f6 f7 f8 f9 f10 f11 r1 r2 r3 r4
    obtain ⟨la, LL, lc, va, VL, vc, na, NL, nc, ma, ML, mc, sa, SL, sc, HE, hLL, hVL, hNL, hML, hSL, ⟨r1, r2, r3, r4⟩, ⟨c0, c1, c2, c3, c4, c5, c6, c7, c8, c9, c10, c11⟩, ⟨f0, f1, f2, f3, f4, f5, f6, f7, f8, f9, f10, f11⟩⟩ := (unhide HK3).tell
    obtain ⟨g0, g1, g2, g3, g4, g5, g6, g7, g8⟩ := (show GX w3 bx _ _ _ _ _ _ _ _ _ from unhide HX3).tell
    have hp := (unhide HK3).lo
    have hbl := (unhide HX3).low
    have CI : Hid (Calls Try.prog 67 #[.slice va VL vc, .int .i64 (A : Int), .slice (some ⟨w3.heap.size, 0, none⟩) 1 1] (w3.alloc (.cells #[.int .i64 m.frm] 3)).drew fun e wR => ∃ ra RL rc, e = .returned (.slice ra RL rc) ∧ wR.cell? ⟨p, 8, none⟩ = some (.slice va VL vc) ∧ wR.cell? ⟨bx, 1, none⟩ = some (.int .i64 m.frm) ∧ wR.frozen? ⟨p, 8, none⟩ = false ∧ p < wR.heap.size ∧ Hid (WK B (wR.setCell ⟨p, 8, none⟩ (.slice ra RL rc)) p { x with votes := Rf.voters x m.frm } [] { o with v := .slice ra RL rc } ∧ Fr B p o w { o with v := .slice ra RL rc } (wR.setCell ⟨p, 8, none⟩ (.slice ra RL rc)))) := hide (by
      have hb1 : Below w3.heap.size w3 (w3.alloc (.cells #[.int .i64 m.frm] 3)).drew := (below_new w3 (.cells #[.int .i64 m.frm] 3)).drew
      have hv3 := (unhide HK3).votes
      have hno : o.v.ownBlock ≠ some w3.heap.size := fun e => by have := (World.ownsRow.lt hv3 _ e).2; omega
      have hv4 := own_below hv3 hb1
      rw [(unhide HE).2.1] at hv4 hno
      refine (insert_any B x.votes (.slice va VL vc) A m.frm w3.heap.size (w3.alloc (.cells #[.int .i64 m.frm] 3)).drew hv4 (unhide hAl) (unhide Hvl) (BK.new w3 3 #[.int .i64 m.frm]) hno (Nat.le_trans (unhide HK3).szB hb1.size)).mono ?_
      rintro e wR ⟨v', rfl, ho, hgr, hat⟩
      obtain ⟨ra, RL, rc, rfl, _, _, _⟩ := SC.shp (SC.own ho)
      have hgr' : w3.grownBy wR o.v.ownBlock := by rw [(unhide HE).2.1]; exact grown_trans (grown_below' hb1 _) hgr
      have S := (unhide HK3).setV (v' := .slice ra RL rc) (L := Rf.voters x m.frm) (w1 := wR) hgr' (by rw [unhide EV]; exact ho) (by
        rcases hat with e | e
        · exact .inl (by rw [(unhide HE).2.1]; exact e)
        · refine .inr fun k hk => ?_
          rw [e] at hk
          cases hk
          exact hb1.size)
      have bp : BK wR p 75 (workC x o) := (hgr'.block p hp (fun e => (unhide HK3).ap.pv e.symm)).trans (unhide HK3).blk
      have hxf : BK wR bx 40 #[.int .i64 m.kind, .int .i64 m.frm, .int .i64 m.dest, .int .i64 m.term, .int .i64 m.index, .int .i64 m.logTerm, .int .i64 m.commit, .slice ia IL ic, .bool m.yes] := (hgr'.block bx hbl (fun e => (unhide HFb).2.2.1 e.symm)).trans (unhide HX3)
      exact ⟨ra, RL, rc, rfl, (bp.at (j := 8) rfl).trans (congrArg some (unhide HE).2.1), hxf.at (j := 1) rfl, bp.thaw 8, bp.low, hide ⟨S.1, (unhide HF3).trans S.2⟩⟩)
    go_region_with ((go_at_call 67; refine (unhide CI).mono ?_; rintro e wR ⟨ra, RL, rc, rfl, k8, k1, f8', pR, FI⟩))
    all_goals
      have CL := hide (lead_any B p { x with votes := Rf.voters x m.frm } [] _ _ (unhide FI).1 (unhide RV) (unhide HT1) (by simp))
      have HF5 := hide (unhide FI).2
      go_upto_region 5 with fail
      generalize World.setCell wR ⟨p, 8, none⟩ (.slice ra RL rc) = w5 at CL HF5 ⊢
      go_wp2_with (go_at_call 50; refine (unhide CL).mono ?_; rintro e w6 ⟨rfl, o6, hK6, hF6⟩)
      have FIN := hide (And.intro hK6 ((unhide HF5).trans hF6))
      clear hK6 hF6 CL
      go_end0
      rw [unhide EO]
      rw [List.nil_append] at FIN
      exact ⟨rfl, _, (unhide FIN).1, (unhide FIN).2⟩

end Go.Proofs.Ytneepoaimbnneaa.RW
