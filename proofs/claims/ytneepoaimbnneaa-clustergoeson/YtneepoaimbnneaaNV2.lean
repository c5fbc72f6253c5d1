/- Walks: Receive (raft), a kind of message. Written by gen_nv.py. -/
import Derived.Test.YtneepoaimbnneaaNV0
namespace Go.Proofs.Ytneepoaimbnneaa.RW
open Go.RowKit

set_option maxHeartbeats 16000000 in
set_option maxRecDepth 100000 in
theorem receive_count (HD : Heeds) (P : Nat → Prop) (x : Rf.Node) (m : Rf.Msg) (v g : Array Value) (w : World) (hv : NV P w v x) (hg : GV P w g m) (hP : ∀ b, P b → b < w.heap.size) (hfit : FitN x) (hbig : m.items.length ≤ 4611686018427387904) (hs : Rf.wrongN x = 0) (hkd : m.kind = 2) : Calls Try.prog 35 #[.agg v, .agg g] w (PNM P w (Rf.receive x m)) := by
  have HS := hide hs
  have HKd := hide hkd
  clear hs hkd
  obtain ⟨iv, rfl, hit⟩ := hg
  obtain ⟨ia, IL, ic, rfl, hIL, _, _⟩ := SC.shp hit
  have HIT := hide hit
  have HBig := hide hbig
  clear hit hbig
  obtain ⟨lv, vv, nv, mv, rfl, h2, h3, h4, h5⟩ := hv
  obtain ⟨la, LL, lc, rfl, hLL, _, _⟩ := SC.shp h2
  obtain ⟨va, VL, vc, rfl, hVL, _, _⟩ := SC.shp h3
  obtain ⟨na, NL, nc, rfl, hNL, _, _⟩ := SC.shp h4
  obtain ⟨ma, ML, mc, rfl, hML, _, _⟩ := SC.shp h5
  have HV : Hid (NV P w #[.int .i64 x.id, .int .i64 x.n, .int .i64 x.term, .int .i64 x.vote, .slice la LL lc, .int .i64 x.commit, .int .i64 x.role, .int .i64 x.boss, .slice va VL vc, .slice na NL nc, .slice ma ML mc] x) := hide ⟨_, _, _, _, rfl, h2, h3, h4, h5⟩
  have HP := hide hP
  have HFt := hide hfit
  clear h2 h3 h4 h5 hP hfit
  have HB0 : Hid (Below w.heap.size w (((w.alloc (.cells #[.int .i64 x.id, .int .i64 x.n, .int .i64 x.term, .int .i64 x.vote, .slice la LL lc, .int .i64 x.commit, .int .i64 x.role, .int .i64 x.boss, .slice va VL vc, .slice na NL nc, .slice ma ML mc] 34)).alloc (.cells #[.int .i64 m.kind, .int .i64 m.frm, .int .i64 m.dest, .int .i64 m.term, .int .i64 m.index, .int .i64 m.logTerm, .int .i64 m.commit, .slice ia IL ic, .bool m.yes] 40)).alloc (.cells #[.int .i64 0, .int .i64 0, .int .i64 0, .int .i64 0, .slice none 0 0, .int .i64 0, .int .i64 0, .int .i64 0, .slice none 0 0, .slice none 0 0, .slice none 0 0] 34))) := hide (((below_new w _).alloc (by simp) _).alloc (by simp; omega) _)
  have HC0 : Hid (BK (((w.alloc (.cells #[.int .i64 x.id, .int .i64 x.n, .int .i64 x.term, .int .i64 x.vote, .slice la LL lc, .int .i64 x.commit, .int .i64 x.role, .int .i64 x.boss, .slice va VL vc, .slice na NL nc, .slice ma ML mc] 34)).alloc (.cells #[.int .i64 m.kind, .int .i64 m.frm, .int .i64 m.dest, .int .i64 m.term, .int .i64 m.index, .int .i64 m.logTerm, .int .i64 m.commit, .slice ia IL ic, .bool m.yes] 40)).alloc (.cells #[.int .i64 0, .int .i64 0, .int .i64 0, .int .i64 0, .slice none 0 0, .int .i64 0, .int .i64 0, .int .i64 0, .slice none 0 0, .slice none 0 0, .slice none 0 0] 34)) w.heap.size 34 #[.int .i64 x.id, .int .i64 x.n, .int .i64 x.term, .int .i64 x.vote, .slice la LL lc, .int .i64 x.commit, .int .i64 x.role, .int .i64 x.boss, .slice va VL vc, .slice na NL nc, .slice ma ML mc]) := hide (((BK.new w 34 #[.int .i64 x.id, .int .i64 x.n, .int .i64 x.term, .int .i64 x.vote, .slice la LL lc, .int .i64 x.commit, .int .i64 x.role, .int .i64 x.boss, .slice va VL vc, .slice na NL nc, .slice ma ML mc]).keep (below_new _ _)).keep (below_new _ _))
  have HM0 : Hid (BK (((w.alloc (.cells #[.int .i64 x.id, .int .i64 x.n, .int .i64 x.term, .int .i64 x.vote, .slice la LL lc, .int .i64 x.commit, .int .i64 x.role, .int .i64 x.boss, .slice va VL vc, .slice na NL nc, .slice ma ML mc] 34)).alloc (.cells #[.int .i64 m.kind, .int .i64 m.frm, .int .i64 m.dest, .int .i64 m.term, .int .i64 m.index, .int .i64 m.logTerm, .int .i64 m.commit, .slice ia IL ic, .bool m.yes] 40)).alloc (.cells #[.int .i64 0, .int .i64 0, .int .i64 0, .int .i64 0, .slice none 0 0, .int .i64 0, .int .i64 0, .int .i64 0, .slice none 0 0, .slice none 0 0, .slice none 0 0] 34)) (w.heap.size + 1) 40 #[.int .i64 m.kind, .int .i64 m.frm, .int .i64 m.dest, .int .i64 m.term, .int .i64 m.index, .int .i64 m.logTerm, .int .i64 m.commit, .slice ia IL ic, .bool m.yes]) := hide (by
    have := (BK.new (w.alloc (.cells #[.int .i64 x.id, .int .i64 x.n, .int .i64 x.term, .int .i64 x.vote, .slice la LL lc, .int .i64 x.commit, .int .i64 x.role, .int .i64 x.boss, .slice va VL vc, .slice na NL nc, .slice ma ML mc] 34)) 40 #[.int .i64 m.kind, .int .i64 m.frm, .int .i64 m.dest, .int .i64 m.term, .int .i64 m.index, .int .i64 m.logTerm, .int .i64 m.commit, .slice ia IL ic, .bool m.yes]).keep (below_new _ (.cells #[.int .i64 0, .int .i64 0, .int .i64 0, .int .i64 0, .slice none 0 0, .int .i64 0, .int .i64 0, .int .i64 0, .slice none 0 0, .slice none 0 0, .slice none 0 0] 34))
    rwa [show (w.alloc (.cells #[.int .i64 x.id, .int .i64 x.n, .int .i64 x.term, .int .i64 x.vote, .slice la LL lc, .int .i64 x.commit, .int .i64 x.role, .int .i64 x.boss, .slice va VL vc, .slice na NL nc, .slice ma ML mc] 34)).heap.size = w.heap.size + 1 by simp] at this)
  have HZ0 : Hid (BK (((w.alloc (.cells #[.int .i64 x.id, .int .i64 x.n, .int .i64 x.term, .int .i64 x.vote, .slice la LL lc, .int .i64 x.commit, .int .i64 x.role, .int .i64 x.boss, .slice va VL vc, .slice na NL nc, .slice ma ML mc] 34)).alloc (.cells #[.int .i64 m.kind, .int .i64 m.frm, .int .i64 m.dest, .int .i64 m.term, .int .i64 m.index, .int .i64 m.logTerm, .int .i64 m.commit, .slice ia IL ic, .bool m.yes] 40)).alloc (.cells #[.int .i64 0, .int .i64 0, .int .i64 0, .int .i64 0, .slice none 0 0, .int .i64 0, .int .i64 0, .int .i64 0, .slice none 0 0, .slice none 0 0, .slice none 0 0] 34)) (w.heap.size + 2) 34 #[.int .i64 0, .int .i64 0, .int .i64 0, .int .i64 0, .slice none 0 0, .int .i64 0, .int .i64 0, .int .i64 0, .slice none 0 0, .slice none 0 0, .slice none 0 0]) := hide (by
    have := BK.new ((w.alloc (.cells #[.int .i64 x.id, .int .i64 x.n, .int .i64 x.term, .int .i64 x.vote, .slice la LL lc, .int .i64 x.commit, .int .i64 x.role, .int .i64 x.boss, .slice va VL vc, .slice na NL nc, .slice ma ML mc] 34)).alloc (.cells #[.int .i64 m.kind, .int .i64 m.frm, .int .i64 m.dest, .int .i64 m.term, .int .i64 m.index, .int .i64 m.logTerm, .int .i64 m.commit, .slice ia IL ic, .bool m.yes] 40)) 34 #[.int .i64 0, .int .i64 0, .int .i64 0, .int .i64 0, .slice none 0 0, .int .i64 0, .int .i64 0, .int .i64 0, .slice none 0 0, .slice none 0 0, .slice none 0 0]
    rwa [show ((w.alloc (.cells #[.int .i64 x.id, .int .i64 x.n, .int .i64 x.term, .int .i64 x.vote, .slice la LL lc, .int .i64 x.commit, .int .i64 x.role, .int .i64 x.boss, .slice va VL vc, .slice na NL nc, .slice ma ML mc] 34)).alloc (.cells #[.int .i64 m.kind, .int .i64 m.frm, .int .i64 m.dest, .int .i64 m.term, .int .i64 m.index, .int .i64 m.logTerm, .int .i64 m.commit, .slice ia IL ic, .bool m.yes] 40)).heap.size = w.heap.size + 2 by simp] at this)
  go_enter Try.func35, Try.ntmps35
  go_upto_region 1 with fail
  generalize ((w.alloc (.cells #[.int .i64 x.id, .int .i64 x.n, .int .i64 x.term, .int .i64 x.vote, .slice la LL lc, .int .i64 x.commit, .int .i64 x.role, .int .i64 x.boss, .slice va VL vc, .slice na NL nc, .slice ma ML mc] 34)).alloc (.cells #[.int .i64 m.kind, .int .i64 m.frm, .int .i64 m.dest, .int .i64 m.term, .int .i64 m.index, .int .i64 m.logTerm, .int .i64 m.commit, .slice ia IL ic, .bool m.yes] 40)).alloc (.cells #[.int .i64 0, .int .i64 0, .int .i64 0, .int .i64 0, .slice none 0 0, .int .i64 0, .int .i64 0, .int .i64 0, .slice none 0 0, .slice none 0 0, .slice none 0 0] 34) = w0 at HB0 HC0 HM0 HZ0 ⊢
  obtain ⟨c0, c1, c2, c3, c4, c5, c6, c7, c8, c9, c10⟩ := (show NX w0 w.heap.size _ _ _ _ _ _ _ _ _ _ _ from unhide HC0).tell
  have CB := hide (begin_any x _ w0 (NV.keep (fun b hb => ⟨Nat.lt_of_lt_of_le (unhide HP b hb) (unhide HB0).size, (unhide HB0).block b (unhide HP b hb)⟩) (unhide HV)) (unhide HFt))
  have hrl := (unhide HZ0).low
  have hbl := (unhide HM0).low
  have hrw : Hid (w.heap.size ≤ w.heap.size + 2) := hide (by omega)
  have HG : Hid (∀ wx, Below w0.heap.size w0 wx → GV (· < w0.heap.size) wx #[.int .i64 m.kind, .int .i64 m.frm, .int .i64 m.dest, .int .i64 m.term, .int .i64 m.index, .int .i64 m.logTerm, .int .i64 m.commit, .slice ia IL ic, .bool m.yes] m) := hide (fun wx hx => ⟨_, rfl, TV.keep (fun b hb => ⟨Nat.lt_of_lt_of_le (unhide HP b hb) (unhide HB0).size, (hx.block b (Nat.lt_of_lt_of_le (unhide HP b hb) (unhide HB0).size)).trans ((unhide HB0).block b (unhide HP b hb))⟩) (unhide HIT)⟩)
  generalize hrr : w.heap.size + 2 = r at HZ0 hrl hrw ⊢
  generalize hbb : w.heap.size + 1 = bx at HM0 hbl ⊢
  clear hrr hbb
  have db := decide_eq_true (unhide HS)
  have HRt := hide ((Rf.wrongN_ok x).1 (unhide HS))
  have EL : Hid (Rf.Lost x m ↔ ¬ heedB x m) := hide (by
    rw [lost_iff, unhide HKd]
    constructor
    · intro h q; exact h ⟨by unfold Rf.inB; omega, q⟩
    · intro h q; exact h q.2)
  have CB2 : Hid (Calls Try.prog 36 #[.agg #[.int .i64 x.id, .int .i64 x.n, .int .i64 x.term, .int .i64 x.vote, .slice la LL lc, .int .i64 x.commit, .int .i64 x.role, .int .i64 x.boss, .slice va VL vc, .slice na NL nc, .slice ma ML mc]] w0 fun e w1 => ∃ p o, e = .returned (.tuple #[.pointer (some ⟨p, 0, none⟩), .bool true]) ∧ WK w0.heap.size w1 p x [] o ∧ Below w0.heap.size w0 w1) := hide (by have := unhide CB; unfold PB at this; rwa [db] at this)
  go_upto_region 2 with (go_at_call 36; refine (unhide CB2).mono ?_; rintro e w1 ⟨p, o, rfl, hK1, hb1⟩)
  have HK1 := hide hK1
  have HB1 := hide hb1
  have HM1 := hide (show BK w1 bx _ _ from (hb1.block bx hbl).trans (unhide HM0))
  have p1 := hK1.lo
  clear hK1 hb1 CB CB2 c0 c1 c2 c3 c4 c5 c6 c7 c8 c9 c10
  obtain ⟨g0, g1, g2, g3, g4, g5, g6, g7, g8⟩ := (show GX w1 bx _ _ _ _ _ _ _ _ _ from unhide HM1).tell
  have hfn := fn_nil 53 #[.pointer (some ⟨p, 0, none⟩)]
  have CH := hide (HD w0.heap.size p x o m _ w1 (unhide HK1) (GV.keep (fun b hb => ⟨Nat.lt_of_lt_of_le hb (unhide HB1).size, rfl⟩) (unhide HG w1 (unhide HB1))) (unhide HBig))
  have CD : Hid (Calls Try.prog 42 #[.pointer (some ⟨p, 0, none⟩), .int .i64 m.kind] w1 fun e w' => e = .returned (.func (.func 53) #[.pointer (some ⟨p, 0, none⟩)] #[]) ∧ w' = w1) := hide (by rw [unhide HKd]; exact deed_count p w1)
  by_cases hh : heedB x m
  rotate_left
  · have ET : Hid (Rf.receive x m = (x, [])) := hide (by rw [Rf.receive, if_pos (.inr ((unhide EL).2 hh))])
    have CH2 : Hid (Calls Try.prog 43 #[.pointer (some ⟨p, 0, none⟩), .agg #[.int .i64 m.kind, .int .i64 m.frm, .int .i64 m.dest, .int .i64 m.term, .int .i64 m.index, .int .i64 m.logTerm, .int .i64 m.commit, .slice ia IL ic, .bool m.yes]] w1 fun e w' => e = .returned (.bool false) ∧ Below w1.heap.size w1 w') := hide ((unhide CH).mono (fun e w' q => by
      obtain ⟨h, h1, h2, h3⟩ := q
      have : h = false := by cases h; rfl; exact absurd (h2.1 rfl) hh
      rw [this] at h1
      exact ⟨h1, h3⟩))
    clear hh CH
    go_upto_region 4 with (first | (go_at_call 42; refine (unhide CD).mono ?_; rintro e w2 ⟨rfl, rfl⟩) | (go_at_call 43; refine (unhide CH2).mono ?_; rintro e w3 ⟨rfl, hb3⟩))
    have HK3 := hide ((unhide HK1).below hb3)
    have HB3 := hide ((unhide HB1).trans (hb3.mono (unhide HB1).size))
    clear hb3
    clear p1 g0 g1 g2 g3 g4 g5 g6 g7 g8
    obtain ⟨la9, LL9, lc9, va9, VL9, vc9, na9, NL9, nc9, ma9, ML9, mc9, sa9, SL9, sc9, HE9, _, _, _, _, _, _, ⟨d0, d1, d2, d3, d4, d5, d6, d7, d8, d9, d10, d11⟩, ⟨_, _, _, _, _, _, _, _, _, _, _, _⟩⟩ := (unhide HK3).tell
    have p9 := (unhide HK3).lo
    have HZ9 := hide (show NX w3 r _ _ _ _ _ _ _ _ _ _ _ from ((unhide HB3).block r hrl).trans (unhide HZ0))
    obtain ⟨z0, z1, z2, z3, z4, z5, z6, z7, z8, z9, z10⟩ := (unhide HZ9).tell
    obtain ⟨y0, y1, y2, y3, y4, y5, y6, y7, y8, y9, y10⟩ := (unhide HZ9).thaw11
    have r9 := (unhide HZ9).low
    have hpr : p ≠ r := by have := (unhide HK3).low; omega
    have TE := hide (fun wF hw => told_end (P := P) (w := w) (w0 := w0) (wE := w3) (wF := wF) (r := r) (p := p) hw (unhide HB0) (by have := unhide hrw; omega) hrl rfl (unhide HK3) (unhide HB3))
    rw [(unhide HE9).1, (unhide HE9).2.1, (unhide HE9).2.2.1, (unhide HE9).2.2.2.1, (unhide HE9).2.2.2.2] at TE
    go_wp2
    refine bodyPost_ret (v := .tuple #[.agg #[.int .i64 (x).id, .int .i64 (x).n, .int .i64 (x).term, .int .i64 (x).vote, .slice la9 LL9 lc9, .int .i64 (x).commit, .int .i64 (x).role, .int .i64 (x).boss, .slice va9 VL9 vc9, .slice na9 NL9 nc9, .slice ma9 ML9 mc9], .slice none 0 0]) (by simp [results, Try.results35, go_sem, z0, z1, z2, z3, z4, z5, z6, z7, z8, z9, z10]) rfl ?_
    obtain ⟨t1, t2, t3⟩ := unhide TE _ (.inl rfl)
    rw [unhide ET]
    exact ⟨_, _, rfl, t1, MV.nil _ _, t3⟩
  have CH2 : Hid (Calls Try.prog 43 #[.pointer (some ⟨p, 0, none⟩), .agg #[.int .i64 m.kind, .int .i64 m.frm, .int .i64 m.dest, .int .i64 m.term, .int .i64 m.index, .int .i64 m.logTerm, .int .i64 m.commit, .slice ia IL ic, .bool m.yes]] w1 fun e w' => e = .returned (.bool true) ∧ Below w1.heap.size w1 w') := hide ((unhide CH).mono (fun e w' q => by
    obtain ⟨h, h1, h2, h3⟩ := q
    have : h = true := h2.2 hh
    rw [this] at h1
    exact ⟨h1, h3⟩))
  have HHe := hide hh
  have RB := hide (Rf.right_bump (unhide HRt) hh.2.2.2.1)
  have ET0 : Rf.receive x m = Rf.onVoted (Rf.bump x m.term) m := by
    rw [Rf.receive, if_neg (by rintro (q | q); exact q (unhide HS); exact (unhide EL).1 q hh), Rf.byKind, unhide HKd]
    rfl
  clear hh CH
  go_upto_region 5 with (first | (go_at_call 42; refine (unhide CD).mono ?_; rintro e w2 ⟨rfl, rfl⟩) | (go_at_call 43; refine (unhide CH2).mono ?_; rintro e w3 ⟨rfl, hb3⟩))
  have HK3 := hide ((unhide HK1).below hb3)
  have HB3 := hide ((unhide HB1).trans (hb3.mono (unhide HB1).size))
  clear hb3 CD CH2 p1 g0 g1 g2 g3 g4 g5 g6 g7 g8
  have HM3 := hide (show BK w3 bx _ _ from ((unhide HB3).block bx hbl).trans (unhide HM0))
  obtain ⟨g0, g1, g2, g3, g4, g5, g6, g7, g8⟩ := (show GX w3 bx _ _ _ _ _ _ _ _ _ from unhide HM3).tell
  have k2 : w3.cell? ⟨p, 2, none⟩ = some (.int .i64 x.term) := (unhide HK3).blk.at (j := 2) rfl
  have p3 := (unhide HK3).lo
  have CK : Hid (∀ o' w', WK w0.heap.size w' p (Rf.bump x m.term) [] o' → Below w0.heap.size w0 w' → Calls Try.prog 53 #[.pointer (some ⟨p, 0, none⟩), .agg #[.int .i64 m.kind, .int .i64 m.frm, .int .i64 m.dest, .int .i64 m.term, .int .i64 m.index, .int .i64 m.logTerm, .int .i64 m.commit, .slice ia IL ic, .bool m.yes]] w' (PW w0.heap.size p o' w' (Rf.onVoted (Rf.bump x m.term) m).1 (Rf.onVoted (Rf.bump x m.term) m).2)) := hide (fun o' w' hk' hb' => by
    have hgv : Gv w' #[.int .i64 m.kind, .int .i64 m.frm, .int .i64 m.dest, .int .i64 m.term, .int .i64 m.index, .int .i64 m.logTerm, .int .i64 m.commit, .slice ia IL ic, .bool m.yes] m := GV.keep (fun b hb => ⟨Nat.lt_of_lt_of_le hb hb'.size, rfl⟩) (unhide HG w' hb')
    have hn : (Rf.bump x m.term).n = x.n := by unfold Rf.bump; split <;> rfl
    exact count_any _ p _ o' m _ w' hk' hgv (unhide RB) (by rw [hn]; exact (unhide HHe).2.1))
  obtain ⟨X, hX⟩ : ∃ z, z = (Rf.onVoted (Rf.bump x m.term) m).1 := ⟨_, rfl⟩
  obtain ⟨M, hM⟩ : ∃ z, z = (Rf.onVoted (Rf.bump x m.term) m).2 := ⟨_, rfl⟩
  rw [← hX, ← hM] at CK
  have ET : Hid (Rf.receive x m = (X, M)) := hide (by rw [ET0, hX, hM])
  clear ET0 hX hM
  by_cases ht : x.term < m.term
  · have dt : decide (x.term < m.term) = true := decide_eq_true ht
    have EB : Hid (Rf.bump x m.term = { Rf.follow x 0 with term := m.term, vote := 0 }) := hide (by rw [Rf.bump, if_pos ht])
    clear ht
    go_quiet (fail)
    go_upto_region 6 with fail
    have k3 : w3.cell? ⟨p, 3, none⟩ = some (.int .i64 x.vote) := (unhide HK3).blk.at (j := 3) rfl
    have y2 := (unhide HK3).blk.thaw 2
    have y3 := (unhide HK3).blk.thaw 3
    have h0 := (unhide HK3).drewN nq
    have h1 := h0.cell (x' := { x with term := m.term }) 2 (.int .i64 m.term) ⟨rfl, rfl, rfl, rfl⟩ rfl
    have h2 := h1.cell (x' := { x with term := m.term, vote := 0 }) 3 (.int .i64 0) ⟨rfl, rfl, rfl, rfl⟩ rfl
    have HK4 := hide h2
    have HB4 := hide (((below_drewN (unhide HB3) nq).trans (h0.cellFr 2 (.int .i64 m.term)).bel).trans (h1.cellFr 3 (.int .i64 0)).bel)
    clear h0 h1 h2
    go_upto_region 7 with fail
    generalize World.setCell (World.setCell (w3.drewN nq) ⟨p, 2, none⟩ (.int .i64 m.term)) ⟨p, 3, none⟩ (.int .i64 0) = w4 at HK4 HB4 ⊢
    have CFo := hide (follow_any w0.heap.size p { x with term := m.term, vote := 0 } [] o 0 w4 (unhide HK4))
    clear k2 k3 y2 y3 p3 g0 g1 g2 g3 g4 g5 g6 g7 g8
    go_upto_region 8 with (go_at_call 41; refine (unhide CFo).mono ?_; rintro e w5 ⟨rfl, o5, hK5, hF5⟩)
    have HB5 := hide ((unhide HB4).trans hF5.bel)
    have HK5 : Hid (WK w0.heap.size w5 p (Rf.bump x m.term) [] o5) := hide (by rw [unhide EB]; exact hK5)
    clear hK5 hF5 CFo
    have HM5 := hide (show BK w5 bx _ _ from ((unhide HB5).block bx hbl).trans (unhide HM0))
    obtain ⟨g0, g1, g2, g3, g4, g5, g6, g7, g8⟩ := (show GX w5 bx _ _ _ _ _ _ _ _ _ from unhide HM5).tell
    have CF := hide (unhide CK o5 w5 (unhide HK5) (unhide HB5))
    go_wp2_with (go_at_call 53; refine (unhide CF).mono ?_; rintro e w6 ⟨rfl, o6, hK6, hF6⟩)
    have HK6 := hide hK6
    have HB6 := hide ((unhide HB5).trans hF6.bel)
    clear hK6 hF6 CF
    obtain ⟨la9, LL9, lc9, va9, VL9, vc9, na9, NL9, nc9, ma9, ML9, mc9, sa9, SL9, sc9, HE9, _, _, _, _, _, _, ⟨d0, d1, d2, d3, d4, d5, d6, d7, d8, d9, d10, d11⟩, ⟨_, _, _, _, _, _, _, _, _, _, _, _⟩⟩ := (unhide HK6).tell
    have p9 := (unhide HK6).lo
    have HZ9 := hide (show NX w6 r _ _ _ _ _ _ _ _ _ _ _ from ((unhide HB6).block r hrl).trans (unhide HZ0))
    obtain ⟨z0, z1, z2, z3, z4, z5, z6, z7, z8, z9, z10⟩ := (unhide HZ9).tell
    obtain ⟨y0, y1, y2, y3, y4, y5, y6, y7, y8, y9, y10⟩ := (unhide HZ9).thaw11
    have r9 := (unhide HZ9).low
    have hpr : p ≠ r := by have := (unhide HK6).low; omega
    have TE := hide (fun wF hw => told_end (P := P) (w := w) (w0 := w0) (wE := w6) (wF := wF) (r := r) (p := p) hw (unhide HB0) (by have := unhide hrw; omega) hrl rfl (unhide HK6) (unhide HB6))
    rw [(unhide HE9).1, (unhide HE9).2.1, (unhide HE9).2.2.1, (unhide HE9).2.2.2.1, (unhide HE9).2.2.2.2] at TE
    go_region
    go_wp2
    refine bodyPost_ret (v := .tuple #[.agg #[.int .i64 (X).id, .int .i64 (X).n, .int .i64 (X).term, .int .i64 (X).vote, .slice la9 LL9 lc9, .int .i64 (X).commit, .int .i64 (X).role, .int .i64 (X).boss, .slice va9 VL9 vc9, .slice na9 NL9 nc9, .slice ma9 ML9 mc9], .slice sa9 SL9 sc9]) (by simp [results, Try.results35, go_sem, z0, z1, z2, z3, z4, z5, z6, z7, z8, z9, z10]) rfl ?_
    obtain ⟨t1, t2, t3⟩ := unhide TE _ (.inr rfl)
    rw [unhide ET]
    exact ⟨_, _, rfl, t1, t2, t3⟩
  · have dt : decide (x.term < m.term) = false := decide_eq_false ht
    have EB : Hid (Rf.bump x m.term = x) := hide (by rw [Rf.bump, if_neg ht])
    clear ht
    go_quiet (fail)
    go_upto_region 8 with fail
    have HK5 : Hid (WK w0.heap.size (w3.drewN nq) p (Rf.bump x m.term) [] o) := hide (by rw [unhide EB]; exact (unhide HK3).drewN nq)
    have HB5 := hide (below_drewN (unhide HB3) nq)
    have HM5 : Hid (BK (w3.drewN nq) bx 40 #[.int .i64 m.kind, .int .i64 m.frm, .int .i64 m.dest, .int .i64 m.term, .int .i64 m.index, .int .i64 m.logTerm, .int .i64 m.commit, .slice ia IL ic, .bool m.yes]) := HM3
    generalize w3.drewN nq = w5 at HK5 HB5 HM5 ⊢
    clear k2 p3 g0 g1 g2 g3 g4 g5 g6 g7 g8
    obtain ⟨g0, g1, g2, g3, g4, g5, g6, g7, g8⟩ := (show GX w5 bx _ _ _ _ _ _ _ _ _ from unhide HM5).tell
    have CF := hide (unhide CK o w5 (unhide HK5) (unhide HB5))
    go_wp2_with (go_at_call 53; refine (unhide CF).mono ?_; rintro e w6 ⟨rfl, o6, hK6, hF6⟩)
    have HK6 := hide hK6
    have HB6 := hide ((unhide HB5).trans hF6.bel)
    clear hK6 hF6 CF
    obtain ⟨la9, LL9, lc9, va9, VL9, vc9, na9, NL9, nc9, ma9, ML9, mc9, sa9, SL9, sc9, HE9, _, _, _, _, _, _, ⟨d0, d1, d2, d3, d4, d5, d6, d7, d8, d9, d10, d11⟩, ⟨_, _, _, _, _, _, _, _, _, _, _, _⟩⟩ := (unhide HK6).tell
    have p9 := (unhide HK6).lo
    have HZ9 := hide (show NX w6 r _ _ _ _ _ _ _ _ _ _ _ from ((unhide HB6).block r hrl).trans (unhide HZ0))
    obtain ⟨z0, z1, z2, z3, z4, z5, z6, z7, z8, z9, z10⟩ := (unhide HZ9).tell
    obtain ⟨y0, y1, y2, y3, y4, y5, y6, y7, y8, y9, y10⟩ := (unhide HZ9).thaw11
    have r9 := (unhide HZ9).low
    have hpr : p ≠ r := by have := (unhide HK6).low; omega
    have TE := hide (fun wF hw => told_end (P := P) (w := w) (w0 := w0) (wE := w6) (wF := wF) (r := r) (p := p) hw (unhide HB0) (by have := unhide hrw; omega) hrl rfl (unhide HK6) (unhide HB6))
    rw [(unhide HE9).1, (unhide HE9).2.1, (unhide HE9).2.2.1, (unhide HE9).2.2.2.1, (unhide HE9).2.2.2.2] at TE
    go_region
    go_wp2
    refine bodyPost_ret (v := .tuple #[.agg #[.int .i64 (X).id, .int .i64 (X).n, .int .i64 (X).term, .int .i64 (X).vote, .slice la9 LL9 lc9, .int .i64 (X).commit, .int .i64 (X).role, .int .i64 (X).boss, .slice va9 VL9 vc9, .slice na9 NL9 nc9, .slice ma9 ML9 mc9], .slice sa9 SL9 sc9]) (by simp [results, Try.results35, go_sem, z0, z1, z2, z3, z4, z5, z6, z7, z8, z9, z10]) rfl ?_
    obtain ⟨t1, t2, t3⟩ := unhide TE _ (.inr rfl)
    rw [unhide ET]
    exact ⟨_, _, rfl, t1, t2, t3⟩

end Go.Proofs.Ytneepoaimbnneaa.RW
