/- Walks: goOn (raft). Written by gen_np.py. -/
import Derived.Test.YtneepoaimbnneaaNK
namespace Go.Proofs.Ytneepoaimbnneaa.RW
open Go.RowKit

set_option maxHeartbeats 8000000 in
set_option maxRecDepth 100000 in
theorem goOn_any (B p : Nat) (x : Rf.Node) (o : Own) (m : Rf.Msg) (g : Array Value) (w : World) (hk : WK B w p x [] o) (hg : Gv w g m) (hR : Rf.Right x) (hf : Rf.inB m.frm 1 x.n) (hi : Rf.inB m.index 0 60) :
    Calls Try.prog 55 #[.pointer (some ⟨p, 0, none⟩), .agg g] w (PW B p o w (Rf.onAppended x m).1 (Rf.onAppended x m).2) := by
  obtain ⟨iv, rfl, hit⟩ := hg
  obtain ⟨ia, IL, ic, rfl, hIL, hic, _⟩ := SC.shp hit
  have HK := hide hk
  have HIT := hide hit
  have HX := hide (BK.new w 40 #[.int .i64 m.kind, .int .i64 m.frm, .int .i64 m.dest, .int .i64 m.term, .int .i64 m.index, .int .i64 m.logTerm, .int .i64 m.commit, .slice ia IL ic, .bool m.yes])
  have HBn := hide (below_new w (.cells #[.int .i64 m.kind, .int .i64 m.frm, .int .i64 m.dest, .int .i64 m.term, .int .i64 m.index, .int .i64 m.logTerm, .int .i64 m.commit, .slice ia IL ic, .bool m.yes] 40))
  have HFb : Hid (Free p o w.heap.size) := hide (hk.newFree (Nat.le_refl _))
  have HR := hide hR
  have HI := hide (And.intro hf hi)
  obtain ⟨f, hff⟩ : ∃ f : Nat, m.frm = (f : Int) + 1 := ⟨(m.frm - 1).toNat, by have := hf.1; omega⟩
  have hf5 : (f : Int) ≤ 4 := by have := hf.2; have := hR.n.2; omega
  have HFF := hide hff
  have ef : IntKind.i64.wrap ((f : Int) + 1 - 1) = (f : Int) := by rw [wrap_i64 (by omega) (by omega)]; omega
  have ef2 : IntKind.i64.wrap (f : Int) = (f : Int) := wrap_i64 (by omega) (by omega)
  have ei : IntKind.i64.wrap (m.index + 1) = m.index + 1 := wrap_i64 (by have := hi.1; omega) (by have := hi.2; omega)
  clear hk hit hff hf hi hR
  go_enter Try.func55, Try.ntmps55
  go_upto_region 1 with fail
  generalize w.alloc (.cells #[.int .i64 m.kind, .int .i64 m.frm, .int .i64 m.dest, .int .i64 m.term, .int .i64 m.index, .int .i64 m.logTerm, .int .i64 m.commit, .slice ia IL ic, .bool m.yes] 40) = w1 at HX HBn ⊢
  have HK1 := hide ((unhide HK).below (unhide HBn))
  have HF1 := hide (Fr.below (p := p) (o := o) (unhide HBn) (unhide HK).szB)
  generalize hbx : w.heap.size = bx at HX HFb ⊢
  clear hbx
  obtain ⟨la, LL, lc, va, VL, vc, na, NL, nc, ma, ML, mc, sa, SL, sc, HE, hLL, hVL, hNL, hML, hSL, ⟨r1, r2, r3, r4⟩, ⟨c0, c1, c2, c3, c4, c5, c6, c7, c8, c9, c10, c11⟩, ⟨f0, f1, f2, f3, f4, f5, f6, f7, f8, f9, f10, f11⟩⟩ := (unhide HK1).tell
  obtain ⟨g0, g1, g2, g3, g4, g5, g6, g7, g8⟩ := (show GX w1 bx _ _ _ _ _ _ _ _ _ from unhide HX).tell
  have g1' : w1.cell? ⟨bx, 1, none⟩ = some (.int .i64 ((f : Int) + 1)) := g1.trans (by rw [unhide HFF])
  clear g1
  have hp := (unhide HK1).lo
  have hbl := (unhide HX).low
  by_cases t1 : x.role = 3
  rotate_left
  · have e1 : (x.role != 3) = true := by simpa using t1
    have EO : Hid (Rf.onAppended x m = (x, [])) := hide (by rw [Rf.onAppended, if_pos (.inl t1)])
    clear t1
    go_quiet (fail)
    go_wp2
    ((try simp only [Exit.inBlock, Exit.then]); refine bodyPost_ret (results_none rfl _ _ _) rfl ?_)
    rw [unhide EO]
    exact ⟨rfl, _, (unhide HK1).drewN _, (unhide HF1).drewN _⟩
  have e1 : (x.role != 3) = false := by simpa using t1
  by_cases t2 : m.term = x.term
  rotate_left
  · have e2 : (m.term != x.term) = true := by simpa using t2
    have EO : Hid (Rf.onAppended x m = (x, [])) := hide (by rw [Rf.onAppended, if_pos (.inr t2)])
    clear t1 t2
    go_quiet (fail)
    go_wp2
    ((try simp only [Exit.inBlock, Exit.then]); refine bodyPost_ret (results_none rfl _ _ _) rfl ?_)
    rw [unhide EO]
    exact ⟨rfl, _, (unhide HK1).drewN _, (unhide HF1).drewN _⟩
  have e2 : (m.term != x.term) = false := by simpa using t2
  have HT1 := hide t1
  have HNo : Hid (¬ (x.role ≠ 3 ∨ m.term ≠ x.term)) := hide (fun q => q.elim (fun q => q t1) (fun q => q t2))
  have hlens := (unhide HR).lens
  rw [Rf.lensOk, if_pos t1] at hlens
  have hfN : f < x.next.length := by have := (unhide HI).1.2; have := unhide HFF; omega
  have hfM : f < x.mtch.length := by have := (unhide HI).1.2; have := unhide HFF; omega
  have Hfl := hide (And.intro hfN hfM)
  clear t1 t2 hlens hfN hfM
  go_quiet (fail)
  go_upto_region 2 with fail
  have HK2 := hide ((unhide HK1).drewN nq)
  have HF2 := hide ((unhide HF1).drewN nq)
  have HX2 : Hid (BK (w1.drewN nq) bx 40 #[.int .i64 m.kind, .int .i64 m.frm, .int .i64 m.dest, .int .i64 m.term, .int .i64 m.index, .int .i64 m.logTerm, .int .i64 m.commit, .slice ia IL ic, .bool m.yes]) := HX
  generalize w1.drewN nq = w2 at HK2 HF2 HX2 ⊢
  clear HE hLL hVL hNL hML hSL hp hbl HK1 HF1 HX g1' g0 g2 g3 g4 g5 g6 g7 g8 c0 c1 c2 c3 c4 c5 c6 c7 c8 c9 c10 c11 f0 f1 f2 f3 f4 f5 f6 f7 f8 f9 f10 f11 r1 r2 r3 r4
  obtain ⟨la, LL, lc, va, VL, vc, na, NL, nc, ma, ML, mc, sa, SL, sc, HE, hLL, hVL, hNL, hML, hSL, ⟨r1, r2, r3, r4⟩, ⟨c0, c1, c2, c3, c4, c5, c6, c7, c8, c9, c10, c11⟩, ⟨f0, f1, f2, f3, f4, f5, f6, f7, f8, f9, f10, f11⟩⟩ := (unhide HK2).tell
  obtain ⟨g0, g1, g2, g3, g4, g5, g6, g7, g8⟩ := (show GX w2 bx _ _ _ _ _ _ _ _ _ from unhide HX2).tell
  have g1' : w2.cell? ⟨bx, 1, none⟩ = some (.int .i64 ((f : Int) + 1)) := g1.trans (by rw [unhide HFF])
  clear g1
  have hp := (unhide HK2).lo
  have hbl := (unhide HX2).low
  obtain ⟨mb, e1', em, q1, q2, q3⟩ := own_int (i := f) (show w2.ownsRow B 3 1 (.slice ma ML mc) x.mtch.length (ints x.mtch) by have := (unhide HK2).mtch; rw [(unhide HE).2.2.2.1] at this; exact this) (unhide Hfl).2
  subst e1'
  obtain ⟨nb, e1', en, r1', r2', r3'⟩ := own_int (i := f) (show w2.ownsRow B 3 1 (.slice na NL nc) x.next.length (ints x.next) by have := (unhide HK2).next; rw [(unhide HE).2.2.1] at this; exact this) (unhide Hfl).1
  subst e1'
  have hfM1 : (f : Int) < (ML : Int) := by rw [em]; have := (unhide Hfl).2; omega
  have hfM2 : f < ML := by rw [em]; exact (unhide Hfl).2
  have hfN1 : (f : Int) < (NL : Int) := by rw [en]; have := (unhide Hfl).1; omega
  have hfN2 : f < NL := by rw [en]; exact (unhide Hfl).1
  have Hen := hide en
  have Hem := hide em
  clear en em
  go_quiet (fail)
  go_upto_region 3 with fail
  have HK3 := hide ((unhide HK2).drewN nq)
  have HF3 := hide ((unhide HF2).drewN nq)
  have HX3 : Hid (BK (w2.drewN nq) bx 40 #[.int .i64 m.kind, .int .i64 m.frm, .int .i64 m.dest, .int .i64 m.term, .int .i64 m.index, .int .i64 m.logTerm, .int .i64 m.commit, .slice ia IL ic, .bool m.yes]) := HX2
  have HC3 : Hid ((w2.drewN nq).cell? ⟨nb, f, none⟩ = some (.int .i64 (x.next[f]'(unhide Hfl).1)) ∧ (w2.drewN nq).frozen? ⟨nb, f, none⟩ = false ∧ nb < (w2.drewN nq).heap.size ∧ (w2.drewN nq).cell? ⟨mb, f, none⟩ = some (.int .i64 (x.mtch[f]'(unhide Hfl).2)) ∧ (w2.drewN nq).frozen? ⟨mb, f, none⟩ = false ∧ mb < (w2.drewN nq).heap.size) := hide ⟨r1', r2', r3', q1, q2, q3⟩
  generalize w2.drewN nq = w3 at HK3 HF3 HX3 HC3 ⊢
  have HE3 := hide (unhide HE)
  clear HE hLL hVL hNL hML hSL hp hbl HK2 HF2 HX2 g1' g0 g2 g3 g4 g5 g6 g7 g8 q1 q2 q3 r1' r2' r3' c0 c1 c2 c3 c4 c5 c6 c7 c8 c9 c10 c11 f0 f1 f2 f3 f4 f5 f6 f7 f8 f9 f10 f11 r1 r2 r3 r4
  obtain ⟨la, LL, lc, va, VL3, vc, na3, NL3, nc3, ma3, ML3, mc3, sa, SL, sc, HE, hLL, hVL, hNL, hML, hSL, ⟨r1, r2, r3, r4⟩, ⟨c0, c1, c2, c3, c4, c5, c6, c7, c8, c9, c10, c11⟩, ⟨f0, f1, f2, f3, f4, f5, f6, f7, f8, f9, f10, f11⟩⟩ := (unhide HK3).tell
  obtain ⟨g0, g1, g2, g3, g4, g5, g6, g7, g8⟩ := (show GX w3 bx _ _ _ _ _ _ _ _ _ from unhide HX3).tell
  have g1' : w3.cell? ⟨bx, 1, none⟩ = some (.int .i64 ((f : Int) + 1)) := g1.trans (by rw [unhide HFF])
  clear g1
  have hp := (unhide HK3).lo
  have hbl := (unhide HX3).low
  have hnv := (unhide HR).places.1 _ (List.getElem_mem (unhide Hfl).1)
  have hmv := (unhide HR).places.2 _ (List.getElem_mem (unhide Hfl).2)
  have hL60 := (unhide HR).log
  have Hnv := hide (And.intro hnv hmv)
  have HGN : Hid (x.next.getD (m.frm - 1).toNat 0 = x.next[f]'(unhide Hfl).1 ∧ x.mtch.getD (m.frm - 1).toNat 0 = x.mtch[f]'(unhide Hfl).2 ∧ (m.frm - 1).toNat = f) := hide (by
    have e : (m.frm - 1).toNat = f := by have := unhide HFF; omega
    rw [e]
    exact ⟨by simp [List.getD, List.getElem?_eq_getElem (unhide Hfl).1], by simp [List.getD, List.getElem?_eq_getElem (unhide Hfl).2], rfl⟩)
  obtain ⟨nv, hnve⟩ : ∃ z, z = x.next[f]'(unhide Hfl).1 := ⟨_, rfl⟩
  obtain ⟨mv, hmve⟩ : ∃ z, z = x.mtch[f]'(unhide Hfl).2 := ⟨_, rfl⟩
  rw [← hnve, ← hmve] at HC3 HGN Hnv
  have enw : IntKind.i64.wrap (nv - 1) = nv - 1 := by have := (unhide Hnv).1; unfold Rf.inB at this; exact wrap_i64 (by omega) (by omega)
  obtain ⟨n1, n2, n3, m1, m2, m3⟩ := unhide HC3
  clear hnv hmv hnve hmve
  cases hy : m.yes
  · have g8' : w3.cell? ⟨bx, 8, none⟩ = some (.bool false) := g8.trans (by rw [hy])
    have EO : Hid (Rf.onAppended x m = (Rf.heardNo x m, [Rf.batch (Rf.heardNo x m) m.frm])) := hide (by rw [Rf.onAppended, if_neg (unhide HNo), if_neg (by rw [hy]; simp)])
    have EN : Hid (Rf.heardNo x m = { x with next := x.next.set f (max 1 (min (nv - 1) (m.index + 1))) }) := hide (by rw [Rf.heardNo, Rf.nextNo, (unhide HGN).1, (unhide HGN).2.2])
    have RN := hide (Rf.right_heardNo (unhide HR) (unhide HT1) (unhide HI).1)
    have S4 := (unhide HK3).putN (unhide HE3).2.2.1 (unhide Hen) f (max 1 (min (nv - 1) (m.index + 1)))
    have HK4 : Hid (WK B (World.drew (World.setCell w3 ⟨nb, f, none⟩ (.int .i64 (max 1 (min (nv - 1) (m.index + 1)))))) p (Rf.heardNo x m) [] o) := hide (by rw [unhide EN]; exact S4.1.drew)
    have HF4 := hide ((unhide HF3).trans S4.2).drew
    have HX4 : Hid (BK (World.drew (World.setCell w3 ⟨nb, f, none⟩ (.int .i64 (max 1 (min (nv - 1) (m.index + 1)))))) bx 40 #[.int .i64 m.kind, .int .i64 m.frm, .int .i64 m.dest, .int .i64 m.term, .int .i64 m.index, .int .i64 m.logTerm, .int .i64 m.commit, .slice ia IL ic, .bool m.yes]) := hide (S4.2.bk (unhide HX3) (unhide HFb))
    clear S4 g8 hy
    go_upto_region 4 with fail
    go_region
    go_upto_region 5 with fail
    generalize World.drew (World.setCell w3 ⟨nb, f, none⟩ (.int .i64 (max 1 (min (nv - 1) (m.index + 1))))) = w4 at HK4 HF4 HX4 ⊢
    have k1 : w4.cell? ⟨bx, 1, none⟩ = some (.int .i64 ((f : Int) + 1)) := ((unhide HX4).at (j := 1) (u := .int .i64 m.frm) rfl).trans (by rw [unhide HFF])
    have hnx : (Rf.heardNo x m).next[f]? = some (max 1 (min (nv - 1) (m.index + 1))) := by rw [unhide EN]; simp [(unhide Hfl).1]
    obtain ⟨fr, hfr⟩ : ∃ fr : Nat, max 1 (min (nv - 1) (m.index + 1)) = (fr : Int) + 1 := ⟨(max 1 (min (nv - 1) (m.index + 1)) - 1).toNat, by omega⟩
    have hfb : fr ≤ (Rf.heardNo x m).log.length := by
      have := (unhide Hnv).1.2
      rw [unhide EN]
      show fr ≤ x.log.length
      omega
    have hln : f + 1 ≤ (Rf.heardNo x m).next.length := by rw [unhide EN]; show f + 1 ≤ (x.next.set f _).length; rw [List.length_set]; exact (unhide Hfl).1
    have CS0 := send_any B p (Rf.heardNo x m) [] o (f + 1) fr w4 (unhide HK4) (by simp) (by omega) hln (by rw [Nat.add_sub_cancel, hnx, hfr]) hfb (unhide RN).log
    rw [show ((f + 1 : Nat) : Int) = (f : Int) + 1 by omega] at CS0
    have CS := hide CS0
    clear CS0 hnx hfr hfb hln
    go_wp2_with (go_at_call 39; refine (unhide CS).mono ?_; rintro e w5 ⟨rfl, s5, cs5, hK5, hF5⟩)
    have FIN := hide (And.intro hK5 ((unhide HF4).trans hF5))
    clear hK5 hF5 CS
    ((try simp only [Exit.inBlock, Exit.then]); refine bodyPost_ret (results_none rfl _ _ _) rfl ?_)
    rw [unhide EO, unhide HFF]
    exact ⟨rfl, _, (unhide FIN).1, (unhide FIN).2⟩
  · have g8' : w3.cell? ⟨bx, 8, none⟩ = some (.bool true) := g8.trans (by rw [hy])
    have EO : Hid (Rf.onAppended x m = (Rf.sure (Rf.heardYes x m), if Rf.had x m < (x.log.length : Int) then [Rf.batch (Rf.sure (Rf.heardYes x m)) m.frm] else [])) := hide (by rw [Rf.onAppended, if_neg (unhide HNo), if_pos hy])
    have EH : Hid (Rf.had x m = max mv (min m.index (LL : Int))) := hide (by rw [Rf.had, (unhide HGN).2.1, unhide hLL, Int.max_comm])
    have EN : Hid (Rf.heardYes x m = { x with mtch := x.mtch.set f (max mv (min m.index (LL : Int))), next := x.next.set f (max mv (min m.index (LL : Int)) + 1) }) := hide (by rw [Rf.heardYes, (unhide HGN).2.2, unhide EH])
    have RN := hide (Rf.right_heardYes (unhide HR) (unhide HT1) (unhide HI).1)
    obtain ⟨hv, hhv⟩ : ∃ z, z = max mv (min m.index (LL : Int)) := ⟨_, rfl⟩
    have hvb : 0 ≤ hv ∧ hv ≤ (LL : Int) := by have := (unhide Hnv).2; unfold Rf.inB at this; have := unhide hLL; omega
    have ehw : IntKind.i64.wrap (hv + 1) = hv + 1 := by have := unhide hLL; exact wrap_i64 (by omega) (by omega)
    rw [← hhv] at EN EH
    have S4 := (unhide HK3).putM (unhide HE3).2.2.2.1 (unhide Hem) f hv
    have HK4 := hide S4.1.drew
    have HF4 := hide ((unhide HF3).trans S4.2).drew
    have HX4 : Hid (BK (World.drew (World.setCell w3 ⟨mb, f, none⟩ (.int .i64 hv))) bx 40 #[.int .i64 m.kind, .int .i64 m.frm, .int .i64 m.dest, .int .i64 m.term, .int .i64 m.index, .int .i64 m.logTerm, .int .i64 m.commit, .slice ia IL ic, .bool m.yes]) := hide (S4.2.bk (unhide HX3) (unhide HFb))
    have S5 := S4.1.drew.putN (unhide HE3).2.2.1 (unhide Hen) f (hv + 1)
    have hne : nb ≠ mb := by
      intro e
      have := (unhide HK3).ap.nm nb (by rw [(unhide HE3).2.2.1]; rfl)
      rw [(unhide HE3).2.2.2.1] at this
      exact this (by rw [e]; rfl)
    have HC4 : Hid ((World.drew (World.setCell w3 ⟨mb, f, none⟩ (.int .i64 hv))).cell? ⟨nb, f, none⟩ = some (.int .i64 nv) ∧ (World.drew (World.setCell w3 ⟨mb, f, none⟩ (.int .i64 hv))).frozen? ⟨nb, f, none⟩ = false ∧ nb < (World.drew (World.setCell w3 ⟨mb, f, none⟩ (.int .i64 hv))).heap.size ∧ (World.drew (World.setCell w3 ⟨mb, f, none⟩ (.int .i64 hv))).cell? ⟨mb, f, none⟩ = some (.int .i64 hv) ∧ mb < (World.drew (World.setCell w3 ⟨mb, f, none⟩ (.int .i64 hv))).heap.size) := hide ⟨(World.cell?_of_block (w := w3) (a := ⟨nb, f, none⟩) (Below.heap_setCell w3 _ _ nb hne)).trans n1, (World.frozen?_of_block (w := w3) (a := ⟨nb, f, none⟩) (Below.heap_setCell w3 _ _ nb hne)).trans n2, by show nb < (World.setCell w3 _ _).heap.size; simp [World.setCell]; exact n3, World.cell?_setCell_same' w3 _ _ (by rw [m1]; rfl), by show mb < (World.setCell w3 _ _).heap.size; simp [World.setCell]; exact m3⟩
    have HK5' := hide S5.1
    have HF5' := hide S5.2
    clear S4 S5 g8 hy
    have hhv2 : max mv (min m.index (LL : Int)) = hv := hhv.symm
    clear hhv
    go_upto_region 6 with fail
    go_region
    go_upto_region 7 with fail
    generalize World.drew (World.setCell w3 ⟨mb, f, none⟩ (.int .i64 hv)) = w4 at HK4 HF4 HX4 HC4 HK5' HF5' ⊢
    obtain ⟨n1', n2', n3', m1', m3'⟩ := unhide HC4
    clear n1 n2 n3 m1 m2 m3 HC3 HC4 hp hbl g1' g8' g0 g2 g3 g4 g5 g6 g7 HE hVL hNL hML hSL c0 c1 c2 c3 c4 c5 c6 c7 c8 c9 c10 c11 f0 f1 f2 f3 f4 f5 f6 f7 f8 f9 f10 f11 r1 r2 r3 r4
    have HK5 : Hid (WK B (World.setCell w4 ⟨nb, f, none⟩ (.int .i64 (hv + 1))) p (Rf.heardYes x m) [] o) := hide (by rw [unhide EN]; exact unhide HK5')
    have HF5 := hide ((unhide HF4).trans (unhide HF5'))
    have HX5 := hide ((unhide HF5').bk (unhide HX4) (unhide HFb))
    clear HK5' HF5'
    go_upto_region 8 with fail
    generalize World.setCell w4 ⟨nb, f, none⟩ (.int .i64 (hv + 1)) = w5 at HK5 HF5 HX5 ⊢
    have hln := (unhide RN).lens
    rw [Rf.lensOk, if_pos (show (Rf.heardYes x m).role = 3 from unhide HT1)] at hln
    have CS := hide (sure_any B p (Rf.heardYes x m) [] o w5 (unhide HK5) (unhide RN).rise (unhide RN).commit.1 (unhide RN).places.2 hln.2 (unhide RN).n.1 (unhide RN).n.2 (unhide RN).log)
    clear hln n1' n2' n3' m1' m3'
    go_wp2_with (go_at_call 51; refine (unhide CS).mono ?_; rintro e w6 ⟨rfl, hK6, hF6⟩)
    have HK6 := hide hK6
    have HF6 := hide ((unhide HF5).trans hF6)
    have HX6 := hide (hF6.bk (unhide HX5) (unhide HFb))
    clear hK6 hF6 CS
    have hnl : (Rf.sure (Rf.heardYes x m)).next = x.next.set f (hv + 1) := by show (Rf.heardYes x m).next = _; rw [unhide EN]
    have hll : (Rf.sure (Rf.heardYes x m)).log = x.log := by show (Rf.heardYes x m).log = _; rw [unhide EN]
    obtain ⟨nb', e1', en', s1, s2, s3⟩ := own_int (i := f) (show w6.ownsRow B 3 1 (.slice (some ⟨nb, 0, none⟩) NL nc) (x.next.set f (hv + 1)).length (ints (x.next.set f (hv + 1))) by have := (unhide HK6).next; rw [(unhide HE3).2.2.1, hnl] at this; exact this) (by rw [List.length_set]; exact (unhide Hfl).1)
    cases e1'
    rw [List.getElem_set_self] at s1
    have c4' : w6.cell? ⟨p, 4, none⟩ = some o.l := (unhide HK6).blk.at (j := 4) rfl
    obtain ⟨la, LL6, lc, el, hLL6, _, _⟩ := SC.shp (SC.own (unhide HK6).log)
    rw [el] at c4'
    have HLL6 : Hid (LL6 = x.log.length) := hide (by rw [unhide hLL6, hll])
    have p6 := (unhide HK6).lo
    have b6 := (unhide HX6).low
    have k1 : w6.cell? ⟨bx, 1, none⟩ = some (.int .i64 ((f : Int) + 1)) := ((unhide HX6).at (j := 1) (u := .int .i64 m.frm) rfl).trans (by rw [unhide HFF])
    have R6 := hide (Rf.right_sure (unhide RN))
    have HNL := hide (And.intro hnl hll)
    clear hnl hll en' hLL6 el
    by_cases hle : hv + 1 ≤ (LL6 : Int)
    · have EI : Hid (Rf.had x m < (x.log.length : Int)) := hide (by rw [unhide EH, ← unhide HLL6]; omega)
      have dl : decide (hv + 1 ≤ (LL6 : Int)) = true := decide_eq_true hle
      obtain ⟨fr, hfr⟩ : ∃ fr : Nat, hv = (fr : Int) := ⟨hv.toNat, by omega⟩
      have hnx : (Rf.sure (Rf.heardYes x m)).next[f]? = some (hv + 1) := by rw [(unhide HNL).1]; simp [(unhide Hfl).1]
      have hKd := fun n => hide ((unhide HK6).drewN n)
      have CS0 := fun n => send_any B p (Rf.sure (Rf.heardYes x m)) [] o (f + 1) fr (w6.drewN n) ((unhide HK6).drewN n) (by simp) (by omega) (by rw [(unhide HNL).1, List.length_set]; exact (unhide Hfl).1) (by rw [Nat.add_sub_cancel, hnx, hfr]) (by rw [(unhide HNL).2]; have := unhide HLL6; omega) (unhide R6).log
      rw [show ((f + 1 : Nat) : Int) = (f : Int) + 1 by omega] at CS0
      have CS := hide CS0
      clear CS0 hnx hfr hKd
      go_quiet (fail)
      go_wp2_with (go_at_call 39; refine (unhide CS _).mono ?_; rintro e w7 ⟨rfl, s7, cs7, hK7, hF7⟩)
      have FIN := hide (And.intro hK7 (((unhide HF6).drewN nq).trans hF7))
      clear hK7 hF7 CS
      go_end0
      rw [unhide EO, if_pos (unhide EI), unhide HFF]
      exact ⟨rfl, _, (unhide FIN).1, (unhide FIN).2⟩
    · have EI : Hid (¬ Rf.had x m < (x.log.length : Int)) := hide (by rw [unhide EH, ← unhide HLL6]; omega)
      have dl : decide (hv + 1 ≤ (LL6 : Int)) = false := decide_eq_false hle
      go_quiet (fail)
      go_wp2
      go_end0
      rw [unhide EO, if_neg (by have := unhide EI; omega)]
      exact ⟨rfl, _, (unhide HK6).drewN _, (unhide HF6).drewN _⟩

end Go.Proofs.Ytneepoaimbnneaa.RW
