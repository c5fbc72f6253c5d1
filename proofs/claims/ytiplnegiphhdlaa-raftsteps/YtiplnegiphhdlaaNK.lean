/- Walks: put (raft). Written by gen_nk.py. -/
import Derived.Test.YtiplnegiphhdlaaNG
import Derived.Test.YtiplnegiphhdlaaNI
namespace Go.Proofs.Ytiplnegiphhdlaa
open Go.RowKit

theorem WK.drew {B : Nat} {w : World} {p : Nat} {x : Rf.Node} {ms : List Rf.Msg} {o : Own} (h : WK B w p x ms o) : WK B w.drew p x ms o := ⟨h.blk, h.low, h.log, h.votes, h.next, h.mtch, h.said, @MC.keep (fun b => B ≤ b ∧ b < w.heap.size ∧ Free p o b) (fun b => B ≤ b ∧ b < w.drew.heap.size ∧ Free p o b) w w.drew (fun _ k => ⟨k, rfl⟩) ms o.cs h.mc, h.ap⟩
theorem Fr.drew {B p : Nat} {o o' : Own} {w w' : World} (h : Fr B p o w o' w') : Fr B p o w o' w'.drew := ⟨h.bel.drew, h.fr⟩
/-- a number is stored in place -/
theorem WK.putM {B : Nat} {w : World} {p : Nat} {x : Rf.Node} {ms : List Rf.Msg} {o : Own} (h : WK B w p x ms o) {g c N : Nat} (e : o.m = .slice (some ⟨g, 0, none⟩) N c) (hN : N = x.mtch.length) (i : Nat) (z : Int) : WK B (w.setCell ⟨g, i, none⟩ (.int .i64 z)) p { x with mtch := x.mtch.set i z } ms o ∧ Fr B p o w o (w.setCell ⟨g, i, none⟩ (.int .i64 z)) := by
  subst hN
  have ho := h.mtch
  rw [e] at ho
  have st := ho.stored i (.int .i64 z)
  refine h.inM (L := x.mtch.set i z) (by rw [e]; exact st.2) (by rw [e, List.length_set]; have := st.1; rwa [show (ints x.mtch).set i (.int .i64 z) = ints (x.mtch.set i z) by simp [ints, List.map_set]] at this)
theorem WK.putN {B : Nat} {w : World} {p : Nat} {x : Rf.Node} {ms : List Rf.Msg} {o : Own} (h : WK B w p x ms o) {g c N : Nat} (e : o.n = .slice (some ⟨g, 0, none⟩) N c) (hN : N = x.next.length) (i : Nat) (z : Int) : WK B (w.setCell ⟨g, i, none⟩ (.int .i64 z)) p { x with next := x.next.set i z } ms o ∧ Fr B p o w o (w.setCell ⟨g, i, none⟩ (.int .i64 z)) := by
  subst hN
  have ho := h.next
  rw [e] at ho
  have st := ho.stored i (.int .i64 z)
  refine h.inN (L := x.next.set i z) (by rw [e]; exact st.2) (by rw [e, List.length_set]; have := st.1; rwa [show (ints x.next).set i (.int .i64 z) = ints (x.next.set i z) by simp [ints, List.map_set]] at this)
/-- where a number of its lies -/
theorem own_int {B : Nat} {w : World} {l : List Int} {a : Option Addr} {N c i : Nat} (h : w.ownsRow B 3 1 (.slice a N c) l.length (ints l)) (hi : i < l.length) : ∃ g, a = some ⟨g, 0, none⟩ ∧ N = l.length ∧ w.cell? ⟨g, i, none⟩ = some (.int .i64 l[i]) ∧ w.frozen? ⟨g, i, none⟩ = false ∧ g < w.heap.size := by
  obtain ⟨g, cp, e, _, g2, _, _, g4⟩ := own_slice h (by omega)
  cases e
  refine ⟨g, rfl, rfl, ?_, g4 i, g2⟩
  have := World.ownsRow.cells h (g := g) rfl i (.int .i64 l[i]) (by simp [ints])
  rwa [Addr.add_lit, Nat.zero_add] at this
/-- an item more -/
theorem WK.putL {B : Nat} {w W w1 : World} {p : Nat} {x : Rf.Node} {ms : List Rf.Msg} {o : Own} {t c : Int} {l' lv : Value} (h : WK B w p x ms o) (el : o.l = lv) (hg : W.grownBy w1 lv.ownBlock) (ho : w1.ownsRow B 58 2 l' (x.log.length + 1) (its x.log ++ [.int .i64 t, .int .i64 c])) (hu : l'.ownBlock = lv.ownBlock ∨ l'.ownBlock = some W.heap.size) (hW : Below w.heap.size w W) :
    BK w1 p 46 (workC x o) ∧ WK B (w1.setCell ⟨p, 4, none⟩ l') p { x with log := x.log ++ [(t, c)] } ms { o with l := l' } ∧ Fr B p o w { o with l := l' } (w1.setCell ⟨p, 4, none⟩ l') := by
  subst el
  refine ⟨((hg.block p (Nat.lt_of_lt_of_le h.lo hW.size) (fun e => h.ap.pl e.symm)).trans (hW.block p h.lo)).trans h.blk, h.setL (L := x.log ++ [(t, c)]) (grown_trans (grown_below' hW _) hg) (by rw [List.length_append, its_app]; exact ho) ?_⟩
  rcases hu with e | e
  · exact .inl e
  · refine .inr fun k hk => ?_
    rw [e] at hk
    cases hk
    exact hW.size
theorem ntwo (a b : Int) : ∀ u ∈ [Value.int .i64 a, Value.int .i64 b], u.oneCell' = true := by
  intro u hu
  simp at hu
  rcases hu with rfl | rfl <;> rfl

end Go.Proofs.Ytiplnegiphhdlaa

namespace Go.Proofs.Ytiplnegiphhdlaa.RW
open Go.RowKit

set_option maxHeartbeats 8000000 in
set_option maxRecDepth 100000 in
theorem put_any (B p : Nat) (x : Rf.Node) (ms : List Rf.Msg) (o : Own) (cmd : Int) (w : World) (hk : WK B w p x ms o) (hR : Rf.Right x) (hr : x.role = 3) (hms : ms.length ≤ 50) :
    Calls Try.prog 33 #[.pointer (some ⟨p, 0, none⟩), .int .i64 cmd] w (PW B p o w (Rf.put x cmd).1 (ms ++ (Rf.put x cmd).2)) := by
  have R1 := hide (Rf.right_putOne hR hr cmd)
  have hlens := hR.lens
  rw [Rf.lensOk, if_pos hr] at hlens
  obtain ⟨i, hi⟩ : ∃ i : Nat, x.id = (i : Int) + 1 := ⟨(x.id - 1).toNat, by have := hR.id.1; omega⟩
  have hiN : Hid (i < x.next.length ∧ i < x.mtch.length) := hide (by have := hR.id.2; omega)
  have hi5 : (i : Int) ≤ 4 := by have := hR.id.2; have := hR.n.2; omega
  have ei : IntKind.i64.wrap ((i : Int) + 1 - 1) = (i : Int) := by rw [wrap_i64 (by omega) (by omega)]; omega
  have ei2 : IntKind.i64.wrap (i : Int) = (i : Int) := wrap_i64 (by omega) (by omega)
  have Hid1 := hide hi
  have HL := hide hR.log
  have Hr := hide hr
  have Hlens := hide hlens
  have hi60 : x.log.length ≤ 60 := hR.log
  have HK := hide hk
  obtain ⟨la, LL, lc, va, VL, vc, na, NL, nc, ma, ML, mc, sa, SL, sc, HE, hLL, hVL, hNL, hML, hSL, ⟨r1, r2, r3, r4⟩, ⟨c0, c1, c2, c3, c4, c5, c6, c7, c8, c9, c10, c11⟩, ⟨f0, f1, f2, f3, f4, f5, f6, f7, f8, f9, f10, f11⟩⟩ := (hk).tell
  have hp := hk.lo
  have HBs := hide hk.szB
  clear hlens hi hR hr hk
  by_cases h60 : LL < 60
  · obtain ⟨i0, I0, I1, I2, I3⟩ := info_parts info_T
    have I0' := hide I0
    have I1' := hide I1
    have I2' := hide I2
    have I3' := hide I3
    clear I0 I1 I2 I3
    have h60' : (LL : Int) < 60 := by omega
    have HO : Hid (w.ownsRow B 58 2 (.slice la LL lc) x.log.length (its x.log)) := hide (by have := (unhide HK).log; rwa [(unhide HE).1] at this)
    have EX : Hid (Rf.putOne x cmd = { x with log := x.log ++ [(x.term, cmd)], mtch := x.mtch.set i ((x.log ++ [(x.term, cmd)]).length : Int), next := x.next.set i (((x.log ++ [(x.term, cmd)]).length : Int) + 1) }) := hide (by
      rw [Rf.putOne, Rf.grown, if_pos (by have := unhide hLL; omega), show (x.id - 1).toNat = i by have := unhide Hid1; omega])
    have H60 : Hid ((x.log ++ [(x.term, cmd)]).length ≤ 60) := hide (by rw [List.length_append, List.length_singleton]; have := unhide hLL; omega)
    go_enter Try.func33, Try.ntmps33
    go_wp2_with fail
    go_region_law (first
      | (refine nstep_append rfl _ _ 22 rfl B 58 i0 (.agg #[.int .i64 0, .int .i64 0]) 2 16 Try.underlying22 (unhide I0') (unhide I1') (unhide I2') (unhide I3') rfl (by decide) _ x.log.length (its x.log) rfl (by repeat (first | exact unhide HO | apply World.ownsRow.drew | apply World.ownsRow.alloc)) ⟨w.heap.size, 0, none⟩ 1 1 [.int .i64 x.term, .int .i64 cmd] rfl rfl (ncells _ _ _ (by simp)) (ntwo _ _) (by unfold maxLen; omega) (by omega) (by have := unhide HBs; simp; omega) ?_
         intro v3 w3 hown hgrow hat
         obtain ⟨gg, cc, rfl, _⟩ := own_slice hown (by omega)
         obtain ⟨bp, fin⟩ := WK.putL (unhide HK) (unhide HE).1 hgrow hown hat (by repeat (first | with_reducible exact Below.refl _ _ | with_reducible apply Below.drew | with_reducible refine Below.alloc ?_ (by simp) _))
         have c4' := bp.at (j := 4) rfl
         have f4' := bp.thaw 4
         have l3 := bp.low
         have FI := hide fin
         clear hown hgrow hat bp fin))
    all_goals
      have HK4 := hide (unhide FI).1
      have HF4 := hide (unhide FI).2
      go_wp2_with fail
      generalize World.setCell w3 ⟨p, 4, none⟩ (.slice (some ⟨gg, 0, none⟩) (x.log.length + 1) cc) = w4 at HK4 HF4 ⊢
      clear FI c4' f4' l3 HO HE hLL hVL hNL hML hSL c0 c1 c2 c3 c4 c5 c6 c7 c8 c9 c10 c11 f0 f1 f2 f3 f4 f5 f6 f7 f8 f9 f10 f11 r1 r2 r3 r4
      obtain ⟨la, LL, lc, va, VL, vc, na, NL, nc, ma, ML, mc, sa, SL, sc, HE, hLL, hVL, hNL, hML, hSL, ⟨r1, r2, r3, r4⟩, ⟨c0, c1, c2, c3, c4, c5, c6, c7, c8, c9, c10, c11⟩, ⟨f0, f1, f2, f3, f4, f5, f6, f7, f8, f9, f10, f11⟩⟩ := (unhide HK4).tell
      have p4 := (unhide HK4).lo
      have c0' : w4.cell? ⟨p, 0, none⟩ = some (.int .i64 ((i : Int) + 1)) := c0.trans (by rw [unhide Hid1])
      obtain ⟨mb, e1, e2, q1, q2, q3⟩ := own_int (i := i) (show w4.ownsRow B 3 1 (.slice ma ML mc) x.mtch.length (ints x.mtch) by have := (unhide HK4).mtch; rw [(unhide HE).2.2.2.1] at this; exact this) (unhide hiN).2
      subst e1
      have hiM : (i : Int) < (ML : Int) := by rw [e2]; have := (unhide hiN).2; omega
      have hiM2 : i < ML := by rw [e2]; exact (unhide hiN).2
      have S5 := (unhide HK4).putM (unhide HE).2.2.2.1 e2 i (LL : Int)
      have HK5' := hide S5.1.drew
      have HF5' := hide ((unhide HF4).trans S5.2.drew)
      clear S5 e2 c0
      go_wp2_with fail
      go_region
      go_wp2_with fail
      generalize World.drew (World.setCell w4 ⟨mb, i, none⟩ (.int .i64 (LL : Int))) = w5 at HK5' HF5' ⊢
      clear c1 c2 c3 c4 c5 c6 c7 c8 c9 c10 c11 f0 f1 f2 f3 f4 f5 f6 f7 f8 f9 f10 f11 r1 r2 r3 r4 c0' q1 q2 q3 hiM hiM2 p4
      have HL5 : Hid (LL = ({ x with log := x.log ++ [(x.term, cmd)] } : Rf.Node).log.length) := hLL
      clear HE hVL hNL hML hSL
      clear hLL
      obtain ⟨la, LL, lc, va, VL, vc, na, NL, nc, ma, ML, mc, sa, SL, sc, HE, hLL, hVL, hNL, hML, hSL, ⟨r1, r2, r3, r4⟩, ⟨c0, c1, c2, c3, c4, c5, c6, c7, c8, c9, c10, c11⟩, ⟨f0, f1, f2, f3, f4, f5, f6, f7, f8, f9, f10, f11⟩⟩ := (unhide HK5').tell
      have p5 := (unhide HK5').lo
      have c0' : w5.cell? ⟨p, 0, none⟩ = some (.int .i64 ((i : Int) + 1)) := c0.trans (by rw [unhide Hid1])
      obtain ⟨nb, e1, e2, q1, q2, q3⟩ := own_int (i := i) (show w5.ownsRow B 3 1 (.slice na NL nc) x.next.length (ints x.next) by have := (unhide HK5').next; rw [(unhide HE).2.2.1] at this; exact this) (unhide hiN).1
      subst e1
      have hiN1 : (i : Int) < (NL : Int) := by rw [e2]; have := (unhide hiN).1; omega
      have hiN2 : i < NL := by rw [e2]; exact (unhide hiN).1
      have ew : IntKind.i64.wrap ((LL : Int) + 1) = (LL : Int) + 1 := by have q := unhide hLL; have q2 := unhide H60; simp only at q; rw [wrap_i64 (by omega) (by omega)]
      have S6 := (unhide HK5').putN (unhide HE).2.2.1 e2 i ((LL : Int) + 1)
      have HK6' := hide S6.1.drew
      have HF6' := hide ((unhide HF5').trans S6.2.drew)
      clear S6 e2 c0
      go_region
      go_wp2_with fail
      generalize World.drew (World.setCell w5 ⟨nb, i, none⟩ (.int .i64 ((LL : Int) + 1))) = w6 at HK6' HF6' ⊢
      have HK7 : Hid (WK B w6 p (Rf.putOne x cmd) ms ({ o with l := .slice (some ⟨gg, 0, none⟩) (x.log.length + 1) cc })) := hide (by have := unhide HK6'; rw [unhide EX]; have e5 := unhide HL5; have e6 := unhide hLL; (try simp only at e5 e6); rw [e5, e6] at this; exact this)
      have RR := unhide R1
      have hln := RR.lens
      rw [Rf.lensOk, if_pos (show (Rf.putOne x cmd).role = 3 from unhide Hr)] at hln
      have CS := hide (sure_any B p (Rf.putOne x cmd) ms ({ o with l := .slice (some ⟨gg, 0, none⟩) (x.log.length + 1) cc }) w6 (unhide HK7) RR.rise RR.commit.1 RR.places.2 hln.2 RR.n.1 RR.n.2 RR.log)
      clear RR hln c1 c2 c3 c4 c5 c6 c7 c8 c9 c10 c11 f0 f1 f2 f3 f4 f5 f6 f7 f8 f9 f10 f11 r1 r2 r3 r4 c0' q1 q2 q3 hiN1 hiN2 p5 HK6'
      go_wp2_with (go_at_call 47; refine (unhide CS).mono ?_; rintro e w7 ⟨rfl, hK8, hF8⟩)
      have R2 := Rf.right_sure (unhide R1)
      have hln := R2.lens
      rw [Rf.lensOk, if_pos (show (Rf.sure (Rf.putOne x cmd)).role = 3 from unhide Hr)] at hln
      have CO := hide (others_send B p (Rf.sure (Rf.putOne x cmd)) ms ({ o with l := .slice (some ⟨gg, 0, none⟩) (x.log.length + 1) cc }) w7 hK8 (by omega) R2.n.1 R2.n.2 R2.log hln.1 R2.places.1)
      have HF8 := hide ((unhide HF6').trans hF8)
      clear R2 hln hK8 hF8 CS HF6'
      go_wp2_with (go_at_call 30; refine (unhide CO).mono ?_; rintro e w8 ⟨rfl, s8, cs8, hK9, hF9⟩)
      have FIN := hide (And.intro hK9 ((unhide HF8).trans hF9))
      clear hK9 hF9 CO
      go_end0
      exact ⟨rfl, _, (unhide FIN).1, (unhide FIN).2⟩
  · have h60' : ¬ (LL : Int) < 60 := by omega
    have EX : Hid (Rf.putOne x cmd = { x with mtch := x.mtch.set i (x.log.length : Int), next := x.next.set i ((x.log.length : Int) + 1) }) := hide (by
      rw [Rf.putOne, Rf.grown, if_neg (by have := unhide hLL; omega), show (x.id - 1).toNat = i by have := unhide Hid1; omega])
    have H60 : Hid (x.log.length ≤ 60) := HL
    have HK4 := hide (unhide HK)
    have HF4 := hide (Fr.refl B p o w)
    go_enter Try.func33, Try.ntmps33
    go_wp2_with fail
    clear HE hLL hVL hNL hML hSL c0 c1 c2 c3 c4 c5 c6 c7 c8 c9 c10 c11 f0 f1 f2 f3 f4 f5 f6 f7 f8 f9 f10 f11 r1 r2 r3 r4
    obtain ⟨la, LL, lc, va, VL, vc, na, NL, nc, ma, ML, mc, sa, SL, sc, HE, hLL, hVL, hNL, hML, hSL, ⟨r1, r2, r3, r4⟩, ⟨c0, c1, c2, c3, c4, c5, c6, c7, c8, c9, c10, c11⟩, ⟨f0, f1, f2, f3, f4, f5, f6, f7, f8, f9, f10, f11⟩⟩ := (unhide HK4).tell
    have p4 := (unhide HK4).lo
    have c0' : w.cell? ⟨p, 0, none⟩ = some (.int .i64 ((i : Int) + 1)) := c0.trans (by rw [unhide Hid1])
    obtain ⟨mb, e1, e2, q1, q2, q3⟩ := own_int (i := i) (show w.ownsRow B 3 1 (.slice ma ML mc) x.mtch.length (ints x.mtch) by have := (unhide HK4).mtch; rw [(unhide HE).2.2.2.1] at this; exact this) (unhide hiN).2
    subst e1
    have hiM : (i : Int) < (ML : Int) := by rw [e2]; have := (unhide hiN).2; omega
    have hiM2 : i < ML := by rw [e2]; exact (unhide hiN).2
    have S5 := (unhide HK4).putM (unhide HE).2.2.2.1 e2 i (LL : Int)
    have HK5' := hide S5.1.drew
    have HF5' := hide ((unhide HF4).trans S5.2.drew)
    clear S5 e2 c0
    go_wp2_with fail
    go_region
    go_wp2_with fail
    generalize World.drew (World.setCell w ⟨mb, i, none⟩ (.int .i64 (LL : Int))) = w5 at HK5' HF5' ⊢
    clear c1 c2 c3 c4 c5 c6 c7 c8 c9 c10 c11 f0 f1 f2 f3 f4 f5 f6 f7 f8 f9 f10 f11 r1 r2 r3 r4 c0' q1 q2 q3 hiM hiM2 p4
    have HL5 : Hid (LL = (x).log.length) := hLL
    clear HE hVL hNL hML hSL
    clear hLL
    obtain ⟨la, LL, lc, va, VL, vc, na, NL, nc, ma, ML, mc, sa, SL, sc, HE, hLL, hVL, hNL, hML, hSL, ⟨r1, r2, r3, r4⟩, ⟨c0, c1, c2, c3, c4, c5, c6, c7, c8, c9, c10, c11⟩, ⟨f0, f1, f2, f3, f4, f5, f6, f7, f8, f9, f10, f11⟩⟩ := (unhide HK5').tell
    have p5 := (unhide HK5').lo
    have c0' : w5.cell? ⟨p, 0, none⟩ = some (.int .i64 ((i : Int) + 1)) := c0.trans (by rw [unhide Hid1])
    obtain ⟨nb, e1, e2, q1, q2, q3⟩ := own_int (i := i) (show w5.ownsRow B 3 1 (.slice na NL nc) x.next.length (ints x.next) by have := (unhide HK5').next; rw [(unhide HE).2.2.1] at this; exact this) (unhide hiN).1
    subst e1
    have hiN1 : (i : Int) < (NL : Int) := by rw [e2]; have := (unhide hiN).1; omega
    have hiN2 : i < NL := by rw [e2]; exact (unhide hiN).1
    have ew : IntKind.i64.wrap ((LL : Int) + 1) = (LL : Int) + 1 := by have q := unhide hLL; have q2 := unhide H60; simp only at q; rw [wrap_i64 (by omega) (by omega)]
    have S6 := (unhide HK5').putN (unhide HE).2.2.1 e2 i ((LL : Int) + 1)
    have HK6' := hide S6.1.drew
    have HF6' := hide ((unhide HF5').trans S6.2.drew)
    clear S6 e2 c0
    go_region
    go_wp2_with fail
    generalize World.drew (World.setCell w5 ⟨nb, i, none⟩ (.int .i64 ((LL : Int) + 1))) = w6 at HK6' HF6' ⊢
    have HK7 : Hid (WK B w6 p (Rf.putOne x cmd) ms (o)) := hide (by have := unhide HK6'; rw [unhide EX]; have e5 := unhide HL5; have e6 := unhide hLL; (try simp only at e5 e6); rw [e5, e6] at this; exact this)
    have RR := unhide R1
    have hln := RR.lens
    rw [Rf.lensOk, if_pos (show (Rf.putOne x cmd).role = 3 from unhide Hr)] at hln
    have CS := hide (sure_any B p (Rf.putOne x cmd) ms (o) w6 (unhide HK7) RR.rise RR.commit.1 RR.places.2 hln.2 RR.n.1 RR.n.2 RR.log)
    clear RR hln c1 c2 c3 c4 c5 c6 c7 c8 c9 c10 c11 f0 f1 f2 f3 f4 f5 f6 f7 f8 f9 f10 f11 r1 r2 r3 r4 c0' q1 q2 q3 hiN1 hiN2 p5 HK6'
    go_wp2_with (go_at_call 47; refine (unhide CS).mono ?_; rintro e w7 ⟨rfl, hK8, hF8⟩)
    have R2 := Rf.right_sure (unhide R1)
    have hln := R2.lens
    rw [Rf.lensOk, if_pos (show (Rf.sure (Rf.putOne x cmd)).role = 3 from unhide Hr)] at hln
    have CO := hide (others_send B p (Rf.sure (Rf.putOne x cmd)) ms (o) w7 hK8 (by omega) R2.n.1 R2.n.2 R2.log hln.1 R2.places.1)
    have HF8 := hide ((unhide HF6').trans hF8)
    clear R2 hln hK8 hF8 CS HF6'
    go_wp2_with (go_at_call 30; refine (unhide CO).mono ?_; rintro e w8 ⟨rfl, s8, cs8, hK9, hF9⟩)
    have FIN := hide (And.intro hK9 ((unhide HF8).trans hF9))
    clear hK9 hF9 CO
    go_end0
    exact ⟨rfl, _, (unhide FIN).1, (unhide FIN).2⟩

end Go.Proofs.Ytiplnegiphhdlaa.RW
