/- Walks: leadIfMost, stand (raft). Written by gen_nm2.py. -/
import Derived.Test.YtiplnegiphhdlaaNM
import Derived.Test.YtiplnegiphhdlaaNJ
namespace Go.Proofs.Ytiplnegiphhdlaa.RW
open Go.RowKit

theorem cell_set_ne (w : World) (p i j : Nat) (u : Value) (h : i ≠ j) : (w.setCell ⟨p, i, none⟩ u).cell? ⟨p, j, none⟩ = w.cell? ⟨p, j, none⟩ :=
  World.cell?_setCell_other w _ _ u (by intro e; cases e; exact h rfl)

set_option maxHeartbeats 8000000 in
set_option maxRecDepth 100000 in
theorem lead_any (B p : Nat) (x : Rf.Node) (ms : List Rf.Msg) (o : Own) (w : World) (hk : WK B w p x ms o) (hR : Rf.Right x) (hr : x.role = 2) (hms : ms.length ≤ 20) :
    Calls Try.prog 43 #[.pointer (some ⟨p, 0, none⟩)] w (PW B p o w (Rf.elect x).1 (ms ++ (Rf.elect x).2)) := by
  obtain ⟨N, hN⟩ : ∃ N : Nat, x.n = (N : Int) := ⟨x.n.toNat, by have := hR.n.1; omega⟩
  have HN := hide hN
  have hN1 : 1 ≤ N := by have := hR.n.1; omega
  have hN5 : N ≤ 5 := by have := hR.n.2; omega
  have RC := hide (Rf.right_crowned hR hr)
  have HR := hide hR
  have HK := hide hk
  obtain ⟨la, LL, lc, va, VL, vc, na, NL, nc, ma, ML, mc, sa, SL, sc, HE, hLL, hVL, hNL, hML, hSL, ⟨r1, r2, r3, r4⟩, ⟨c0, c1, c2, c3, c4, c5, c6, c7, c8, c9, c10, c11⟩, ⟨f0, f1, f2, f3, f4, f5, f6, f7, f8, f9, f10, f11⟩⟩ := (hk).tell
  have c1' : w.cell? ⟨p, 1, none⟩ = some (.int .i64 (N : Int)) := c1.trans (by rw [hN])
  have hp := hk.lo
  have CM := hide (fun wx (hx : wx.heap = w.heap) => most_any p (N : Int) wx (by rw [← c1']; simp [World.cell?, hx]) (by omega) (by omega))
  clear hk hR hN c1
  by_cases hmost : (VL : Int) < (N : Int) / 2 + 1
  · have b1 : decide ((VL : Int) < (N : Int) / 2 + 1) = true := decide_eq_true hmost
    have EE : Hid (Rf.elect x = (x, [])) := hide (by
      rw [Rf.elect, if_neg]
      unfold Rf.most
      rw [← unhide hVL, unhide HN]
      omega)
    go_enter Try.func43, Try.ntmps43
    go_wp2_with fail
    go_quiet ((go_at_call 50; exact Calls.quiet_of_same (unhide CM _ rfl)))
    go_wp2
    ((try simp only [Exit.inBlock, Exit.then]); refine bodyPost_ret (results_none rfl _ _ _) rfl ?_)
    rw [unhide EE, List.append_nil]
    exact ⟨rfl, _, (unhide HK).drewN _, (Fr.refl _ _ _ _).drewN _⟩
  have b1 : decide ((VL : Int) < (N : Int) / 2 + 1) = false := decide_eq_false hmost
  have EE : Hid (Rf.elect x = Rf.put (Rf.crowned x) 0) := hide (by
    rw [Rf.elect, if_pos]
    unfold Rf.most
    rw [← unhide hVL, unhide HN]
    omega)
  obtain ⟨i0, I0, I1, I2, I3⟩ := info_parts info_I
  have I0' := hide I0
  have I1' := hide I1
  have I2' := hide I2
  have I3' := hide I3
  clear I0 I1 I2 I3
  go_enter Try.func43, Try.ntmps43
  go_wp2_with fail
  go_quiet ((go_at_call 50; exact Calls.quiet_of_same (unhide CM _ rfl)))
  go_wp2_with fail
  have h0 := (unhide HK).drewN nq
  have h1 := (h0.cell (x' := { x with role := 3 }) 6 (.int .i64 3) ⟨rfl, rfl, rfl, rfl⟩ rfl)
  have g1 := ((Fr.refl B p o w).drewN nq).trans (h0.cellFr 6 (.int .i64 3))
  have h2 := h1.cell (x' := { x with role := 3, boss := x.id }) 7 (.int .i64 x.id) ⟨rfl, rfl, rfl, rfl⟩ rfl
  have g2 := h1.cellFr 7 (.int .i64 x.id)
  have h3 := h2.setV (v' := .slice none 0 0) (L := []) (World.grownBy.refl _ _) (World.ownsRow_nil _ _ _ _) (Upd.nil _ _)
  have HK2 := hide h3.1
  have HF2 := hide ((g1.trans g2).trans h3.2)
  clear h0 h1 g1 h2 g2 h3 CM b1 hmost
  generalize World.setCell (World.setCell (World.setCell (World.drewN w nq) ⟨p, 6, none⟩ (.int .i64 3)) ⟨p, 7, none⟩ (.int .i64 x.id)) ⟨p, 8, none⟩ (.slice none 0 0) = w2 at HK2 HF2 ⊢
  clear HE hLL hVL hNL hML hSL c1' hp c0 c2 c3 c4 c5 c6 c7 c8 c9 c10 c11 f0 f1 f2 f3 f4 f5 f6 f7 f8 f9 f10 f11 r1 r2 r3 r4
  obtain ⟨la, LL, lc, va, VL, vc, na, NL, nc, ma, ML, mc, sa, SL, sc, HE, hLL, hVL, hNL, hML, hSL, ⟨r1, r2, r3, r4⟩, ⟨c0, c1, c2, c3, c4, c5, c6, c7, c8, c9, c10, c11⟩, ⟨f0, f1, f2, f3, f4, f5, f6, f7, f8, f9, f10, f11⟩⟩ := (unhide HK2).tell
  have c1' : w2.cell? ⟨p, 1, none⟩ = some (.int .i64 (N : Int)) := c1.trans (by show some (Value.int .i64 x.n) = _; rw [unhide HN])
  clear c1
  have hp := (unhide HK2).lo
  have ew : IntKind.i64.wrap ((LL : Int) + 1) = (LL : Int) + 1 := by have q := unhide hLL; have q2 := (unhide HR).log; simp only at q; exact wrap_i64 (by omega) (by omega)
  have CR : Hid (Calls Try.prog 51 #[.slice (some ⟨w2.heap.size, 0, none⟩) 1 1, .int .i64 (N : Int)] (w2.alloc (.cells #[.int .i64 ((LL : Int) + 1)] 3)).drew fun e wR => ∃ ra RL rc, e = .returned (.slice ra RL rc) ∧ BK wR p 46 (workC { x with role := 3, boss := x.id, votes := [] } { o with v := .slice none 0 0 }) ∧ p < wR.heap.size ∧
      Hid (WK B (wR.setCell ⟨p, 9, none⟩ (.slice ra RL rc)) p { x with role := 3, boss := x.id, votes := [], next := List.replicate N ((LL : Int) + 1) } ms { o with v := .slice none 0 0, n := .slice ra RL rc } ∧ Fr B p o w { o with v := .slice none 0 0, n := .slice ra RL rc } (wR.setCell ⟨p, 9, none⟩ (.slice ra RL rc)))) := hide (by
    refine (repeat_any ((LL : Int) + 1) N w2.heap.size hN1 hN5 (w2.alloc (.cells #[.int .i64 ((LL : Int) + 1)] 3)).drew (BK.at (BK.new w2 3 #[.int .i64 ((LL : Int) + 1)]) (j := 0) rfl) (by show w2.heap.size < (w2.alloc _).heap.size; simp)).mono ?_
    rintro e wR ⟨v', rfl, ho, hb⟩
    have hb1 : Below w2.heap.size w2 wR := ((below_new w2 (.cells #[.int .i64 ((LL : Int) + 1)] 3)).drew).trans (hb.mono (by show w2.heap.size ≤ (w2.alloc _).heap.size; simp))
    have hl : (List.replicate N ((LL : Int) + 1)).length = N := List.length_replicate
    obtain ⟨ra, RL, rc, rfl, _, _, _⟩ := SC.shp (SC.own ho)
    have hB : B ≤ w2.heap.size := (unhide HK2).szB
    have hsz : w2.heap.size ≤ (w2.alloc (.cells #[.int .i64 ((LL : Int) + 1)] 3)).drew.heap.size := by show w2.heap.size ≤ (w2.alloc _).heap.size; simp
    have S := (unhide HK2).setN (n' := .slice ra RL rc) (L := List.replicate N ((LL : Int) + 1)) (w1 := wR) (grown_below' hb1 _) (by rw [hl]; exact own_mono ho (Nat.le_trans hB hsz)) (.inr fun k hk => Nat.le_trans hsz (World.ownsRow.lt ho k hk).1)
    exact ⟨ra, RL, rc, rfl, (unhide HK2).blk.keep hb1, Nat.lt_of_lt_of_le hp hb1.size, hide ⟨S.1, (unhide HF2).trans S.2⟩⟩)
  obtain ⟨LLx, hLLx⟩ : ∃ z, z = LL := ⟨_, rfl⟩
  have LEQ : Hid (LLx = x.log.length) := hide (hLLx.trans (unhide hLL))
  have hLX := hide hLLx
  clear hLLx
  go_region_held2 (fun w' => w'.cell? ⟨p, 4, none⟩ = some (.slice la LL lc) ∧ w'.cell? ⟨p, 1, none⟩ = some (.int .i64 (N : Int))) (first | go_keep | exact ⟨(cell_set_ne _ _ _ _ _ (by decide)).trans k4, (cell_set_ne _ _ _ _ _ (by decide)).trans k1⟩)
    ((go_at_call 51; with_reducible refine (unhide CR).mono ?_; rintro e wR ⟨ra, RL, rc, rfl, bp, pR, FI⟩; have c9' := bp.at (j := 9) rfl; have f9' := bp.thaw 9; have k4 : wR.cell? ⟨p, 4, none⟩ = some (.slice la LL lc) := (bp.at (j := 4) rfl).trans (congrArg some (unhide HE).1); have k1 : wR.cell? ⟨p, 1, none⟩ = some (.int .i64 (N : Int)) := (bp.at (j := 1) (u := .int .i64 x.n) rfl).trans (by rw [unhide HN]); clear bp))
  all_goals
    have HK3 := hide (unhide FI).1
    have HF3 := hide (unhide FI).2
    go_upto_region 3 with fail
    generalize World.setCell wR ⟨p, 9, none⟩ (.slice ra RL rc) = w3 at HK3 HF3 ⊢
    rw [← unhide hLX] at HK3
    clear FI c9' f9' pR k4 k1 hLX HE hLL hVL hNL hML hSL c1' hp CR ew c0 c2 c3 c4 c5 c6 c7 c8 c9 c10 c11 f0 f1 f2 f3 f4 f5 f6 f7 f8 f9 f10 f11 r1 r2 r3 r4
    obtain ⟨la, LL, lc, va, VL, vc, na, NL, nc, ma, ML, mc, sa, SL, sc, HE, hLL, hVL, hNL, hML, hSL, ⟨r1, r2, r3, r4⟩, ⟨c0, c1, c2, c3, c4, c5, c6, c7, c8, c9, c10, c11⟩, ⟨f0, f1, f2, f3, f4, f5, f6, f7, f8, f9, f10, f11⟩⟩ := (unhide HK3).tell
    have c1' : w3.cell? ⟨p, 1, none⟩ = some (.int .i64 (N : Int)) := c1.trans (by show some (Value.int .i64 x.n) = _; rw [unhide HN])
    clear c1
    have hp := (unhide HK3).lo
    have b2 : Hid (i0.bytes * N ≤ 281474976710656) := hide (by rw [unhide I3']; omega)
    have PM2 : Hid (∀ w4, w4.ownsRow w3.heap.size 3 1 (.slice (some ⟨w3.heap.size, 0, none⟩) N N) N (madeCells (Value.int .i64 0).cells (N * 1)).toList → w3.grownBy w4 none → w4.cell? ⟨p, 10, none⟩ = some (.slice ma ML mc) ∧ w4.frozen? ⟨p, 10, none⟩ = false ∧ p < w4.heap.size ∧ Hid (WK B (w4.setCell ⟨p, 10, none⟩ (.slice (some ⟨w3.heap.size, 0, none⟩) N N)) p (Rf.crowned x) ms { o with v := .slice none 0 0, n := .slice ra RL rc, m := .slice (some ⟨w3.heap.size, 0, none⟩) N N } ∧ Fr B p o w { o with v := .slice none 0 0, n := .slice ra RL rc, m := .slice (some ⟨w3.heap.size, 0, none⟩) N N } (w4.setCell ⟨p, 10, none⟩ (.slice (some ⟨w3.heap.size, 0, none⟩) N N)))) := hide (fun w4 ho hg => by
      have hb : Below w3.heap.size w3 w4 := own_old (World.ownsRow_nil w3 w3.heap.size 3 1) hg (Nat.le_refl _)
      have S := (unhide HK3).setM (m' := .slice (some ⟨w3.heap.size, 0, none⟩) N N) (L := List.replicate N 0) (w1 := w4) (grown_below' hb _) (by rw [List.length_replicate, ← made_zeros]; exact own_mono ho (unhide HK3).szB) (.inr fun k hk => (World.ownsRow.lt ho k hk).1)
      have EC : Rf.crowned x = { x with role := 3, boss := x.id, votes := [], next := List.replicate N ((LLx : Int) + 1), mtch := List.replicate N 0 } := by
        have e := unhide LEQ
        rw [Rf.crowned, unhide HN, Int.toNat_natCast, e]
      rw [EC]
      exact ⟨((unhide HK3).blk.keep hb).at (j := 10) (by show some _ = some _; exact congrArg some (unhide HE).2.2.2.1), ((unhide HK3).blk.keep hb).thaw 10, Nat.lt_of_lt_of_le hp hb.size, hide ⟨S.1, (unhide HF3).trans S.2⟩⟩)
    go_wp2_with (at_make; refine wpList_make_full _ rfl _ _ 23 rfl _ 3 i0 (.int .i64 0) 1 Try.underlying23 (unhide I0') (unhide I1') (unhide I2') .i64 .i64 _ _ N rfl rfl rfl rfl (unhide b2) (by unfold maxLen; omega) (Nat.le_refl _) ?_; intro w4 ho4 hg4; obtain ⟨d10, e10, p4, FJ⟩ := unhide PM2 w4 ho4 hg4; clear ho4 hg4)
    have CP := hide (put_any B p (Rf.crowned x) ms _ 0 _ (unhide FJ).1 (unhide RC) rfl (by omega))
    have HF4 := hide (unhide FJ).2
    generalize World.setCell w4 ⟨p, 10, none⟩ (.slice (some ⟨w3.heap.size, 0, none⟩) N N) = w5 at CP HF4 ⊢
    clear FJ PM2
    go_wp2_with (go_at_call 33; refine (unhide CP).mono ?_; rintro e w6 ⟨rfl, o6, hK6, hF6⟩)
    have FIN := hide (And.intro hK6 ((unhide HF4).trans hF6))
    clear hK6 hF6 CP
    go_end0
    rw [unhide EE]
    exact ⟨rfl, _, (unhide FIN).1, (unhide FIN).2⟩

end Go.Proofs.Ytiplnegiphhdlaa.RW
