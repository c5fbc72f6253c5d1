/- Walks: ofNode of what is in a list: a region that draws. (Written by gen_yi2.py.) -/
import Derived.Test.YtdgojpjmhalilaaGreatDoorG18
import Derived.Test.YtdgojpjmhalilaaGreatDoorG10
namespace Go.Proofs.YtdgojpjmhalilaaGreatDoor
open Go.RowKit

theorem SL.two {B : Nat} {w : World} {v : Value} {a b : Sp} (h : SL B w v [a, b]) : ∃ g off cap, v = .slice (some ⟨g, off, none⟩) 2 cap ∧ g < w.heap.size ∧ w.cell? ⟨g, off + 0 * 2, none⟩ = some (.int .i64 (a.n : Int)) ∧ w.cell? ⟨g, off + 0 * 2 + 1, none⟩ = some (.int .i64 a.k) ∧ w.cell? ⟨g, off + 1 * 2, none⟩ = some (.int .i64 (b.n : Int)) ∧ w.cell? ⟨g, off + 1 * 2 + 1, none⟩ = some (.int .i64 b.k) := by
  obtain ⟨h1, a', cap, rfl, h3⟩ := h
  obtain ⟨g, off, rfl, _, hg, hc⟩ := h3 (by simp)
  exact ⟨g, off, cap, rfl, hg, (hc 0 a rfl).1, (hc 0 a rfl).2, (hc 1 b rfl).1, (hc 1 b rfl).2⟩

set_option maxRecDepth 100000 in
theorem frame_82 {a : Act} (hs : a.tmps.size = 82) (hd : a.defers = []) :
    ∃ v0 v1 v2 v3 v4 v5 v6 v7 v8 v9 v10 v11 v12 v13 v14 v15 v16 v17 v18 v19 v20 v21 v22 v23 v24 v25 v26 v27 v28 v29 v30 v31 v32 v33 v34 v35 v36 v37 v38 v39 v40 v41 v42 v43 v44 v45 v46 v47 v48 v49 v50 v51 v52 v53 v54 v55 v56 v57 v58 v59 v60 v61 v62 v63 v64 v65 v66 v67 v68 v69 v70 v71 v72 v73 v74 v75 v76 v77 v78 v79 v80 v81 : Value, a = { tmps := #[v0, v1, v2, v3, v4, v5, v6, v7, v8, v9, v10, v11, v12, v13, v14, v15, v16, v17, v18, v19, v20, v21, v22, v23, v24, v25, v26, v27, v28, v29, v30, v31, v32, v33, v34, v35, v36, v37, v38, v39, v40, v41, v42, v43, v44, v45, v46, v47, v48, v49, v50, v51, v52, v53, v54, v55, v56, v57, v58, v59, v60, v61, v62, v63, v64, v65, v66, v67, v68, v69, v70, v71, v72, v73, v74, v75, v76, v77, v78, v79, v80, v81], defers := [] } ∧ v4 = G a 4 ∧ v5 = G a 5 := by
  have e : a = { tmps := #[G a 0, G a 1, G a 2, G a 3, G a 4, G a 5, G a 6, G a 7, G a 8, G a 9, G a 10, G a 11, G a 12, G a 13, G a 14, G a 15, G a 16, G a 17, G a 18, G a 19, G a 20, G a 21, G a 22, G a 23, G a 24, G a 25, G a 26, G a 27, G a 28, G a 29, G a 30, G a 31, G a 32, G a 33, G a 34, G a 35, G a 36, G a 37, G a 38, G a 39, G a 40, G a 41, G a 42, G a 43, G a 44, G a 45, G a 46, G a 47, G a 48, G a 49, G a 50, G a 51, G a 52, G a 53, G a 54, G a 55, G a 56, G a 57, G a 58, G a 59, G a 60, G a 61, G a 62, G a 63, G a 64, G a 65, G a 66, G a 67, G a 68, G a 69, G a 70, G a 71, G a 72, G a 73, G a 74, G a 75, G a 76, G a 77, G a 78, G a 79, G a 80, G a 81], defers := [] } := frame_is hs hd
  exact ⟨_, _, _, _, _, _, _, _, _, _, _, _, _, _, _, _, _, _, _, _, _, _, _, _, _, _, _, _, _, _, _, _, _, _, _, _, _, _, _, _, _, _, _, _, _, _, _, _, _, _, _, _, _, _, _, _, _, _, _, _, _, _, _, _, _, _, _, _, _, _, _, _, _, _, _, _, _, _, _, _, _, _, e, rfl, rfl⟩

set_option maxRecDepth 100000 in
set_option maxHeartbeats 8000000 in
theorem ofNode_in {B : Nat} {v : Value} (a b : Sp) (w : World) (h : SL B w v [a, b]) (ha : a.n ≤ 100000) (hb : b.n ≤ 100000) :
    Calls Tryz.prog 25 #[.int .i64 14, v] w fun e w' => e = .returned (.tuple #[shn 0 2, .bool (b.mayB 5 && a.meetB b.elem)]) ∧ Below w.heap.size w w' := by
  obtain ⟨g, off, cap, rfl, hg, c0, c1, c2, c3⟩ := h.two
  clear h
  have MB := hide (fun wx => mayBe_any b 5 wx)
  have EL := hide (fun wx => elem_any b wx hb)
  have MM := hide (fun wx => mayMeet_any a b.elem wx ha (Nat.le_trans (elem_bd b) hb))
  generalize b.mayB 5 = p at *
  generalize a.meetB b.elem = q at *
  generalize b.elem = b2 at *
  obtain ⟨w0, hw0⟩ : ∃ w0, w0 = w.alloc (.cells #[.int .i64 0, .int .i64 0] 47) := ⟨_, rfl⟩
  have HX : Hid (Bx2 w0 w.heap.size (.int .i64 0) (.int .i64 0)) := hide (by rw [hw0]; exact Bx2.new w 47 (.int .i64 0) (.int .i64 0))
  have HB : Hid (Below w.heap.size w w0) := hide (by rw [hw0]; exact (Below.refl w.heap.size w).alloc (Nat.le_refl _) _)
  have KP : Hid (∀ wx, Below w0.heap.size w0 wx → wx.cell? ⟨g, off + 0 * 2, none⟩ = some (.int .i64 (a.n : Int)) ∧ wx.cell? ⟨g, off + 0 * 2 + 1, none⟩ = some (.int .i64 a.k) ∧ wx.cell? ⟨g, off + 1 * 2, none⟩ = some (.int .i64 (b.n : Int)) ∧ wx.cell? ⟨g, off + 1 * 2 + 1, none⟩ = some (.int .i64 b.k)) := hide (fun wx hbx => by
    have hw := below_via (unhide HB) hbx
    exact ⟨(hw.cell (p := ⟨g, off + 0 * 2, none⟩) hg).trans c0, (hw.cell (p := ⟨g, off + 0 * 2 + 1, none⟩) hg).trans c1, (hw.cell (p := ⟨g, off + 1 * 2, none⟩) hg).trans c2, (hw.cell (p := ⟨g, off + 1 * 2 + 1, none⟩) hg).trans c3⟩)
  clear c0 c1 c2 c3 hg ha hb
  cases p
  all_goals
    go_enter Tryz.func25, Tryz.ntmps25
    go_upto_region 18 with fail
    rw [← hw0]
    clear hw0
    refine frame_name ?_
    intro f0 hf0
    have s1 : G f0 1 = .slice (some ⟨g, off, none⟩) 2 cap := by rw [hf0]; rfl
    have s4 : G f0 4 = .pointer (some ⟨w.heap.size, 0, none⟩) := by rw [hf0]; rfl
    have hsz : f0.tmps.size = 82 := by rw [hf0]; rfl
    have hdf : f0.defers = [] := by rw [hf0]
  ·
    have s5 : True := trivial
    refine region_any (I := RS w0 f0 82 [42, 43, 44, 45, 46, 47, 48, 49, 50, 51, 52, 53, 54, 55, 56, 1000, 5] 15 (fun w' => Below w.heap.size w w' ∧ Bx2 w' w.heap.size (.int .i64 0) (.int .i64 2)) [.lit (shn 0 2), .lit (.slice (some ⟨g, off, none⟩) 2 cap), .lit (.pointer (some ⟨g, off + 1 * 2, none⟩)), .lit (sh b), .lit (.bool false), .lit (.bool false), .any, .any, .any, .any, .any, .any, .any, .any, .lit (.bool false), .any, .lit (.bool false)]) (by kernel_rfl) ?wait ?step ?done ?start
    case wait => exact ⟨by simp <;> rfl, by simp <;> rfl, by simp <;> rfl, by simp <;> rfl, by simp <;> rfl, by simp <;> rfl, by simp <;> rfl, by simp <;> rfl, by simp <;> rfl, by simp <;> rfl, by simp <;> rfl, by simp <;> rfl, by simp <;> rfl, by simp <;> rfl, by simp <;> rfl, by simp <;> rfl, by simp <;> rfl, trivial⟩
    case start => exact RS.start hsz hdf ((Below.refl _ _).drew)
    case step =>
      refine ⟨?_, ?_, ?_, ?_, ?_, ?_, ?_, ?_, ?_, ?_, ?_, ?_, ?_, ?_, ?_, ?_, ?_, trivial⟩
      · rintro L fa wx h hcl hL hw2
        exact rs_call (R := fun v _ => v = shn 0 2) h (by decide) rfl rfl rfl (by decide) (by decide) (Bool.eq_false_iff.2 fun hq => by have hz := (hcl 15 _ rfl hq ⟨0, .data⟩ (by simp) rfl); rw [hL] at hz; cases hz) rfl (run_call1 rfl callPlain) (xr2 (plain_any 2 _)) (fun _ _ q => q)
      · rintro L fa wx h hcl hL hw2
        exact rs_val h (by decide) rfl rfl rfl (by decide) (by decide) rfl (run_mv (eval_G ((h.keep (s := 1) (by decide)).trans s1))) rfl
      · rintro L fa wx h hcl hL hw2
        exact rs_val h (by decide) rfl rfl rfl (by decide) (by decide) rfl (run_ixS (i := 1) (eval_G (show G fa 43 = .slice (some ⟨g, off, none⟩) 2 cap from oks_lit (h.got 1 43 (hw2 ⟨1, .data⟩ (by simp) rfl) rfl) rfl)) rfl (by decide)) rfl
      · rintro L fa wx h hcl hL hw2
        exact rs_val h (by decide) rfl rfl rfl (by decide) (by decide) rfl (run_ldS (eval_G (show G fa 44 = .pointer (some ⟨g, off + 1 * 2, none⟩) from oks_lit (h.got 2 44 (hw2 ⟨2, .data⟩ (by simp) rfl) rfl) rfl)) ((unhide KP _ (h.old (Bool.eq_false_iff.2 fun hq => by have hz := (hcl 4 _ rfl (hcl 5 _ rfl (hcl 12 _ rfl (hcl 13 _ rfl (hcl 15 _ rfl hq ⟨13, .chain⟩ (by simp) rfl) ⟨12, .data⟩ (by simp) rfl) ⟨5, .chain⟩ (by simp) rfl) ⟨4, .data⟩ (by simp) rfl) ⟨3, .data⟩ (by simp) rfl); rw [hL] at hz; cases hz))).2.2.1) ((unhide KP _ (h.old (Bool.eq_false_iff.2 fun hq => by have hz := (hcl 4 _ rfl (hcl 5 _ rfl (hcl 12 _ rfl (hcl 13 _ rfl (hcl 15 _ rfl hq ⟨13, .chain⟩ (by simp) rfl) ⟨12, .data⟩ (by simp) rfl) ⟨5, .chain⟩ (by simp) rfl) ⟨4, .data⟩ (by simp) rfl) ⟨3, .data⟩ (by simp) rfl); rw [hL] at hz; cases hz))).2.2.2)) rfl
      · rintro L fa wx h hcl hL hw2
        exact rs_call (R := fun v _ => v = .bool false) h (by decide) rfl rfl rfl (by decide) (by decide) (Bool.eq_false_iff.2 fun hq => by have hz := (hcl 5 _ rfl (hcl 12 _ rfl (hcl 13 _ rfl (hcl 15 _ rfl hq ⟨13, .chain⟩ (by simp) rfl) ⟨12, .data⟩ (by simp) rfl) ⟨5, .chain⟩ (by simp) rfl) ⟨4, .data⟩ (by simp) rfl); rw [hL] at hz; cases hz) rfl (run_call2 (eval_G (show G fa 45 = sh b from oks_lit (h.got 3 45 (hw2 ⟨3, .data⟩ (by simp) rfl) rfl) rfl)) rfl callMayBe) (xr2 (unhide MB _)) (fun _ _ q => q)
      · rintro L fa wx h hcl hL hw2
        exact rs_val h (by decide) rfl rfl rfl (by decide) (by decide) rfl (run_mv (eval_G (show G fa 46 = .bool false from oks_lit (h.got 4 46 (hw2 ⟨4, .data⟩ (by simp) rfl) rfl) rfl))) rfl
      · rintro L fa wx h hcl hL hw2
        exact rs_skip h (by decide) rfl rfl rfl (by decide) (by decide) ((wanted_is (j := 5) (dj := 47) (b := false) (c := true) rfl rfl (by rw [h.size]; decide) (show G fa 47 = .bool false from oks_lit (h.got 5 47 (hw2 ⟨5, .guard⟩ (by simp) rfl) rfl) rfl)).trans rfl) rfl
      · rintro L fa wx h hcl hL hw2
        exact rs_skip h (by decide) rfl rfl rfl (by decide) (by decide) ((wanted_is (j := 5) (dj := 47) (b := false) (c := true) rfl rfl (by rw [h.size]; decide) (show G fa 47 = .bool false from oks_lit (h.got 5 47 (hw2 ⟨5, .guard⟩ (by simp) rfl) rfl) rfl)).trans rfl) rfl
      · rintro L fa wx h hcl hL hw2
        exact rs_skip h (by decide) rfl rfl rfl (by decide) (by decide) ((wanted_is (j := 5) (dj := 47) (b := false) (c := true) rfl rfl (by rw [h.size]; decide) (show G fa 47 = .bool false from oks_lit (h.got 5 47 (hw2 ⟨5, .guard⟩ (by simp) rfl) rfl) rfl)).trans rfl) rfl
      · rintro L fa wx h hcl hL hw2
        exact rs_skip h (by decide) rfl rfl rfl (by decide) (by decide) ((wanted_is (j := 5) (dj := 47) (b := false) (c := true) rfl rfl (by rw [h.size]; decide) (show G fa 47 = .bool false from oks_lit (h.got 5 47 (hw2 ⟨5, .guard⟩ (by simp) rfl) rfl) rfl)).trans rfl) rfl
      · rintro L fa wx h hcl hL hw2
        exact rs_skip h (by decide) rfl rfl rfl (by decide) (by decide) ((wanted_is (j := 5) (dj := 47) (b := false) (c := true) rfl rfl (by rw [h.size]; decide) (show G fa 47 = .bool false from oks_lit (h.got 5 47 (hw2 ⟨5, .guard⟩ (by simp) rfl) rfl) rfl)).trans rfl) rfl
      · rintro L fa wx h hcl hL hw2
        exact rs_skip h (by decide) rfl rfl rfl (by decide) (by decide) ((wanted_is (j := 5) (dj := 47) (b := false) (c := true) rfl rfl (by rw [h.size]; decide) (show G fa 47 = .bool false from oks_lit (h.got 5 47 (hw2 ⟨5, .guard⟩ (by simp) rfl) rfl) rfl)).trans rfl) rfl
      · rintro L fa wx h hcl hL hw2
        exact rs_skip h (by decide) rfl rfl rfl (by decide) (by decide) ((wanted_is (j := 5) (dj := 47) (b := false) (c := true) rfl rfl (by rw [h.size]; decide) (show G fa 47 = .bool false from oks_lit (h.got 5 47 (hw2 ⟨5, .guard⟩ (by simp) rfl) rfl) rfl)).trans rfl) rfl
      · rintro L fa wx h hcl hL hw2
        exact rs_skip h (by decide) rfl rfl rfl (by decide) (by decide) ((wanted_is (j := 5) (dj := 47) (b := false) (c := true) rfl rfl (by rw [h.size]; decide) (show G fa 47 = .bool false from oks_lit (h.got 5 47 (hw2 ⟨5, .guard⟩ (by simp) rfl) rfl) rfl)).trans rfl) rfl
      · rintro L fa wx h hcl hL hw2
        exact rs_val h (by decide) rfl rfl rfl (by decide) (by decide) rfl (run_pickF (eval_G (show G fa 47 = .bool false from oks_lit (h.got 5 47 (hw2 ⟨5, .data⟩ (by simp) rfl) rfl) rfl)) rfl) rfl
      · rintro L fa wx h hcl hL hw2
        exact rs_store2 h rfl hL rfl ((h.keep (s := 4) (by decide)).trans s4) (show G fa 42 = shn 0 2 from oks_lit (h.got 0 42 (hw2 ⟨0, .data⟩ (by simp) rfl) rfl) rfl) ((unhide HX).keep (h.old hL) (unhide HX).low) ⟨((below_via (unhide HB) (h.old hL)).setCell (p := ⟨w.heap.size, 0, none⟩) (Nat.le_refl _) _).setCell (p := ⟨w.heap.size, 1, none⟩) (Nat.le_refl _) _, ((unhide HX).keep (h.old hL) (unhide HX).low).put _ _⟩
      · rintro L fa wx h hcl hL hw2
        exact rs_val h (by decide) rfl rfl rfl (by decide) (by decide) rfl (run_asg (eval_G (show G fa 56 = .bool false from oks_lit (h.got 14 56 (hw2 ⟨14, .data⟩ (by simp) rfl) rfl) rfl))) rfl
    case done =>
      rintro L f1 w3 h hall
      obtain ⟨hb, R⟩ := h.fin (hall 15 (by simp))
      replace s4 := (h.keep (s := 4) (by decide)).trans s4
      have r5 : G f1 5 = .bool false := oks_lit (h.got 16 5 (hall 16 (by simp)) rfl) rfl
      replace hsz := h.size
      replace hdf := h.defs
      have HW := hide hb
      have x0 := R.at0
      have x1 := R.at1
      clear h hall hf0 MB EL MM KP HX HB s1 s5 hb R
      obtain ⟨v0, v1, v2, v3, v4, v5, v6, v7, v8, v9, v10, v11, v12, v13, v14, v15, v16, v17, v18, v19, v20, v21, v22, v23, v24, v25, v26, v27, v28, v29, v30, v31, v32, v33, v34, v35, v36, v37, v38, v39, v40, v41, v42, v43, v44, v45, v46, v47, v48, v49, v50, v51, v52, v53, v54, v55, v56, v57, v58, v59, v60, v61, v62, v63, v64, v65, v66, v67, v68, v69, v70, v71, v72, v73, v74, v75, v76, v77, v78, v79, v80, v81, rfl, q4, q5⟩ := frame_82 hsz hdf
      rw [s4] at q4
      rw [r5] at q5
      subst q4 q5
      clear s4 r5 hsz hdf
      go_wp2
      exact bodyPost_ret (v := .tuple #[shn 0 2, .bool false]) (by simp [results, Tryz.results25, go_sem, x0, x1]) rfl ⟨by simp, unhide HW⟩
  ·
    have s5 : True := trivial
    refine region_any (I := RS w0 f0 82 [42, 43, 44, 45, 46, 47, 48, 49, 50, 51, 52, 53, 54, 55, 56, 1000, 5] 15 (fun w' => Below w.heap.size w w' ∧ Bx2 w' w.heap.size (.int .i64 0) (.int .i64 2)) [.lit (shn 0 2), .lit (.slice (some ⟨g, off, none⟩) 2 cap), .lit (.pointer (some ⟨g, off + 1 * 2, none⟩)), .lit (sh b), .lit (.bool true), .lit (.bool true), .lit (.slice (some ⟨g, off, none⟩) 2 cap), .lit (.pointer (some ⟨g, off + 0 * 2, none⟩)), .lit (sh a), .lit (.slice (some ⟨g, off, none⟩) 2 cap), .lit (.pointer (some ⟨g, off + 1 * 2, none⟩)), .lit (sh b), .lit (sh b2), .lit (.bool q), .lit (.bool q), .any, .lit (.bool q)]) (by kernel_rfl) ?wait ?step ?done ?start
    case wait => exact ⟨by simp <;> rfl, by simp <;> rfl, by simp <;> rfl, by simp <;> rfl, by simp <;> rfl, by simp <;> rfl, by simp <;> rfl, by simp <;> rfl, by simp <;> rfl, by simp <;> rfl, by simp <;> rfl, by simp <;> rfl, by simp <;> rfl, by simp <;> rfl, by simp <;> rfl, by simp <;> rfl, by simp <;> rfl, trivial⟩
    case start => exact RS.start hsz hdf ((Below.refl _ _).drew)
    case step =>
      refine ⟨?_, ?_, ?_, ?_, ?_, ?_, ?_, ?_, ?_, ?_, ?_, ?_, ?_, ?_, ?_, ?_, ?_, trivial⟩
      · rintro L fa wx h hcl hL hw2
        exact rs_call (R := fun v _ => v = shn 0 2) h (by decide) rfl rfl rfl (by decide) (by decide) (Bool.eq_false_iff.2 fun hq => by have hz := (hcl 15 _ rfl hq ⟨0, .data⟩ (by simp) rfl); rw [hL] at hz; cases hz) rfl (run_call1 rfl callPlain) (xr2 (plain_any 2 _)) (fun _ _ q => q)
      · rintro L fa wx h hcl hL hw2
        exact rs_val h (by decide) rfl rfl rfl (by decide) (by decide) rfl (run_mv (eval_G ((h.keep (s := 1) (by decide)).trans s1))) rfl
      · rintro L fa wx h hcl hL hw2
        exact rs_val h (by decide) rfl rfl rfl (by decide) (by decide) rfl (run_ixS (i := 1) (eval_G (show G fa 43 = .slice (some ⟨g, off, none⟩) 2 cap from oks_lit (h.got 1 43 (hw2 ⟨1, .data⟩ (by simp) rfl) rfl) rfl)) rfl (by decide)) rfl
      · rintro L fa wx h hcl hL hw2
        exact rs_val h (by decide) rfl rfl rfl (by decide) (by decide) rfl (run_ldS (eval_G (show G fa 44 = .pointer (some ⟨g, off + 1 * 2, none⟩) from oks_lit (h.got 2 44 (hw2 ⟨2, .data⟩ (by simp) rfl) rfl) rfl)) ((unhide KP _ (h.old (Bool.eq_false_iff.2 fun hq => by have hz := (hcl 4 _ rfl (hcl 5 _ rfl (hcl 12 _ rfl (hcl 13 _ rfl (hcl 15 _ rfl hq ⟨13, .chain⟩ (by simp) rfl) ⟨12, .data⟩ (by simp) rfl) ⟨5, .chain⟩ (by simp) rfl) ⟨4, .data⟩ (by simp) rfl) ⟨3, .data⟩ (by simp) rfl); rw [hL] at hz; cases hz))).2.2.1) ((unhide KP _ (h.old (Bool.eq_false_iff.2 fun hq => by have hz := (hcl 4 _ rfl (hcl 5 _ rfl (hcl 12 _ rfl (hcl 13 _ rfl (hcl 15 _ rfl hq ⟨13, .chain⟩ (by simp) rfl) ⟨12, .data⟩ (by simp) rfl) ⟨5, .chain⟩ (by simp) rfl) ⟨4, .data⟩ (by simp) rfl) ⟨3, .data⟩ (by simp) rfl); rw [hL] at hz; cases hz))).2.2.2)) rfl
      · rintro L fa wx h hcl hL hw2
        exact rs_call (R := fun v _ => v = .bool true) h (by decide) rfl rfl rfl (by decide) (by decide) (Bool.eq_false_iff.2 fun hq => by have hz := (hcl 5 _ rfl (hcl 12 _ rfl (hcl 13 _ rfl (hcl 15 _ rfl hq ⟨13, .chain⟩ (by simp) rfl) ⟨12, .data⟩ (by simp) rfl) ⟨5, .chain⟩ (by simp) rfl) ⟨4, .data⟩ (by simp) rfl); rw [hL] at hz; cases hz) rfl (run_call2 (eval_G (show G fa 45 = sh b from oks_lit (h.got 3 45 (hw2 ⟨3, .data⟩ (by simp) rfl) rfl) rfl)) rfl callMayBe) (xr2 (unhide MB _)) (fun _ _ q => q)
      · rintro L fa wx h hcl hL hw2
        exact rs_val h (by decide) rfl rfl rfl (by decide) (by decide) rfl (run_mv (eval_G (show G fa 46 = .bool true from oks_lit (h.got 4 46 (hw2 ⟨4, .data⟩ (by simp) rfl) rfl) rfl))) rfl
      · rintro L fa wx h hcl hL hw2
        exact rs_val h (by decide) rfl rfl rfl (by decide) (by decide) ((wanted_is (j := 5) (dj := 47) (b := true) (c := true) rfl rfl (by rw [h.size]; decide) (show G fa 47 = .bool true from oks_lit (h.got 5 47 (hw2 ⟨5, .guard⟩ (by simp) rfl) rfl) rfl)).trans rfl) (run_mv (eval_G ((h.keep (s := 1) (by decide)).trans s1))) rfl
      · rintro L fa wx h hcl hL hw2
        exact rs_val h (by decide) rfl rfl rfl (by decide) (by decide) ((wanted_is (j := 5) (dj := 47) (b := true) (c := true) rfl rfl (by rw [h.size]; decide) (show G fa 47 = .bool true from oks_lit (h.got 5 47 (hw2 ⟨5, .guard⟩ (by simp) rfl) rfl) rfl)).trans rfl) (run_ixS (i := 0) (eval_G (show G fa 48 = .slice (some ⟨g, off, none⟩) 2 cap from oks_lit (h.got 6 48 (hw2 ⟨6, .data⟩ (by simp) rfl) rfl) rfl)) rfl (by decide)) rfl
      · rintro L fa wx h hcl hL hw2
        exact rs_val h (by decide) rfl rfl rfl (by decide) (by decide) ((wanted_is (j := 5) (dj := 47) (b := true) (c := true) rfl rfl (by rw [h.size]; decide) (show G fa 47 = .bool true from oks_lit (h.got 5 47 (hw2 ⟨5, .guard⟩ (by simp) rfl) rfl) rfl)).trans rfl) (run_ldS (eval_G (show G fa 49 = .pointer (some ⟨g, off + 0 * 2, none⟩) from oks_lit (h.got 7 49 (hw2 ⟨7, .data⟩ (by simp) rfl) rfl) rfl)) ((unhide KP _ (h.old (Bool.eq_false_iff.2 fun hq => by have hz := (hcl 13 _ rfl (hcl 15 _ rfl hq ⟨13, .chain⟩ (by simp) rfl) ⟨8, .data⟩ (by simp) rfl); rw [hL] at hz; cases hz))).1) ((unhide KP _ (h.old (Bool.eq_false_iff.2 fun hq => by have hz := (hcl 13 _ rfl (hcl 15 _ rfl hq ⟨13, .chain⟩ (by simp) rfl) ⟨8, .data⟩ (by simp) rfl); rw [hL] at hz; cases hz))).2.1)) rfl
      · rintro L fa wx h hcl hL hw2
        exact rs_val h (by decide) rfl rfl rfl (by decide) (by decide) ((wanted_is (j := 5) (dj := 47) (b := true) (c := true) rfl rfl (by rw [h.size]; decide) (show G fa 47 = .bool true from oks_lit (h.got 5 47 (hw2 ⟨5, .guard⟩ (by simp) rfl) rfl) rfl)).trans rfl) (run_mv (eval_G ((h.keep (s := 1) (by decide)).trans s1))) rfl
      · rintro L fa wx h hcl hL hw2
        exact rs_val h (by decide) rfl rfl rfl (by decide) (by decide) ((wanted_is (j := 5) (dj := 47) (b := true) (c := true) rfl rfl (by rw [h.size]; decide) (show G fa 47 = .bool true from oks_lit (h.got 5 47 (hw2 ⟨5, .guard⟩ (by simp) rfl) rfl) rfl)).trans rfl) (run_ixS (i := 1) (eval_G (show G fa 51 = .slice (some ⟨g, off, none⟩) 2 cap from oks_lit (h.got 9 51 (hw2 ⟨9, .data⟩ (by simp) rfl) rfl) rfl)) rfl (by decide)) rfl
      · rintro L fa wx h hcl hL hw2
        exact rs_val h (by decide) rfl rfl rfl (by decide) (by decide) ((wanted_is (j := 5) (dj := 47) (b := true) (c := true) rfl rfl (by rw [h.size]; decide) (show G fa 47 = .bool true from oks_lit (h.got 5 47 (hw2 ⟨5, .guard⟩ (by simp) rfl) rfl) rfl)).trans rfl) (run_ldS (eval_G (show G fa 52 = .pointer (some ⟨g, off + 1 * 2, none⟩) from oks_lit (h.got 10 52 (hw2 ⟨10, .data⟩ (by simp) rfl) rfl) rfl)) ((unhide KP _ (h.old (Bool.eq_false_iff.2 fun hq => by have hz := (hcl 12 _ rfl (hcl 13 _ rfl (hcl 15 _ rfl hq ⟨13, .chain⟩ (by simp) rfl) ⟨12, .data⟩ (by simp) rfl) ⟨11, .data⟩ (by simp) rfl); rw [hL] at hz; cases hz))).2.2.1) ((unhide KP _ (h.old (Bool.eq_false_iff.2 fun hq => by have hz := (hcl 12 _ rfl (hcl 13 _ rfl (hcl 15 _ rfl hq ⟨13, .chain⟩ (by simp) rfl) ⟨12, .data⟩ (by simp) rfl) ⟨11, .data⟩ (by simp) rfl); rw [hL] at hz; cases hz))).2.2.2)) rfl
      · rintro L fa wx h hcl hL hw2
        exact rs_call (R := fun v _ => v = sh b2) h (by decide) rfl rfl rfl (by decide) (by decide) (Bool.eq_false_iff.2 fun hq => by have hz := (hcl 13 _ rfl (hcl 15 _ rfl hq ⟨13, .chain⟩ (by simp) rfl) ⟨12, .data⟩ (by simp) rfl); rw [hL] at hz; cases hz) ((wanted_is (j := 5) (dj := 47) (b := true) (c := true) rfl rfl (by rw [h.size]; decide) (show G fa 47 = .bool true from oks_lit (h.got 5 47 (hw2 ⟨5, .guard⟩ (by simp) rfl) rfl) rfl)).trans rfl) (run_call1 (eval_G (show G fa 53 = sh b from oks_lit (h.got 11 53 (hw2 ⟨11, .data⟩ (by simp) rfl) rfl) rfl)) callElem) (xr2 (unhide EL _)) (fun _ _ q => q)
      · rintro L fa wx h hcl hL hw2
        exact rs_call (R := fun v _ => v = .bool q) h (by decide) rfl rfl rfl (by decide) (by decide) (Bool.eq_false_iff.2 fun hq => by have hz := (hcl 15 _ rfl hq ⟨13, .chain⟩ (by simp) rfl); rw [hL] at hz; cases hz) ((wanted_is (j := 5) (dj := 47) (b := true) (c := true) rfl rfl (by rw [h.size]; decide) (show G fa 47 = .bool true from oks_lit (h.got 5 47 (hw2 ⟨5, .guard⟩ (by simp) rfl) rfl) rfl)).trans rfl) (run_call2 (eval_G (show G fa 50 = sh a from oks_lit (h.got 8 50 (hw2 ⟨8, .data⟩ (by simp) rfl) rfl) rfl)) (eval_G (show G fa 54 = sh b2 from oks_lit (h.got 12 54 (hw2 ⟨12, .data⟩ (by simp) rfl) rfl) rfl)) callMeet) (xr2 (unhide MM _)) (fun _ _ q => q)
      · rintro L fa wx h hcl hL hw2
        exact rs_val h (by decide) rfl rfl rfl (by decide) (by decide) rfl (run_pickT (eval_G (show G fa 47 = .bool true from oks_lit (h.got 5 47 (hw2 ⟨5, .data⟩ (by simp) rfl) rfl) rfl)) (eval_G (show G fa 55 = .bool q from oks_lit (h.got 13 55 (hw2 ⟨13, .data⟩ (by simp) rfl) rfl) rfl))) rfl
      · rintro L fa wx h hcl hL hw2
        exact rs_store2 h rfl hL rfl ((h.keep (s := 4) (by decide)).trans s4) (show G fa 42 = shn 0 2 from oks_lit (h.got 0 42 (hw2 ⟨0, .data⟩ (by simp) rfl) rfl) rfl) ((unhide HX).keep (h.old hL) (unhide HX).low) ⟨((below_via (unhide HB) (h.old hL)).setCell (p := ⟨w.heap.size, 0, none⟩) (Nat.le_refl _) _).setCell (p := ⟨w.heap.size, 1, none⟩) (Nat.le_refl _) _, ((unhide HX).keep (h.old hL) (unhide HX).low).put _ _⟩
      · rintro L fa wx h hcl hL hw2
        exact rs_val h (by decide) rfl rfl rfl (by decide) (by decide) rfl (run_asg (eval_G (show G fa 56 = .bool q from oks_lit (h.got 14 56 (hw2 ⟨14, .data⟩ (by simp) rfl) rfl) rfl))) rfl
    case done =>
      rintro L f1 w3 h hall
      obtain ⟨hb, R⟩ := h.fin (hall 15 (by simp))
      replace s4 := (h.keep (s := 4) (by decide)).trans s4
      have r5 : G f1 5 = .bool q := oks_lit (h.got 16 5 (hall 16 (by simp)) rfl) rfl
      replace hsz := h.size
      replace hdf := h.defs
      have HW := hide hb
      have x0 := R.at0
      have x1 := R.at1
      clear h hall hf0 MB EL MM KP HX HB s1 s5 hb R
      obtain ⟨v0, v1, v2, v3, v4, v5, v6, v7, v8, v9, v10, v11, v12, v13, v14, v15, v16, v17, v18, v19, v20, v21, v22, v23, v24, v25, v26, v27, v28, v29, v30, v31, v32, v33, v34, v35, v36, v37, v38, v39, v40, v41, v42, v43, v44, v45, v46, v47, v48, v49, v50, v51, v52, v53, v54, v55, v56, v57, v58, v59, v60, v61, v62, v63, v64, v65, v66, v67, v68, v69, v70, v71, v72, v73, v74, v75, v76, v77, v78, v79, v80, v81, rfl, q4, q5⟩ := frame_82 hsz hdf
      rw [s4] at q4
      rw [r5] at q5
      subst q4 q5
      clear s4 r5 hsz hdf
      go_wp2
      exact bodyPost_ret (v := .tuple #[shn 0 2, .bool q]) (by simp [results, Tryz.results25, go_sem, x0, x1]) rfl ⟨by simp, unhide HW⟩
end Go.Proofs.YtdgojpjmhalilaaGreatDoor

/- Walks: ofNode, regions that draw. (Written by gen_ye.py.) -/
namespace Go.Proofs.YtdgojpjmhalilaaGreatDoor
open Go.RowKit

set_option maxHeartbeats 8000000 in
theorem ofNode_if {B : Nat} {v : Value} (k : Int) (a b c : Sp) (w : World) (h : SL B w v [a, b, c]) (hk : k = 17) (_ha : a.n ≤ 100000) (hb : b.n ≤ 100000) (hc : c.n ≤ 100000) :
    Calls Tryz.prog 25 #[.int .i64 k, v] w fun e w' => e = .returned (.tuple #[sh (b.join c), .bool (a.mayB 2)]) ∧ Below w.heap.size w w' := by
  obtain ⟨g, off, cap, rfl, hg, hl, c0, c1⟩ := h.at (i := 0) rfl
  obtain ⟨g1, off1, cap1, hv, _, _, c2, c3⟩ := h.at (i := 1) rfl
  simp only [Value.slice.injEq, Option.some.injEq, Addr.mk.injEq, and_true, true_and] at hv
  obtain ⟨⟨rfl, rfl⟩, rfl⟩ := hv
  obtain ⟨g2, off2, cap2, hv, _, _, c4, c5⟩ := h.at (i := 2) rfl
  simp only [Value.slice.injEq, Option.some.injEq, Addr.mk.injEq, and_true, true_and] at hv
  obtain ⟨⟨rfl, rfl⟩, rfl⟩ := hv
  clear h hl
  simp only [Nat.zero_mul, Nat.add_zero, Nat.one_mul, Nat.reduceMul] at c0 c1 c2 c3 c4 c5
  have JN := hide (fun wx => join_any b c wx hb hc)
  have MB := hide (fun wx => mayBe_any a 2 wx)
  generalize b.join c = r at *
  generalize a.mayB 2 = q at *
  show Calls Tryz.prog 25 #[.int .i64 k, .slice (some ⟨g, off, none⟩) 3 cap] w _
  clear _ha hb hc
  rcases hk with rfl
  all_goals
    go_enter Tryz.func25, Tryz.ntmps25
    go_wp2_with fail
    have X0 := Bx2.new w 47 (.int .i64 0) (.int .i64 0)
    have B0 := (Below.refl w.heap.size w).alloc (Nat.le_refl _) (.cells #[.int .i64 0, .int .i64 0] 47)
    have c00 := (B0.cell (p := ⟨g, off, none⟩) hg).trans c0
    have hg0 := Nat.lt_of_lt_of_le hg B0.size
    have c10 := (B0.cell (p := ⟨g, off + 1, none⟩) hg).trans c1
    have c20 := (B0.cell (p := ⟨g, off + 2, none⟩) hg).trans c2
    have c30 := (B0.cell (p := ⟨g, off + 2 + 1, none⟩) hg).trans c3
    have c40 := (B0.cell (p := ⟨g, off + 4, none⟩) hg).trans c4
    have c50 := (B0.cell (p := ⟨g, off + 4 + 1, none⟩) hg).trans c5
    generalize w.alloc (.cells #[.int .i64 0, .int .i64 0] 47) = w0 at *
    have KP : Hid (∀ wx, Below w0.heap.size w0 wx → wx.cell? ⟨g, off, none⟩ = some (.int .i64 (a.n : Int)) ∧ wx.cell? ⟨g, off + 1, none⟩ = some (.int .i64 a.k) ∧ wx.cell? ⟨g, off + 2, none⟩ = some (.int .i64 (b.n : Int)) ∧ wx.cell? ⟨g, off + 2 + 1, none⟩ = some (.int .i64 b.k) ∧ wx.cell? ⟨g, off + 4, none⟩ = some (.int .i64 (c.n : Int)) ∧ wx.cell? ⟨g, off + 4 + 1, none⟩ = some (.int .i64 c.k) ∧ wx.cell? ⟨w.heap.size, 0, none⟩ = some (.int .i64 0) ∧ wx.cell? ⟨w.heap.size, 1, none⟩ = some (.int .i64 0) ∧ wx.frozen? ⟨w.heap.size, 0, none⟩ = false ∧ wx.frozen? ⟨w.heap.size, 1, none⟩ = false ∧ w.heap.size < wx.heap.size) := hide (fun wx hb => ⟨(hb.cell (p := ⟨g, off, none⟩) hg0).trans c00, (hb.cell (p := ⟨g, off + 1, none⟩) hg0).trans c10, (hb.cell (p := ⟨g, off + 2, none⟩) hg0).trans c20, (hb.cell (p := ⟨g, off + 2 + 1, none⟩) hg0).trans c30, (hb.cell (p := ⟨g, off + 4, none⟩) hg0).trans c40, (hb.cell (p := ⟨g, off + 4 + 1, none⟩) hg0).trans c50, (X0.keep hb X0.low).at0, (X0.keep hb X0.low).at1, (X0.keep hb X0.low).th0, (X0.keep hb X0.low).th1, (X0.keep hb X0.low).low⟩)
    have HB := hide B0
    obtain ⟨c0, c1, c2, c3, c4, c5, x0, x1, t0, t1, lx⟩ := unhide KP w0 (Below.refl _ _)
    clear c00 c10 c20 c30 c40 c50 X0 B0 hg hg0
  all_goals
    first
    | go_region_with (first
      | (go_at_call 50; refine (unhide JN _).mono ?_; rintro e w1 ⟨rfl, hb⟩; replace hb : Below w0.heap.size w0 w1 := below_via (by repeat (first | assumption | exact Below.refl _ _ | apply Below.drew)) hb; obtain ⟨c0, c1, c2, c3, c4, c5, x0, x1, t0, t1, lx⟩ := unhide KP _ hb)
      | (go_at_call 42; refine (unhide MB _).mono ?_; rintro e w1 ⟨rfl, hb⟩; replace hb : Below w0.heap.size w0 w1 := below_via (by repeat (first | assumption | exact Below.refl _ _ | apply Below.drew)) hb; obtain ⟨c0, c1, c2, c3, c4, c5, x0, x1, t0, t1, lx⟩ := unhide KP _ hb))
    | fail
  all_goals
    have HW := hide (below_via (unhide HB) hb)
    clear hb
    go_wp2
    refine bodyPost_ret (v := .tuple #[sh r, .bool (q)]) (by simp [results, Tryz.results25, go_sem, x0, x1]) rfl ⟨by simp, ?_⟩
    repeat (first | exact unhide HW | apply Below.drew | refine Below.setCell ?_ (by simp) _)

end Go.Proofs.YtdgojpjmhalilaaGreatDoor

/- ofNode of every kind; expressions with which nothing is wrong. -/
namespace Go.Proofs.YtdgojpjmhalilaaGreatDoor
open Go.RowKit

mutual
/-- each kind has as many kids as it has -/
def XT.ok : XT → Prop
  | .mk k _ _ ks => 1 ≤ k ∧ k ≤ 22 ∧ leastK k ≤ (ks.length : Int) ∧ (ks.length : Int) ≤ mostK k ∧ okL ks
def okL : List XT → Prop
  | [] => True
  | x :: xs => x.ok ∧ okL xs
end
/-- kinds that are told by their kids alone -/
def bare (k : Int) : Prop := k = 3 ∨ k = 4 ∨ k = 5 ∨ k = 6 ∨ k = 7 ∨ k = 8 ∨ k = 9 ∨ k = 10 ∨ k = 11 ∨ k = 12 ∨ k = 13 ∨ k = 14 ∨ k = 15 ∨ k = 16 ∨ k = 17 ∨ k = 19
theorem len2 {l : List Sp} (h : l.length = 2) : ∃ a b, l = [a, b] := by
  match l, h with
  | [a, b], _ => exact ⟨a, b, rfl⟩
theorem len3 {l : List Sp} (h : l.length = 3) : ∃ a b c, l = [a, b, c] := by
  match l, h with
  | [a, b, c], _ => exact ⟨a, b, c, rfl⟩
theorem ofNode_any {B : Nat} {l : List Sp} {v : Value} (k : Int) (w : World) (h : SL B w v l) (hk : bare k) (h1 : leastK k ≤ (l.length : Int)) (h2 : (l.length : Int) ≤ mostK k) (hn : ∀ a ∈ l, a.n ≤ 99999) :
    Calls Tryz.prog 25 #[.int .i64 k, v] w fun e w' => e = .returned (.tuple #[sh (ofNodeF k l).1, .bool (ofNodeF k l).2]) ∧ Below w.heap.size w w' := by
  have bd : ∀ a ∈ l, a.n ≤ 100000 := fun a ha => Nat.le_trans (hn a ha) (by omega)
  rcases hk with rfl | rfl | rfl | rfl | rfl | rfl | rfl | rfl | rfl | rfl | rfl | rfl | rfl | rfl | rfl | rfl
  · exact ofNode_num 3 w h (by omega)
  · obtain ⟨a, b, rfl⟩ := len2 (l := l) (by simp [leastK, mostK] at h1 h2; omega)
    exact ofNode_add a b w h
  · exact ofNode_num 5 w h (by omega)
  · exact ofNode_num 6 w h (by omega)
  · exact ofNode_num 7 w h (by omega)
  · obtain ⟨a, b, rfl⟩ := len2 (l := l) (by simp [leastK, mostK] at h1 h2; omega)
    exact ofNode_eq 8 a b w h (by omega) (bd a (by simp)) (bd b (by simp))
  · obtain ⟨a, b, rfl⟩ := len2 (l := l) (by simp [leastK, mostK] at h1 h2; omega)
    exact ofNode_eq 9 a b w h (by omega) (bd a (by simp)) (bd b (by simp))
  · exact ofNode_ord 10 w h (by omega)
  · exact ofNode_ord 11 w h (by omega)
  · exact ofNode_ord 12 w h (by omega)
  · exact ofNode_ord 13 w h (by omega)
  · obtain ⟨a, b, rfl⟩ := len2 (l := l) (by simp [leastK, mostK] at h1 h2; omega)
    exact ofNode_in a b w h (bd a (by simp)) (bd b (by simp))
  · exact ofNode_bool 15 w h (by omega)
  · exact ofNode_bool 16 w h (by omega)
  · obtain ⟨a, b, c, rfl⟩ := len3 (l := l) (by simp [leastK, mostK] at h1 h2; omega)
    exact ofNode_if 17 a b c w h (by omega) (bd a (by simp)) (bd b (by simp)) (bd c (by simp))
  · exact ofNode_list w h hn
end Go.Proofs.YtdgojpjmhalilaaGreatDoor

/- A region that draws its order, makes one block, calls what may write elsewhere, and stores in the new block at its end. -/
namespace Go.Proofs.YtdgojpjmhalilaaGreatDoor
open Go.RowKit

structure RW (R : World → World → Prop) (w0 : World) (a0 : Act) (N : Nat) (D : List Nat) (gi ai d8 : Nat) (P8 Fin : Value → World → Prop) (l : List (Option Value)) (L : Nat → Bool) (a : Act) (w : World) : Prop where
  size : a.tmps.size = N
  defs : a.defers = []
  rest : ∀ j, (∀ i d, L i = true → D[i]? = some d → d ≠ j) → G a j = G a0 j
  got : ∀ i d u, L i = true → D[i]? = some d → l[i]? = some (some u) → G a d = u
  old : R w0 w
  new : L ai = true → L gi = false → P8 (G a d8) w
  fin : L gi = true → Fin (G a d8) w
section
variable {R : World → World → Prop} {w0 w w' : World} {a0 a a' : Act} {N gi ai d8 : Nat} {D : List Nat} {P8 Fin : Value → World → Prop} {l : List (Option Value)} {L : Nat → Bool} {ops : Array Oper} {Q : Exit → Act → World → Prop} {i d : Nat} {o : Oper}
theorem RW.keep (h : RW R w0 a0 N D gi ai d8 P8 Fin l L a w) {s : Nat} (hs : s ∉ D) : G a s = G a0 s :=
  h.rest s (fun _ _ _ hd e => hs (e ▸ List.mem_of_getElem? hd))
theorem RW.start (h1 : a0.tmps.size = N) (h2 : a0.defers = []) (h3 : R w0 w) : RW R w0 a0 N D gi ai d8 P8 Fin l (fun _ => false) a0 w :=
  ⟨h1, h2, fun _ _ => rfl, fun _ _ _ h => (by cases h), h3, fun h => (by cases h), fun h => (by cases h)⟩
theorem RW.step (h : RW R w0 a0 N D gi ai d8 P8 Fin l L a w) (tr : ∀ x y z, R x y → R y z → R x z) (kp : ∀ v x y, R x y → P8 v x → P8 v y) (nd : D.Nodup) (h8 : D[ai]? = some d8) (i : Nat) {d : Nat} {v : Value} (hi : D[i]? = some d) (ng : gi ≠ i) (na : ai ≠ i) (U : Upd a d v a') (hd : a'.defers = a.defers) (hw : w' = w ∨ (L gi = false ∧ R w w')) (hl : l[i]? = some (some v)) :
    RW R w0 a0 N D gi ai d8 P8 Fin l (fun j => j == i || L j) a' w' := by
  have eg : (gi == i || L gi) = L gi := by simp [ng]
  have ea : (ai == i || L ai) = L ai := by simp [na]
  have n8 : d8 ≠ d := fun q => na (nodupS_at nd hi (q ▸ h8))
  refine ⟨U.size.trans h.size, hd.trans h.defs, fun j hj => ?_, fun j e u hj he hu => ?_, ?_, fun ha hg => ?_, fun hg => ?_⟩
  · have hne : j ≠ d := fun e => hj i d (by simp) hi e.symm
    rw [U.rest j hne]
    exact h.rest j (fun i' d' hi' hd' => hj i' d' (by simp [hi']) hd')
  · by_cases e1 : j = i
    · subst e1
      rw [hi] at he
      cases he
      rw [U.got]
      rw [hl] at hu
      simpa using hu
    · have hL : L j = true := by simpa [e1] using hj
      have hne : e ≠ d := fun q => e1 (nodupS_at nd hi (q ▸ he))
      rw [U.rest e hne]
      exact h.got j e u hL he hu
  · rcases hw with rfl | ⟨_, hr⟩
    · exact h.old
    · exact tr _ _ _ h.old hr
  · rw [U.rest d8 n8]
    have ha' : L ai = true := by rw [← ea]; exact ha
    have hg' : L gi = false := by rw [← eg]; exact hg
    rcases hw with rfl | ⟨_, hr⟩
    · exact h.new ha' hg'
    · exact kp _ _ _ hr (h.new ha' hg')
  · rw [U.rest d8 n8]
    have hg' : L gi = true := by rw [← eg]; exact hg
    rcases hw with rfl | ⟨hq, _⟩
    · exact h.fin hg'
    · rw [hg'] at hq; cases hq
theorem rw_val (h : RW R w0 a0 N D gi ai d8 P8 Fin l L a w) (tr : ∀ x y z, R x y → R y z → R x z) (kp : ∀ v x y, R x y → P8 v x → P8 v y) (nd : D.Nodup) (h8 : D[ai]? = some d8) (hi : ops[i]? = some o) (hd : o.dst = some d) (hDi : D[i]? = some d) (hN : d < N) (ng : gi ≠ i) (na : ai ≠ i) (hw : Region.wanted o (yielded ops a.tmps) = true) {v : Value} (r : (execOp a.eval o).run Tryz.prog w = .ok (.value v) w) (hl : l[i]? = some (some v)) :
    wpOp Tryz.prog ops Q i (fun a' w' => RW R w0 a0 N D gi ai d8 P8 Fin l (fun j => j == i || L j) a' w') a w :=
  o_val hi hd hw (by rw [h.size]; exact hN) r fun _ U hf => h.step tr kp nd h8 i hDi ng na U hf (.inl rfl) hl
theorem rw_call (h : RW R w0 a0 N D gi ai d8 P8 Fin l L a w) (tr : ∀ x y z, R x y → R y z → R x z) (kp : ∀ v x y, R x y → P8 v x → P8 v y) (nd : D.Nodup) (h8 : D[ai]? = some d8) (hi : ops[i]? = some o) (hd : o.dst = some d) (hDi : D[i]? = some d) (hN : d < N) (ng : gi ≠ i) (na : ai ≠ i) (hg : L gi = false) (hw : Region.wanted o (yielded ops a.tmps) = true) {n : Nat} {args : Array Value} (r : (execOp a.eval o).run Tryz.prog w = .ok (.enter n args) w) {v : Value}
    (hc : Calls Tryz.prog n args w fun e w' => ∃ u, e = .returned u ∧ u = v ∧ R w w') (hl : l[i]? = some (some v)) :
    wpOp Tryz.prog ops Q i (fun a' w' => RW R w0 a0 N D gi ai d8 P8 Fin l (fun j => j == i || L j) a' w') a w :=
  o_enter (R := fun u w' => u = v ∧ R w w') hi hd hw (by rw [h.size]; exact hN) r hc fun u _ w' hR U hf => by
    obtain ⟨rfl, hr⟩ := hR
    exact h.step tr kp nd h8 i hDi ng na U hf (.inr ⟨hg, hr⟩) hl
theorem rw_new (h : RW R w0 a0 N D gi ai d8 P8 Fin l L a w) (tr : ∀ x y z, R x y → R y z → R x z) (nd : D.Nodup) (h8 : D[ai]? = some d8) (hi : ops[ai]? = some o) (hd : o.dst = some d8) (hN : d8 < N) (ng : gi ≠ ai) (hg : L gi = false) (hln : l[ai]? = some none) (hw : Region.wanted o (yielded ops a.tmps) = true) {v : Value} (r : (execOp a.eval o).run Tryz.prog w = .ok (.value v) w') (hR : R w w') (hP : P8 v w') :
    wpOp Tryz.prog ops Q ai (fun a' w' => RW R w0 a0 N D gi ai d8 P8 Fin l (fun j => j == ai || L j) a' w') a w :=
  o_val hi hd hw (by rw [h.size]; exact hN) r fun a' U hf => by
    have eg : (gi == ai || L gi) = L gi := by simp [ng]
    refine ⟨U.size.trans h.size, hf.trans h.defs, fun j hj => ?_, fun j e u hj he hu => ?_, tr _ _ _ h.old hR, fun _ _ => ?_, fun hq => ?_⟩
    · have hne : j ≠ d8 := fun e => hj ai d8 (by simp) h8 e.symm
      rw [U.rest j hne]
      exact h.rest j (fun i' d' hi' hd' => hj i' d' (by simp [hi']) hd')
    · by_cases e1 : j = ai
      · subst e1
        rw [hln] at hu
        simp at hu
      · have hL : L j = true := by simpa [e1] using hj
        have hne : e ≠ d8 := fun q => e1 (nodupS_at nd h8 (q ▸ he))
        rw [U.rest e hne]
        exact h.got j e u hL he hu
    · rw [U.got]; exact hP
    · rw [eg, hg] at hq; cases hq
theorem rw_store {t : TypeId} {p : String} {af : Array Edge} {s x b : Nat} {n k : Int} {u v : Value} (h : RW R w0 a0 N D gi ai d8 P8 Fin l L a w) (hln : l[gi]? = some none) (hi : ops[gi]? = some ⟨none, .store 47 (.tmp s) (.tmp x), t, p, af, none⟩) (g0 : G a s = .pointer (some ⟨b, 0, none⟩)) (g1 : G a x = shn n k) (B : Bx2 w b u v) (hR : R w0 (put2 w b (.int .i64 n) (.int .i64 k))) (fin : Fin (G a d8) (put2 w b (.int .i64 n) (.int .i64 k))) :
    wpOp Tryz.prog ops Q gi (fun a' w' => RW R w0 a0 N D gi ai d8 P8 Fin l (fun j => j == gi || L j) a' w') a w := by
  refine os_store2 hi g0 g1 B ⟨h.size, h.defs, fun j hj => h.rest j (fun i' d' hi' hd' => hj i' d' (by simp [hi']) hd'), fun j e u hj he hu => ?_, hR, fun _ hq => ?_, fun _ => fin⟩
  · by_cases e1 : j = gi
    · subst e1
      rw [hln] at hu
      simp at hu
    · exact h.got j e u (by simpa [e1] using hj) he hu
  · simp at hq
end
end Go.Proofs.YtdgojpjmhalilaaGreatDoor
