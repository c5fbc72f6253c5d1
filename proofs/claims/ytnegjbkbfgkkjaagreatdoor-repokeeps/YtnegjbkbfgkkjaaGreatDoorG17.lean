/- Walks: ofNode of what is in a list: a region that draws. (Written by gen_yi2.py.) -/
import Derived.Test.YtnegjbkbfgkkjaaGreatDoorG16
import Derived.Test.YtnegjbkbfgkkjaaGreatDoorG08
import Derived.BigRegion
import Derived.Test.YtnegjbkbfgkkjaaGreatDoorG15
namespace Go.Proofs.YtnegjbkbfgkkjaaGreatDoor
open Go.RowKit

theorem SL.two {B : Nat} {w : World} {v : Value} {a b : Sp} (h : SL B w v [a, b]) : ∃ g off cap, v = .slice (some ⟨g, off, none⟩) 2 cap ∧ g < w.heap.size ∧ w.cell? ⟨g, off + 0 * 2, none⟩ = some (.int .i64 (a.n : Int)) ∧ w.cell? ⟨g, off + 0 * 2 + 1, none⟩ = some (.int .i64 a.k) ∧ w.cell? ⟨g, off + 1 * 2, none⟩ = some (.int .i64 (b.n : Int)) ∧ w.cell? ⟨g, off + 1 * 2 + 1, none⟩ = some (.int .i64 b.k) := by
  obtain ⟨h1, a', cap, rfl, h3⟩ := h
  obtain ⟨g, off, rfl, _, hg, hc⟩ := h3 (by simp)
  exact ⟨g, off, cap, rfl, hg, (hc 0 a rfl).1, (hc 0 a rfl).2, (hc 1 b rfl).1, (hc 1 b rfl).2⟩

set_option maxRecDepth 100000 in
theorem frame_82 {a : Act} (hs : a.tmps.size = 82) (hd : a.defers = []) :
    ∃ v0 v1 v2 v3 v4 v5 v6 v7 v8 v9 v10 v11 v12 v13 v14 v15 v16 v17 v18 v19 v20 v21 v22 v23 v24 v25 v26 v27 v28 v29 v30 v31 v32 v33 v34 v35 v36 v37 v38 v39 v40 v41 v42 v43 v44 v45 v46 v47 v48 v49 v50 v51 v52 v53 v54 v55 v56 v57 v58 v59 v60 v61 v62 v63 v64 v65 v66 v67 v68 v69 v70 v71 v72 v73 v74 v75 v76 v77 v78 v79 v80 v81 : Value, a = { tmps := #[v0, v1, v2, v3, v4, v5, v6, v7, v8, v9, v10, v11, v12, v13, v14, v15, v16, v17, v18, v19, v20, v21, v22, v23, v24, v25, v26, v27, v28, v29, v30, v31, v32, v33, v34, v35, v36, v37, v38, v39, v40, v41, v42, v43, v44, v45, v46, v47, v48, v49, v50, v51, v52, v53, v54, v55, v56, v57, v58, v59, v60, v61, v62, v63, v64, v65, v66, v67, v68, v69, v70, v71, v72, v73, v74, v75, v76, v77, v78, v79, v80, v81], defers := [] } ∧ v4 = G a 4 ∧ v5 = G a 5 := by
  have e : a = { tmps := #[G a 0, G a 1, G a 2, G a 3, G a 4, G a 5, G a 6, G a 7, G a 8, G a 9, G a 10, G a 11, G a 12, G a 13, G a 14, G a 15, G a 16, G a 17, G a 18, G a 19, G a 20, G a 21, G a 22, G a 23, G a 24, G a 25, G a 26, G a 27, G a 28, G a 29, G a 30, G a 31, G a 32, G a 33, G a 34, G a 35, G a 36, G a 37, G a 38, G a 39, G a 40, G a 41, G a 42, G a 43, G a 44, G a 45, G a 46, G a 47, G a 48, G a 49, G a 50, G a 51, G a 52, G a 53, G a 54, G a 55, G a 56, G a 57, G a 58, G a 59, G a 60, G a 61, G a 62, G a 63, G a 64, G a 65, G a 66, G a 67, G a 68, G a 69, G a 70, G a 71, G a 72, G a 73, G a 74, G a 75, G a 76, G a 77, G a 78, G a 79, G a 80, G a 81], defers := [] } := frame_is hs hd
  exact ⟨_, _, _, _, _, _, _, _, _, _, _, _, _, _, _, _, _, _, _, _, _, _, _, _, _, _, _, _, _, _, _, _, _, _, _, _, _, _, _, _, _, _, _, _, _, _, _, _, _, _, _, _, _, _, _, _, _, _, _, _, _, _, _, _, _, _, _, _, _, _, _, _, _, _, _, _, _, _, _, _, _, _, e, rfl, rfl⟩

set_option maxRecDepth 100000 in
set_option maxHeartbeats 8000000 in
theorem ofNode_in {B : Nat} {v : Value} (a b : Sp) (w : World) (h : SL B w v [a, b]) (ha : a.n ≤ 100000) (hb : b.n ≤ 100000) :
    Calls Tryz.prog 115 #[.int .i64 14, v] w fun e w' => e = .returned (.tuple #[shn 0 2, .bool (b.mayB 5 && a.meetB b.elem)]) ∧ Below w.heap.size w w' := by
  obtain ⟨g, off, cap, rfl, hg, c0, c1, c2, c3⟩ := h.two
  clear h
  have MB := hide (fun wx => mayBe_any b 5 wx)
  have EL := hide (fun wx => elem_any b wx hb)
  have MM := hide (fun wx => mayMeet_any a b.elem wx ha (Nat.le_trans (elem_bd b) hb))
  generalize b.mayB 5 = p at *
  generalize a.meetB b.elem = q at *
  generalize b.elem = b2 at *
  obtain ⟨w0, hw0⟩ : ∃ w0, w0 = w.alloc (.cells #[.int .i64 0, .int .i64 0] 158) := ⟨_, rfl⟩
  have HX : Hid (Bx2 w0 w.heap.size (.int .i64 0) (.int .i64 0)) := hide (by rw [hw0]; exact Bx2.new w 158 (.int .i64 0) (.int .i64 0))
  have HB : Hid (Below w.heap.size w w0) := hide (by rw [hw0]; exact (Below.refl w.heap.size w).alloc (Nat.le_refl _) _)
  have KP : Hid (∀ wx, Below w0.heap.size w0 wx → wx.cell? ⟨g, off + 0 * 2, none⟩ = some (.int .i64 (a.n : Int)) ∧ wx.cell? ⟨g, off + 0 * 2 + 1, none⟩ = some (.int .i64 a.k) ∧ wx.cell? ⟨g, off + 1 * 2, none⟩ = some (.int .i64 (b.n : Int)) ∧ wx.cell? ⟨g, off + 1 * 2 + 1, none⟩ = some (.int .i64 b.k)) := hide (fun wx hbx => by
    have hw := below_via (unhide HB) hbx
    exact ⟨(hw.cell (p := ⟨g, off + 0 * 2, none⟩) hg).trans c0, (hw.cell (p := ⟨g, off + 0 * 2 + 1, none⟩) hg).trans c1, (hw.cell (p := ⟨g, off + 1 * 2, none⟩) hg).trans c2, (hw.cell (p := ⟨g, off + 1 * 2 + 1, none⟩) hg).trans c3⟩)
  clear c0 c1 c2 c3 hg ha hb
  cases p
  all_goals
    go_enter Tryz.func115, Tryz.ntmps115
    go_upto_region 18 with fail
    rw [← hw0]
    clear hw0
    refine frame_name ?_
    intro f0 hf0
    have s1 : G f0 1 = .slice (some ⟨g, off, none⟩) 2 cap := by rw [hf0]; rfl
    have s4 : G f0 4 = .pointer (some ⟨w.heap.size, 0, none⟩) := by rw [hf0]; rfl
    have hsz : f0.tmps.size = 82 := by rw [hf0]; rfl
    have hdf : f0.defers = [] := by rw [hf0]
  ·
    have s5 : True := trivial
    refine region_any (I := RS w0 f0 82 [42, 43, 44, 45, 46, 47, 48, 49, 50, 51, 52, 53, 54, 55, 56, 1000, 5] 15 (fun w' => Below w.heap.size w w' ∧ Bx2 w' w.heap.size (.int .i64 0) (.int .i64 2)) [.lit (shn 0 2), .lit (.slice (some ⟨g, off, none⟩) 2 cap), .lit (.pointer (some ⟨g, off + 1 * 2, none⟩)), .lit (sh b), .lit (.bool false), .lit (.bool false), .any, .any, .any, .any, .any, .any, .any, .any, .lit (.bool false), .any, .lit (.bool false)]) (by kernel_rfl) ?wait ?step ?done ?start
    case wait => exact ⟨by simp <;> rfl, by simp <;> rfl, by simp <;> rfl, by simp <;> rfl, by simp <;> rfl, by simp <;> rfl, by simp <;> rfl, by simp <;> rfl, by simp <;> rfl, by simp <;> rfl, by simp <;> rfl, by simp <;> rfl, by simp <;> rfl, by simp <;> rfl, by simp <;> rfl, by simp <;> rfl, by simp <;> rfl, trivial⟩
    case start => exact RS.start hsz hdf ((Below.refl _ _).drew)
    case step =>
      refine ⟨?_, ?_, ?_, ?_, ?_, ?_, ?_, ?_, ?_, ?_, ?_, ?_, ?_, ?_, ?_, ?_, ?_, trivial⟩
      · rintro L fa wx h hcl hL hw2
        exact rs_call (R := fun v _ => v = shn 0 2) h (by decide) rfl rfl rfl (by decide) (by decide) (Bool.eq_false_iff.2 fun hq => by have hz := (hcl 15 _ rfl hq ⟨0, .data⟩ (by simp) rfl); rw [hL] at hz; cases hz) rfl (run_call1 rfl callPlain) (xr2 (plain_any 2 _)) (fun _ _ q => q)
      · rintro L fa wx h hcl hL hw2
        exact rs_val h (by decide) rfl rfl rfl (by decide) (by decide) rfl (run_mv (eval_G ((h.keep (s := 1) (by decide)).trans s1))) rfl
      · rintro L fa wx h hcl hL hw2
        exact rs_val h (by decide) rfl rfl rfl (by decide) (by decide) rfl (run_ixS (i := 1) (eval_G (show G fa 43 = .slice (some ⟨g, off, none⟩) 2 cap from oks_lit (h.got 1 43 (hw2 ⟨1, .data⟩ (by simp) rfl) rfl) rfl)) rfl (by decide)) rfl
      · rintro L fa wx h hcl hL hw2
        exact rs_val h (by decide) rfl rfl rfl (by decide) (by decide) rfl (run_ldS (eval_G (show G fa 44 = .pointer (some ⟨g, off + 1 * 2, none⟩) from oks_lit (h.got 2 44 (hw2 ⟨2, .data⟩ (by simp) rfl) rfl) rfl)) ((unhide KP _ (h.old (Bool.eq_false_iff.2 fun hq => by have hz := (hcl 4 _ rfl (hcl 5 _ rfl (hcl 12 _ rfl (hcl 13 _ rfl (hcl 15 _ rfl hq ⟨13, .chain⟩ (by simp) rfl) ⟨12, .data⟩ (by simp) rfl) ⟨5, .chain⟩ (by simp) rfl) ⟨4, .data⟩ (by simp) rfl) ⟨3, .data⟩ (by simp) rfl); rw [hL] at hz; cases hz))).2.2.1) ((unhide KP _ (h.old (Bool.eq_false_iff.2 fun hq => by have hz := (hcl 4 _ rfl (hcl 5 _ rfl (hcl 12 _ rfl (hcl 13 _ rfl (hcl 15 _ rfl hq ⟨13, .chain⟩ (by simp) rfl) ⟨12, .data⟩ (by simp) rfl) ⟨5, .chain⟩ (by simp) rfl) ⟨4, .data⟩ (by simp) rfl) ⟨3, .data⟩ (by simp) rfl); rw [hL] at hz; cases hz))).2.2.2)) rfl
      · rintro L fa wx h hcl hL hw2
        exact rs_call (R := fun v _ => v = .bool false) h (by decide) rfl rfl rfl (by decide) (by decide) (Bool.eq_false_iff.2 fun hq => by have hz := (hcl 5 _ rfl (hcl 12 _ rfl (hcl 13 _ rfl (hcl 15 _ rfl hq ⟨13, .chain⟩ (by simp) rfl) ⟨12, .data⟩ (by simp) rfl) ⟨5, .chain⟩ (by simp) rfl) ⟨4, .data⟩ (by simp) rfl); rw [hL] at hz; cases hz) rfl (run_call2 (eval_G (show G fa 45 = sh b from oks_lit (h.got 3 45 (hw2 ⟨3, .data⟩ (by simp) rfl) rfl) rfl)) rfl callMayBe) (xr2 (unhide MB _)) (fun _ _ q => q)
      · rintro L fa wx h hcl hL hw2
        exact rs_val h (by decide) rfl rfl rfl (by decide) (by decide) rfl (run_mv (eval_G (show G fa 46 = .bool false from oks_lit (h.got 4 46 (hw2 ⟨4, .data⟩ (by simp) rfl) rfl) rfl))) rfl
      · rintro L fa wx h hcl hL hw2
        exact rs_skip h (by decide) rfl rfl rfl (by decide) (by decide) ((wanted_is (j := 5) (dj := 47) (b := false) (c := true) rfl rfl (by rw [h.size]; decide) (show G fa 47 = .bool false from oks_lit (h.got 5 47 (hw2 ⟨5, .guard⟩ (by simp) rfl) rfl) rfl)).trans rfl) rfl
      · rintro L fa wx h hcl hL hw2
        exact rs_skip h (by decide) rfl rfl rfl (by decide) (by decide) ((wanted_is (j := 5) (dj := 47) (b := false) (c := true) rfl rfl (by rw [h.size]; decide) (show G fa 47 = .bool false from oks_lit (h.got 5 47 (hw2 ⟨5, .guard⟩ (by simp) rfl) rfl) rfl)).trans rfl) rfl
      · rintro L fa wx h hcl hL hw2
        exact rs_skip h (by decide) rfl rfl rfl (by decide) (by decide) ((wanted_is (j := 5) (dj := 47) (b := false) (c := true) rfl rfl (by rw [h.size]; decide) (show G fa 47 = .bool false from oks_lit (h.got 5 47 (hw2 ⟨5, .guard⟩ (by simp) rfl) rfl) rfl)).trans rfl) rfl
      · rintro L fa wx h hcl hL hw2
        exact rs_skip h (by decide) rfl rfl rfl (by decide) (by decide) ((wanted_is (j := 5) (dj := 47) (b := false) (c := true) rfl rfl (by rw [h.size]; decide) (show G fa 47 = .bool false from oks_lit (h.got 5 47 (hw2 ⟨5, .guard⟩ (by simp) rfl) rfl) rfl)).trans rfl) rfl
      · rintro L fa wx h hcl hL hw2
        exact rs_skip h (by decide) rfl rfl rfl (by decide) (by decide) ((wanted_is (j := 5) (dj := 47) (b := false) (c := true) rfl rfl (by rw [h.size]; decide) (show G fa 47 = .bool false from oks_lit (h.got 5 47 (hw2 ⟨5, .guard⟩ (by simp) rfl) rfl) rfl)).trans rfl) rfl
      · rintro L fa wx h hcl hL hw2
        exact rs_skip h (by decide) rfl rfl rfl (by decide) (by decide) ((wanted_is (j := 5) (dj := 47) (b := false) (c := true) rfl rfl (by rw [h.size]; decide) (show G fa 47 = .bool false from oks_lit (h.got 5 47 (hw2 ⟨5, .guard⟩ (by simp) rfl) rfl) rfl)).trans rfl) rfl
      · rintro L fa wx h hcl hL hw2
        exact rs_skip h (by decide) rfl rfl rfl (by decide) (by decide) ((wanted_is (j := 5) (dj := 47) (b := false) (c := true) rfl rfl (by rw [h.size]; decide) (show G fa 47 = .bool false from oks_lit (h.got 5 47 (hw2 ⟨5, .guard⟩ (by simp) rfl) rfl) rfl)).trans rfl) rfl
      · rintro L fa wx h hcl hL hw2
        exact rs_skip h (by decide) rfl rfl rfl (by decide) (by decide) ((wanted_is (j := 5) (dj := 47) (b := false) (c := true) rfl rfl (by rw [h.size]; decide) (show G fa 47 = .bool false from oks_lit (h.got 5 47 (hw2 ⟨5, .guard⟩ (by simp) rfl) rfl) rfl)).trans rfl) rfl
      · rintro L fa wx h hcl hL hw2
        exact rs_val h (by decide) rfl rfl rfl (by decide) (by decide) rfl (run_pickF (eval_G (show G fa 47 = .bool false from oks_lit (h.got 5 47 (hw2 ⟨5, .data⟩ (by simp) rfl) rfl) rfl)) rfl) rfl
      · rintro L fa wx h hcl hL hw2
        exact rs_store2 h rfl hL rfl ((h.keep (s := 4) (by decide)).trans s4) (show G fa 42 = shn 0 2 from oks_lit (h.got 0 42 (hw2 ⟨0, .data⟩ (by simp) rfl) rfl) rfl) ((unhide HX).keep (h.old hL) (unhide HX).low) ⟨((below_via (unhide HB) (h.old hL)).setCell (p := ⟨w.heap.size, 0, none⟩) (Nat.le_refl _) _).setCell (p := ⟨w.heap.size, 1, none⟩) (Nat.le_refl _) _, ((unhide HX).keep (h.old hL) (unhide HX).low).put _ _⟩
      · rintro L fa wx h hcl hL hw2
        exact rs_val h (by decide) rfl rfl rfl (by decide) (by decide) rfl (run_asg (eval_G (show G fa 56 = .bool false from oks_lit (h.got 14 56 (hw2 ⟨14, .data⟩ (by simp) rfl) rfl) rfl))) rfl
    case done =>
      rintro L f1 w3 h hall
      obtain ⟨hb, R⟩ := h.fin (hall 15 (by simp))
      replace s4 := (h.keep (s := 4) (by decide)).trans s4
      have r5 : G f1 5 = .bool false := oks_lit (h.got 16 5 (hall 16 (by simp)) rfl) rfl
      replace hsz := h.size
      replace hdf := h.defs
      have HW := hide hb
      have x0 := R.at0
      have x1 := R.at1
      clear h hall hf0 MB EL MM KP HX HB s1 s5 hb R
      obtain ⟨v0, v1, v2, v3, v4, v5, v6, v7, v8, v9, v10, v11, v12, v13, v14, v15, v16, v17, v18, v19, v20, v21, v22, v23, v24, v25, v26, v27, v28, v29, v30, v31, v32, v33, v34, v35, v36, v37, v38, v39, v40, v41, v42, v43, v44, v45, v46, v47, v48, v49, v50, v51, v52, v53, v54, v55, v56, v57, v58, v59, v60, v61, v62, v63, v64, v65, v66, v67, v68, v69, v70, v71, v72, v73, v74, v75, v76, v77, v78, v79, v80, v81, rfl, q4, q5⟩ := frame_82 hsz hdf
      rw [s4] at q4
      rw [r5] at q5
      subst q4 q5
      clear s4 r5 hsz hdf
      go_wp2
      exact bodyPost_ret (v := .tuple #[shn 0 2, .bool false]) (by simp [results, Tryz.results115, go_sem, x0, x1]) rfl ⟨by simp, unhide HW⟩
  ·
    have s5 : True := trivial
    refine region_any (I := RS w0 f0 82 [42, 43, 44, 45, 46, 47, 48, 49, 50, 51, 52, 53, 54, 55, 56, 1000, 5] 15 (fun w' => Below w.heap.size w w' ∧ Bx2 w' w.heap.size (.int .i64 0) (.int .i64 2)) [.lit (shn 0 2), .lit (.slice (some ⟨g, off, none⟩) 2 cap), .lit (.pointer (some ⟨g, off + 1 * 2, none⟩)), .lit (sh b), .lit (.bool true), .lit (.bool true), .lit (.slice (some ⟨g, off, none⟩) 2 cap), .lit (.pointer (some ⟨g, off + 0 * 2, none⟩)), .lit (sh a), .lit (.slice (some ⟨g, off, none⟩) 2 cap), .lit (.pointer (some ⟨g, off + 1 * 2, none⟩)), .lit (sh b), .lit (sh b2), .lit (.bool q), .lit (.bool q), .any, .lit (.bool q)]) (by kernel_rfl) ?wait ?step ?done ?start
    case wait => exact ⟨by simp <;> rfl, by simp <;> rfl, by simp <;> rfl, by simp <;> rfl, by simp <;> rfl, by simp <;> rfl, by simp <;> rfl, by simp <;> rfl, by simp <;> rfl, by simp <;> rfl, by simp <;> rfl, by simp <;> rfl, by simp <;> rfl, by simp <;> rfl, by simp <;> rfl, by simp <;> rfl, by simp <;> rfl, trivial⟩
    case start => exact RS.start hsz hdf ((Below.refl _ _).drew)
    case step =>
      refine ⟨?_, ?_, ?_, ?_, ?_, ?_, ?_, ?_, ?_, ?_, ?_, ?_, ?_, ?_, ?_, ?_, ?_, trivial⟩
      · rintro L fa wx h hcl hL hw2
        exact rs_call (R := fun v _ => v = shn 0 2) h (by decide) rfl rfl rfl (by decide) (by decide) (Bool.eq_false_iff.2 fun hq => by have hz := (hcl 15 _ rfl hq ⟨0, .data⟩ (by simp) rfl); rw [hL] at hz; cases hz) rfl (run_call1 rfl callPlain) (xr2 (plain_any 2 _)) (fun _ _ q => q)
      · rintro L fa wx h hcl hL hw2
        exact rs_val h (by decide) rfl rfl rfl (by decide) (by decide) rfl (run_mv (eval_G ((h.keep (s := 1) (by decide)).trans s1))) rfl
      · rintro L fa wx h hcl hL hw2
        exact rs_val h (by decide) rfl rfl rfl (by decide) (by decide) rfl (run_ixS (i := 1) (eval_G (show G fa 43 = .slice (some ⟨g, off, none⟩) 2 cap from oks_lit (h.got 1 43 (hw2 ⟨1, .data⟩ (by simp) rfl) rfl) rfl)) rfl (by decide)) rfl
      · rintro L fa wx h hcl hL hw2
        exact rs_val h (by decide) rfl rfl rfl (by decide) (by decide) rfl (run_ldS (eval_G (show G fa 44 = .pointer (some ⟨g, off + 1 * 2, none⟩) from oks_lit (h.got 2 44 (hw2 ⟨2, .data⟩ (by simp) rfl) rfl) rfl)) ((unhide KP _ (h.old (Bool.eq_false_iff.2 fun hq => by have hz := (hcl 4 _ rfl (hcl 5 _ rfl (hcl 12 _ rfl (hcl 13 _ rfl (hcl 15 _ rfl hq ⟨13, .chain⟩ (by simp) rfl) ⟨12, .data⟩ (by simp) rfl) ⟨5, .chain⟩ (by simp) rfl) ⟨4, .data⟩ (by simp) rfl) ⟨3, .data⟩ (by simp) rfl); rw [hL] at hz; cases hz))).2.2.1) ((unhide KP _ (h.old (Bool.eq_false_iff.2 fun hq => by have hz := (hcl 4 _ rfl (hcl 5 _ rfl (hcl 12 _ rfl (hcl 13 _ rfl (hcl 15 _ rfl hq ⟨13, .chain⟩ (by simp) rfl) ⟨12, .data⟩ (by simp) rfl) ⟨5, .chain⟩ (by simp) rfl) ⟨4, .data⟩ (by simp) rfl) ⟨3, .data⟩ (by simp) rfl); rw [hL] at hz; cases hz))).2.2.2)) rfl
      · rintro L fa wx h hcl hL hw2
        exact rs_call (R := fun v _ => v = .bool true) h (by decide) rfl rfl rfl (by decide) (by decide) (Bool.eq_false_iff.2 fun hq => by have hz := (hcl 5 _ rfl (hcl 12 _ rfl (hcl 13 _ rfl (hcl 15 _ rfl hq ⟨13, .chain⟩ (by simp) rfl) ⟨12, .data⟩ (by simp) rfl) ⟨5, .chain⟩ (by simp) rfl) ⟨4, .data⟩ (by simp) rfl); rw [hL] at hz; cases hz) rfl (run_call2 (eval_G (show G fa 45 = sh b from oks_lit (h.got 3 45 (hw2 ⟨3, .data⟩ (by simp) rfl) rfl) rfl)) rfl callMayBe) (xr2 (unhide MB _)) (fun _ _ q => q)
      · rintro L fa wx h hcl hL hw2
        exact rs_val h (by decide) rfl rfl rfl (by decide) (by decide) rfl (run_mv (eval_G (show G fa 46 = .bool true from oks_lit (h.got 4 46 (hw2 ⟨4, .data⟩ (by simp) rfl) rfl) rfl))) rfl
      · rintro L fa wx h hcl hL hw2
        exact rs_val h (by decide) rfl rfl rfl (by decide) (by decide) ((wanted_is (j := 5) (dj := 47) (b := true) (c := true) rfl rfl (by rw [h.size]; decide) (show G fa 47 = .bool true from oks_lit (h.got 5 47 (hw2 ⟨5, .guard⟩ (by simp) rfl) rfl) rfl)).trans rfl) (run_mv (eval_G ((h.keep (s := 1) (by decide)).trans s1))) rfl
      · rintro L fa wx h hcl hL hw2
        exact rs_val h (by decide) rfl rfl rfl (by decide) (by decide) ((wanted_is (j := 5) (dj := 47) (b := true) (c := true) rfl rfl (by rw [h.size]; decide) (show G fa 47 = .bool true from oks_lit (h.got 5 47 (hw2 ⟨5, .guard⟩ (by simp) rfl) rfl) rfl)).trans rfl) (run_ixS (i := 0) (eval_G (show G fa 48 = .slice (some ⟨g, off, none⟩) 2 cap from oks_lit (h.got 6 48 (hw2 ⟨6, .data⟩ (by simp) rfl) rfl) rfl)) rfl (by decide)) rfl
      · rintro L fa wx h hcl hL hw2
        exact rs_val h (by decide) rfl rfl rfl (by decide) (by decide) ((wanted_is (j := 5) (dj := 47) (b := true) (c := true) rfl rfl (by rw [h.size]; decide) (show G fa 47 = .bool true from oks_lit (h.got 5 47 (hw2 ⟨5, .guard⟩ (by simp) rfl) rfl) rfl)).trans rfl) (run_ldS (eval_G (show G fa 49 = .pointer (some ⟨g, off + 0 * 2, none⟩) from oks_lit (h.got 7 49 (hw2 ⟨7, .data⟩ (by simp) rfl) rfl) rfl)) ((unhide KP _ (h.old (Bool.eq_false_iff.2 fun hq => by have hz := (hcl 13 _ rfl (hcl 15 _ rfl hq ⟨13, .chain⟩ (by simp) rfl) ⟨8, .data⟩ (by simp) rfl); rw [hL] at hz; cases hz))).1) ((unhide KP _ (h.old (Bool.eq_false_iff.2 fun hq => by have hz := (hcl 13 _ rfl (hcl 15 _ rfl hq ⟨13, .chain⟩ (by simp) rfl) ⟨8, .data⟩ (by simp) rfl); rw [hL] at hz; cases hz))).2.1)) rfl
      · rintro L fa wx h hcl hL hw2
        exact rs_val h (by decide) rfl rfl rfl (by decide) (by decide) ((wanted_is (j := 5) (dj := 47) (b := true) (c := true) rfl rfl (by rw [h.size]; decide) (show G fa 47 = .bool true from oks_lit (h.got 5 47 (hw2 ⟨5, .guard⟩ (by simp) rfl) rfl) rfl)).trans rfl) (run_mv (eval_G ((h.keep (s := 1) (by decide)).trans s1))) rfl
      · rintro L fa wx h hcl hL hw2
        exact rs_val h (by decide) rfl rfl rfl (by decide) (by decide) ((wanted_is (j := 5) (dj := 47) (b := true) (c := true) rfl rfl (by rw [h.size]; decide) (show G fa 47 = .bool true from oks_lit (h.got 5 47 (hw2 ⟨5, .guard⟩ (by simp) rfl) rfl) rfl)).trans rfl) (run_ixS (i := 1) (eval_G (show G fa 51 = .slice (some ⟨g, off, none⟩) 2 cap from oks_lit (h.got 9 51 (hw2 ⟨9, .data⟩ (by simp) rfl) rfl) rfl)) rfl (by decide)) rfl
      · rintro L fa wx h hcl hL hw2
        exact rs_val h (by decide) rfl rfl rfl (by decide) (by decide) ((wanted_is (j := 5) (dj := 47) (b := true) (c := true) rfl rfl (by rw [h.size]; decide) (show G fa 47 = .bool true from oks_lit (h.got 5 47 (hw2 ⟨5, .guard⟩ (by simp) rfl) rfl) rfl)).trans rfl) (run_ldS (eval_G (show G fa 52 = .pointer (some ⟨g, off + 1 * 2, none⟩) from oks_lit (h.got 10 52 (hw2 ⟨10, .data⟩ (by simp) rfl) rfl) rfl)) ((unhide KP _ (h.old (Bool.eq_false_iff.2 fun hq => by have hz := (hcl 12 _ rfl (hcl 13 _ rfl (hcl 15 _ rfl hq ⟨13, .chain⟩ (by simp) rfl) ⟨12, .data⟩ (by simp) rfl) ⟨11, .data⟩ (by simp) rfl); rw [hL] at hz; cases hz))).2.2.1) ((unhide KP _ (h.old (Bool.eq_false_iff.2 fun hq => by have hz := (hcl 12 _ rfl (hcl 13 _ rfl (hcl 15 _ rfl hq ⟨13, .chain⟩ (by simp) rfl) ⟨12, .data⟩ (by simp) rfl) ⟨11, .data⟩ (by simp) rfl); rw [hL] at hz; cases hz))).2.2.2)) rfl
      · rintro L fa wx h hcl hL hw2
        exact rs_call (R := fun v _ => v = sh b2) h (by decide) rfl rfl rfl (by decide) (by decide) (Bool.eq_false_iff.2 fun hq => by have hz := (hcl 13 _ rfl (hcl 15 _ rfl hq ⟨13, .chain⟩ (by simp) rfl) ⟨12, .data⟩ (by simp) rfl); rw [hL] at hz; cases hz) ((wanted_is (j := 5) (dj := 47) (b := true) (c := true) rfl rfl (by rw [h.size]; decide) (show G fa 47 = .bool true from oks_lit (h.got 5 47 (hw2 ⟨5, .guard⟩ (by simp) rfl) rfl) rfl)).trans rfl) (run_call1 (eval_G (show G fa 53 = sh b from oks_lit (h.got 11 53 (hw2 ⟨11, .data⟩ (by simp) rfl) rfl) rfl)) callElem) (xr2 (unhide EL _)) (fun _ _ q => q)
      · rintro L fa wx h hcl hL hw2
        exact rs_call (R := fun v _ => v = .bool q) h (by decide) rfl rfl rfl (by decide) (by decide) (Bool.eq_false_iff.2 fun hq => by have hz := (hcl 15 _ rfl hq ⟨13, .chain⟩ (by simp) rfl); rw [hL] at hz; cases hz) ((wanted_is (j := 5) (dj := 47) (b := true) (c := true) rfl rfl (by rw [h.size]; decide) (show G fa 47 = .bool true from oks_lit (h.got 5 47 (hw2 ⟨5, .guard⟩ (by simp) rfl) rfl) rfl)).trans rfl) (run_call2 (eval_G (show G fa 50 = sh a from oks_lit (h.got 8 50 (hw2 ⟨8, .data⟩ (by simp) rfl) rfl) rfl)) (eval_G (show G fa 54 = sh b2 from oks_lit (h.got 12 54 (hw2 ⟨12, .data⟩ (by simp) rfl) rfl) rfl)) callMeet) (xr2 (unhide MM _)) (fun _ _ q => q)
      · rintro L fa wx h hcl hL hw2
        exact rs_val h (by decide) rfl rfl rfl (by decide) (by decide) rfl (run_pickT (eval_G (show G fa 47 = .bool true from oks_lit (h.got 5 47 (hw2 ⟨5, .data⟩ (by simp) rfl) rfl) rfl)) (eval_G (show G fa 55 = .bool q from oks_lit (h.got 13 55 (hw2 ⟨13, .data⟩ (by simp) rfl) rfl) rfl))) rfl
      · rintro L fa wx h hcl hL hw2
        exact rs_store2 h rfl hL rfl ((h.keep (s := 4) (by decide)).trans s4) (show G fa 42 = shn 0 2 from oks_lit (h.got 0 42 (hw2 ⟨0, .data⟩ (by simp) rfl) rfl) rfl) ((unhide HX).keep (h.old hL) (unhide HX).low) ⟨((below_via (unhide HB) (h.old hL)).setCell (p := ⟨w.heap.size, 0, none⟩) (Nat.le_refl _) _).setCell (p := ⟨w.heap.size, 1, none⟩) (Nat.le_refl _) _, ((unhide HX).keep (h.old hL) (unhide HX).low).put _ _⟩
      · rintro L fa wx h hcl hL hw2
        exact rs_val h (by decide) rfl rfl rfl (by decide) (by decide) rfl (run_asg (eval_G (show G fa 56 = .bool q from oks_lit (h.got 14 56 (hw2 ⟨14, .data⟩ (by simp) rfl) rfl) rfl))) rfl
    case done =>
      rintro L f1 w3 h hall
      obtain ⟨hb, R⟩ := h.fin (hall 15 (by simp))
      replace s4 := (h.keep (s := 4) (by decide)).trans s4
      have r5 : G f1 5 = .bool q := oks_lit (h.got 16 5 (hall 16 (by simp)) rfl) rfl
      replace hsz := h.size
      replace hdf := h.defs
      have HW := hide hb
      have x0 := R.at0
      have x1 := R.at1
      clear h hall hf0 MB EL MM KP HX HB s1 s5 hb R
      obtain ⟨v0, v1, v2, v3, v4, v5, v6, v7, v8, v9, v10, v11, v12, v13, v14, v15, v16, v17, v18, v19, v20, v21, v22, v23, v24, v25, v26, v27, v28, v29, v30, v31, v32, v33, v34, v35, v36, v37, v38, v39, v40, v41, v42, v43, v44, v45, v46, v47, v48, v49, v50, v51, v52, v53, v54, v55, v56, v57, v58, v59, v60, v61, v62, v63, v64, v65, v66, v67, v68, v69, v70, v71, v72, v73, v74, v75, v76, v77, v78, v79, v80, v81, rfl, q4, q5⟩ := frame_82 hsz hdf
      rw [s4] at q4
      rw [r5] at q5
      subst q4 q5
      clear s4 r5 hsz hdf
      go_wp2
      exact bodyPost_ret (v := .tuple #[shn 0 2, .bool q]) (by simp [results, Tryz.results115, go_sem, x0, x1]) rfl ⟨by simp, unhide HW⟩
end Go.Proofs.YtnegjbkbfgkkjaaGreatDoor

/- ofNode of every kind; expressions with which nothing is wrong. -/
namespace Go.Proofs.YtnegjbkbfgkkjaaGreatDoor
open Go.RowKit

/-- kinds that are told by their kids alone -/
def bare (k : Int) : Prop := k = 3 ∨ k = 4 ∨ k = 5 ∨ k = 6 ∨ k = 7 ∨ k = 8 ∨ k = 9 ∨ k = 10 ∨ k = 11 ∨ k = 12 ∨ k = 13 ∨ k = 14 ∨ k = 15 ∨ k = 16 ∨ k = 17 ∨ k = 19
theorem len2 {l : List Sp} (h : l.length = 2) : ∃ a b, l = [a, b] := by
  match l, h with
  | [a, b], _ => exact ⟨a, b, rfl⟩
theorem len3 {l : List Sp} (h : l.length = 3) : ∃ a b c, l = [a, b, c] := by
  match l, h with
  | [a, b, c], _ => exact ⟨a, b, c, rfl⟩
theorem ofNode_any {B : Nat} {l : List Sp} {v : Value} (k : Int) (w : World) (h : SL B w v l) (hk : bare k) (h1 : leastK k ≤ (l.length : Int)) (h2 : (l.length : Int) ≤ mostK k) (hn : ∀ a ∈ l, a.n ≤ 99999) :
    Calls Tryz.prog 115 #[.int .i64 k, v] w fun e w' => e = .returned (.tuple #[sh (ofNodeF k l).1, .bool (ofNodeF k l).2]) ∧ Below w.heap.size w w' := by
  have bd : ∀ a ∈ l, a.n ≤ 100000 := fun a ha => Nat.le_trans (hn a ha) (by omega)
  rcases hk with rfl | rfl | rfl | rfl | rfl | rfl | rfl | rfl | rfl | rfl | rfl | rfl | rfl | rfl | rfl | rfl
  · exact ofNode_num 3 w h (by omega)
  · obtain ⟨a, b, rfl⟩ := len2 (l := l) (by simp [leastK, mostK] at h1 h2; omega)
    exact ofNode_add a b w h
  · exact ofNode_num 5 w h (by omega)
  · exact ofNode_num 6 w h (by omega)
  · exact ofNode_num 7 w h (by omega)
  · obtain ⟨a, b, rfl⟩ := len2 (l := l) (by simp [leastK, mostK] at h1 h2; omega)
    exact ofNode_eq 8 a b w h (by omega) (bd a (by simp)) (bd b (by simp))
  · obtain ⟨a, b, rfl⟩ := len2 (l := l) (by simp [leastK, mostK] at h1 h2; omega)
    exact ofNode_eq 9 a b w h (by omega) (bd a (by simp)) (bd b (by simp))
  · exact ofNode_ord 10 w h (by omega)
  · exact ofNode_ord 11 w h (by omega)
  · exact ofNode_ord 12 w h (by omega)
  · exact ofNode_ord 13 w h (by omega)
  · obtain ⟨a, b, rfl⟩ := len2 (l := l) (by simp [leastK, mostK] at h1 h2; omega)
    exact ofNode_in a b w h (bd a (by simp)) (bd b (by simp))
  · exact ofNode_bool 15 w h (by omega)
  · exact ofNode_bool 16 w h (by omega)
  · obtain ⟨a, b, c, rfl⟩ := len3 (l := l) (by simp [leastK, mostK] at h1 h2; omega)
    exact ofNode_if 17 a b c w h (by omega) (bd a (by simp)) (bd b (by simp)) (bd c (by simp))
  · exact ofNode_list w h hn
end Go.Proofs.YtnegjbkbfgkkjaaGreatDoor

/- Walks: typedWith, out of what typed tells. -/
namespace Go.Proofs.YtnegjbkbfgkkjaaGreatDoor
open Go.RowKit Go.MapKept

/-- what typed tells of an expression -/
def TypedC (x : XT) : Prop := ∀ (B lo bt bn bf : Nat) (E : Ev) (M : Nat) (w : World) (cs : Array Value), XMem B w x cs → x.ok → TyS B lo bt bn bf E M w → M + x.size ≤ 50000 →
  Calls Tryz.prog 84 #[.pointer (some ⟨bt, 0, none⟩), .agg cs] w fun e w' => e = .returned (.tuple #[sh (tyF x E).2, .int .i64 (tyF x E).1]) ∧ MapF bn (envV E) w' ∧ But bn w w'

theorem But.drew {p : Nat} (w : World) : But p w w.drew := ⟨rfl, rfl, rfl, Nat.le_refl _, fun _ _ _ => rfl⟩
theorem XMem.nine {B : Nat} {w : World} {x : XT} {cs : Array Value} (h : XMem B w x cs) : ∃ u0 u1 u2 u3 u4 u5 u6 u7 u8, cs = #[u0, u1, u2, u3, u4, u5, u6, u7, u8] := by
  cases x with
  | mk k v s ks =>
    rw [XMem] at h
    obtain ⟨_, _, vk, vy, vc, vx, vt, va, vn, vp, a, cap, hx, _⟩ := h
    exact ⟨_, _, _, _, _, _, _, _, _, hx⟩

set_option maxRecDepth 100000 in
set_option maxHeartbeats 8000000 in
theorem typedWith_any (x : XT) (IH : TypedC x) {B lo bt bn bf : Nat} {E : Ev} {M : Nat} {w : World} {cs : Array Value} (S : TyS B lo bt bn bf E M w) (s : ByteArray) (a : Sp) (hx : XMem B w x cs) (hok : x.ok) (ha : a.n ≤ M) (hM : M + x.size ≤ 50000) :
    Calls Tryz.prog 146 #[.pointer (some ⟨bt, 0, none⟩), .string s, sh a, .agg cs] w fun e w' => e = .returned (.tuple #[sh (tyF x (E.upd s (some a))).2, .int .i64 (tyF x (E.upd s (some a))).1]) ∧ MapF bn (envV E) w' ∧ But bn w w' := by
  have hlo := S.lowB
  have hbn := S.names.low
  have hbt := S.box.low
  have hnt : bn ≠ bt := by have := S.lon; have := S.lot; omega
  obtain ⟨u0, u1, u2, u3, u4, u5, u6, u7, u8, rfl⟩ := hx.nine
  obtain ⟨o, ho⟩ : ∃ o : Sp, o = (E s).getD ⟨0, 0⟩ := ⟨_, rfl⟩
  obtain ⟨kn, hkn⟩ : ∃ kn : Bool, kn = (E s).isSome := ⟨_, rfl⟩
  have HO : Hid ((kn = true ∧ E s = some o) ∨ (kn = false ∧ E s = none)) := hide (by
    rw [ho, hkn]
    cases E s with
    | none => exact .inr ⟨rfl, rfl⟩
    | some q => exact .inl ⟨rfl, rfl⟩)
  -- the world ahead of the look-up
  obtain ⟨w0, hw0⟩ : ∃ w0, w0 = ((w.alloc (.cells #[.int .i64 (a.n : Int), .int .i64 a.k] 158)).alloc (.cells #[u0, u1, u2, u3, u4, u5, u6, u7, u8] 86)).alloc (.cells #[.int .i64 0, .int .i64 0] 158) := ⟨_, rfl⟩
  have B0 : Below w.heap.size w w0 := by rw [hw0]; exact (below2 w _ _).alloc (by simp; omega) _
  have z0 : w0.heap.size = w.heap.size + 1 + 1 + 1 := by rw [hw0]; simp
  have hlk : (Instr.lookup 181 (.map (some bn)) (.string s) true).run Tryz.prog w0 = .ok (.tuple #[sh o, .bool kn]) w0 := by
    have N0 := S.names.keep B0
    cases hE : E s with
    | none =>
      rw [ho, hkn, hE]
      exact N0.miss Tryz.underlying181 Tryz.underlying9 (zero_sh _) (by unfold envV; rw [hE]; rfl)
    | some q =>
      rw [ho, hkn, hE]
      exact N0.look Tryz.underlying181 Tryz.underlying9 (by unfold envV; rw [hE]; rfl)
  have b0 := (S.box.keep B0 S.box.low).at0
  rw [hw0] at hlk b0
  -- the world ahead of the update
  obtain ⟨w1, hw1⟩ : ∃ w1, w1 = w0.alloc (.cells #[.int .i64 (o.n : Int), .int .i64 o.k] 158) := ⟨_, rfl⟩
  have B1 : Below w.heap.size w w1 := by rw [hw1]; exact B0.alloc B0.size _
  have z1 : w1.heap.size = w.heap.size + 1 + 1 + 1 + 1 := by rw [hw1]; simp [z0]
  have X6 : Bx2 w1 w.heap.size (.int .i64 (a.n : Int)) (.int .i64 a.k) := by
    rw [hw1, hw0]
    exact (((Bx2.new w 158 _ _).keep ((Below.refl _ _).alloc (Nat.le_refl _) _) (by simp)).keep ((Below.refl _ _).alloc (Nat.le_refl _) _) (by simp; omega)).keep ((Below.refl _ _).alloc (Nat.le_refl _) _) (by simp; omega)
  have X7 : V9 w1 (w.heap.size + 1) u0 u1 u2 u3 u4 u5 u6 u7 u8 := by
    rw [hw1, hw0]
    have := ((V9.new (w.alloc (.cells #[.int .i64 (a.n : Int), .int .i64 a.k] 158)) 86 u0 u1 u2 u3 u4 u5 u6 u7 u8).keep ((Below.refl _ _).alloc (Nat.le_refl _) (.cells #[.int .i64 0, .int .i64 0] 158)) (by simp)).keep ((Below.refl _ _).alloc (Nat.le_refl _) (.cells #[.int .i64 (o.n : Int), .int .i64 o.k] 158)) (by simp)
    simpa using this
  have X8 : Bx2 w1 (w.heap.size + 1 + 1) (.int .i64 0) (.int .i64 0) := by
    rw [hw1, hw0]
    have := (Bx2.new ((w.alloc (.cells #[.int .i64 (a.n : Int), .int .i64 a.k] 158)).alloc (.cells #[u0, u1, u2, u3, u4, u5, u6, u7, u8] 86)) 158 (.int .i64 0) (.int .i64 0)).keep ((Below.refl _ _).alloc (Nat.le_refl _) (.cells #[.int .i64 (o.n : Int), .int .i64 o.k] 158)) (by simp)
    simpa using this
  have X10 : Bx2 w1 (w.heap.size + 1 + 1 + 1) (.int .i64 (o.n : Int)) (.int .i64 o.k) := by
    rw [hw1]
    have := Bx2.new w0 158 (.int .i64 (o.n : Int)) (.int .i64 o.k)
    rw [z0] at this
    exact this
  have S1 := S.keep B1
  have x1 := hide (XMem.below (B1.mono (Nat.le_trans hlo (Nat.le_of_lt hbn))) hx)
  -- the update
  obtain ⟨w2, hput, N2, Bt2⟩ := (S1.names.keep ((Below.refl w1.heap.size w1).drew)).put Tryz.underlying181 Tryz.underlying9 s (sh a)
  have Bt2' : But bn w1 w2 := (But.drew w1).trans Bt2
  rw [show updV (envV E) s (some (sh a)) = envV (E.upd s (some a)) from envV_upd E s (some a)] at N2
  have S2 : TyS B lo bt bn bf (E.upd s (some a)) M w2 := S1.but Bt2' N2 (S.bd.upd s (some a) (fun b hb => by cases hb; exact ha))
  have C := hide (IH B lo bt bn bf (E.upd s (some a)) M w2 _ (XMem.below (Bt2'.below hlo (by omega)) (unhide x1)) hok S2 hM)
  have HX8 := hide (X8.but Bt2' (by omega))
  have HX10 := hide (X10.but Bt2' (by omega))
  have HX7 := hide (X7.but Bt2' (by omega))
  have HBt := hide ((But.of (p := bn) B1).trans Bt2')
  have HS := hide S2
  have b1 := S1.box.at0
  have c60 := X6.at0
  have c61 := X6.at1
  generalize tyF x (E.upd s (some a)) = r at *
  obtain ⟨r1, r2⟩ := r
  simp only at C ⊢
  have hz2 := Bt2'.size
  rw [z1] at hz2
  clear S S1 S2 N2 Bt2 Bt2' X6 X7 X8 X10 B0 B1 IH hx x1 hok ho hkn
  go_enter Tryz.func146, Tryz.ntmps146
  go_upto_region 2 with fail
  rw [← hw0, ← hw1]
  clear hw0 hw1 hlk b0
  go_region
  obtain ⟨d0, d1, d2, d3, d4, d5, d6, d7, d8⟩ := (unhide HX7).tell
  have l7 := (unhide HX7).low
  clear hput b1 c60 c61 z1 HX7
  go_wp2_with fail
  refine (unhide C).mono ?_
  rintro e w3 ⟨rfl, N3, Bt3⟩
  have S3 := (unhide HS).but Bt3 N3 (unhide HS).bd
  have Y8 := (unhide HX8).but Bt3 (by omega)
  have Y10 := (unhide HX10).but Bt3 (by omega)
  have HBt3 := hide ((unhide HBt).trans Bt3)
  have hz3 : w.heap.size + 1 + 1 + 1 + 1 ≤ w3.heap.size := Nat.le_trans hz2 Bt3.size
  clear C HS HX8 HX10 HBt d0 d1 d2 d3 d4 d5 d6 d7 d8 l7 Bt3 hz2 z0
  obtain ⟨w4, hw4⟩ : ∃ w4, w4 = w3.alloc (.cells #[.int .i64 (r2.n : Int), .int .i64 r2.k] 158) := ⟨_, rfl⟩
  have B4 : Below w3.heap.size w3 w4 := by rw [hw4]; exact (Below.refl _ _).alloc (Nat.le_refl _) _
  have X12 : Bx2 w4 w3.heap.size (.int .i64 (r2.n : Int)) (.int .i64 r2.k) := by rw [hw4]; exact Bx2.new w3 _ _ _
  have S4 := S3.keep B4
  have hfin : ∀ w5, MapF bn (envV E) w5 → But bn w4 w5 → Bx2 w5 w3.heap.size (.int .i64 (r2.n : Int)) (.int .i64 r2.k) ∧ Bx2 w5 (w.heap.size + 1 + 1) (.int .i64 0) (.int .i64 0) ∧ MapF bn (envV E) (put2 w5 (w.heap.size + 1 + 1) (.int .i64 (r2.n : Int)) (.int .i64 r2.k)) ∧ But bn w (put2 w5 (w.heap.size + 1 + 1) (.int .i64 (r2.n : Int)) (.int .i64 r2.k)) := fun w5 n5 b5 => by
    have p5 : But (w.heap.size + 1 + 1) w5 (put2 w5 (w.heap.size + 1 + 1) (.int .i64 (r2.n : Int)) (.int .i64 r2.k)) := But.set.trans But.set
    refine ⟨X12.but b5 (by omega), (Y8.keep B4 Y8.low).but b5 (by omega), n5.but p5 (by omega), ?_⟩
    have q := ((unhide HBt3).trans (But.of (p := bn) B4)).trans b5
    exact q.on (p5.below (by omega) q.size)
  have FIN := hide hfin
  have Y10' := Y10.keep B4 Y10.low
  have e0 := Y10'.at0
  have e1 := Y10'.at1
  have b4 := S4.box.at0
  have Y12 := X12.at0
  have Y13 := X12.at1
  clear hfin
  rcases unhide HO with ⟨rfl, hE⟩ | ⟨rfl, hE⟩
  · obtain ⟨w5, hput, N5, Bt5⟩ := (S4.names.keep ((Below.refl w4.heap.size w4).drew)).put Tryz.underlying181 Tryz.underlying9 s (sh o)
    rw [show updV (envV (E.upd s (some a))) s (some (sh o)) = envV ((E.upd s (some a)).upd s (some o)) from envV_upd _ s (some o), ← hE, Ev.back] at N5
    obtain ⟨g12, g8, nf, bf'⟩ := unhide FIN w5 N5 ((But.drew w4).trans Bt5)
    have HN := hide nf
    have HF := hide bf'
    have R := g8.put (.int .i64 (r2.n : Int)) (.int .i64 r2.k)
    have r0 := hide R.at0
    have r1' := hide R.at1
    clear nf bf' N5 Bt5 N3 S3 S4 Y8 Y10 X12 B4 FIN HO hE Y10' R HBt3
    go_upto_region 5 with fail
    rw [← hw4]
    clear hw4
    go_region
    have f0 := g12.at0
    have f1 := g12.at1
    have h0 := g8.at0
    have h1 := g8.at1
    have t0 := g8.th0
    have t1 := g8.th1
    have lx := g8.low
    clear hput e0 e1 b4 Y12 Y13 g12 g8
    go_wp2
    refine bodyPost_ret (v := .tuple #[sh r2, .int .i64 r1]) (by simp [results, Tryz.results146, go_sem, unhide r0, unhide r1']) rfl ⟨rfl, unhide HN, unhide HF⟩
  · obtain ⟨w5, hdel0, N5, Bt5⟩ := S4.names.del Tryz.underlying181 Tryz.underlying9 s 0 #[181, 9] rfl
    have hdel : ∀ ty, (Builtin.delete_ #[181, 9] ty #[.map (some bn), .string s]).run Tryz.prog w4 = .ok (.tuple #[]) w5 := fun _ => hdel0
    rw [show updV (envV (E.upd s (some a))) s none = envV ((E.upd s (some a)).upd s none) from envV_upd _ s none, ← hE, Ev.back] at N5
    obtain ⟨g12, g8, nf, bf'⟩ := unhide FIN w5 N5 Bt5
    have HN := hide nf
    have HF := hide bf'
    have R := g8.put (.int .i64 (r2.n : Int)) (.int .i64 r2.k)
    have r0 := hide R.at0
    have r1' := hide R.at1
    have f0 := g12.at0
    have f1 := g12.at1
    have h0 := g8.at0
    have h1 := g8.at1
    have t0 := g8.th0
    have t1 := g8.th1
    have lx := g8.low
    rw [hw4] at hdel b4
    clear nf bf' N5 Bt5 N3 S3 S4 Y8 Y10 X12 B4 FIN HO hE Y10' R HBt3 hdel0 hw4 g12 g8 e0 e1 Y12 Y13
    go_wp2
    refine bodyPost_ret (v := .tuple #[sh r2, .int .i64 r1]) (by simp [results, Tryz.results146, go_sem, unhide r0, unhide r1']) rfl ⟨rfl, unhide HN, unhide HF⟩
end Go.Proofs.YtnegjbkbfgkkjaaGreatDoor

/- Walks: ofKids, out of what typed tells. -/
namespace Go.Proofs.YtnegjbkbfgkkjaaGreatDoor
open Go.RowKit Go.MapKept

theorem tyL_err : ∀ (ks : List XT) (E : Ev), (tyL ks E).1 ≠ 0 → (tyL ks E).2 = []
  | [], E, _ => by rw [tyL]
  | x :: xs, E, h => by
    rw [tyL] at h ⊢
    split
    · rfl
    · rename_i h1
      rw [if_neg h1] at h
      split
      · rfl
      · rename_i h2
        rw [if_neg h2] at h
        exact absurd rfl h
def preL (acc : List Sp) (r : Int × List Sp) : Int × List Sp := if r.1 ≠ 0 then (r.1, []) else (0, acc ++ r.2)
theorem preL_start (ks : List XT) (E : Ev) : preL [] (tyL ks E) = tyL ks E := by
  unfold preL
  split
  · rename_i h; rw [← tyL_err ks E h]
  · rename_i h
    have h' : (tyL ks E).1 = 0 := by simpa using h
    rw [List.nil_append, ← h']
theorem preL_no {acc : List Sp} {u : XT} {us : List XT} {E : Ev} (h : (tyF u E).1 ≠ 0) : preL acc (tyL (u :: us) E) = ((tyF u E).1, []) := by
  rw [tyL, if_pos h]; unfold preL; rw [if_pos h]
theorem preL_ok {acc : List Sp} {u : XT} {us : List XT} {E : Ev} (h : (tyF u E).1 = 0) : preL acc (tyL (u :: us) E) = preL (acc ++ [(tyF u E).2]) (tyL us E) := by
  rw [tyL, if_neg (by simpa using h)]
  unfold preL
  by_cases h2 : (tyL us E).1 ≠ 0
  · rw [if_pos h2]
    simp [h2]
  · rw [if_neg h2, if_neg h2]
    simp
theorem preL_end (acc : List Sp) (E : Ev) : preL acc (tyL [] E) = (0, acc) := by rw [tyL]; unfold preL; simp
set_option maxRecDepth 100000 in
set_option maxHeartbeats 8000000 in
theorem ofKids_any (ks : List XT) (IH : ∀ u ∈ ks, TypedC u) {B lo bt bn bf : Nat} {E : Ev} {M : Nat} {w : World} {a : Option Addr} {cap : Nat} (S : TyS B lo bt bn bf E M w) (hk : ks ≠ [] → ∃ b off, a = some ⟨b, off, none⟩ ∧ b < B ∧ XMemL B w ks b off) (hok : okL ks) (hM : M + sizeL ks ≤ 50000) :
    Calls Tryz.prog 113 #[.pointer (some ⟨bt, 0, none⟩), .slice a ks.length cap] w fun e w' => ∃ v, e = .returned (.tuple #[v, .int .i64 (tyL ks E).1]) ∧ SL w.heap.size w' v (tyL ks E).2 ∧ MapF bn (envV E) w' ∧ But bn w w' := by
  have hlo := S.lowB
  have hbn := S.names.low
  have hlen : ks.length ≤ 50000 := by have := len_sizeL ks; omega
  obtain ⟨wm, hmk, hown, hbm⟩ := make_sh ks.length (by omega) w w.heap.size (Nat.le_refl _)
  have HS0 := hide hown
  have HN0 := hide (S.names.keep hbm)
  have HB0 := hide (But.of (p := bn) hbm)
  have HS := hide S
  have HK := hide hk
  have HI := hide IH
  have HOK := hide hok
  clear hown hbm S hk IH hok
  go_enter Tryz.func113, Tryz.ntmps113
  go_wp2
  go_loopw [6, 16] (fun sv i wr => ∃ (m : Nat) (acc : List Sp), m ≤ ks.length ∧ i = .int .i64 (m : Int) ∧ acc.length = m ∧ Hid (tyL ks E = preL acc (tyL (ks.drop m) E)) ∧ Hid (SM w.heap.size wr sv acc) ∧ Hid (MapF bn (envV E) wr) ∧ Hid (But bn w wr)) (fun _ i _ => ks.length - (intOf i).toNat)
  case atStart => exact ⟨0, [], Nat.zero_le _, rfl, rfl, hide (preL_start ks E).symm, HS0, HN0, HB0⟩
  case round =>
    obtain ⟨m, acc, hml, rfl, hacc, H, HS1, HN1, HB1⟩ := hrel
    have HAC := hide hacc
    clear HS0 HN0 HB0 hmk hacc
    by_cases hlt : m < ks.length
    · have hi1 : (m : Int) < (ks.length : Int) := by omega
      obtain ⟨u, hu⟩ : ∃ u, ks[m]? = some u := ⟨_, List.getElem?_eq_getElem hlt⟩
      obtain ⟨b, off, rfl, hlB, hml2⟩ := unhide HK (by intro e; subst e; simp at hlt)
      have hBw : Below B w wr := (unhide HB1).below hlo (by omega)
      obtain ⟨cs, h9, hmu⟩ := XMemL.at (XMemL.below hBw hlB hml2) m u hu
      have S1 := (unhide HS).but (unhide HB1) (unhide HN1) (unhide HS).bd
      have hsu : M + u.size ≤ 50000 := by have := size_at hu; omega
      obtain ⟨xk, vk, vy, vc, vx, vt, va, vn, vp, xs, xa, xn, xp, rfl⟩ := hmu.form
      obtain ⟨q0, q1, q2, q3, q4, q5, q6, q7, q8, hcs, c0, c1, c2, c3, c4, c5, c6, c7, c8⟩ := h9
      simp only [Array.mk.injEq, List.cons.injEq, and_true] at hcs
      obtain ⟨rfl, rfl, rfl, rfl, rfl, rfl, rfl, rfl, rfl⟩ := hcs
      have hBa := (Below.refl wr.heap.size wr).alloc (Nat.le_refl _) (.cells #[.int .i64 xk, .int .i64 vk, .bool vy, .int .i64 vc, .int .i64 vx, .string vt, .slice va vn vp, .string xs, .slice xa xn xp] 86)
      have hBz : B ≤ wr.heap.size := by have := (unhide HB1).size; omega
      have C := hide (unhide HI u (List.mem_of_getElem? hu) B lo bt bn bf E M _ _ (XMem.below (hBa.mono hBz) hmu) (okL_at (unhide HOK) hu) (S1.keep hBa) hsu)
      rw [drop_at hu] at H
      have HNO := hide (fun h => (unhide H).trans (preL_no (acc := acc) (us := ks.drop (m + 1)) (u := u) (E := E) h))
      have HYES := hide (fun h => (unhide H).trans (preL_ok (acc := acc) (us := ks.drop (m + 1)) (u := u) (E := E) h))
      generalize tyF u E = r at *
      obtain ⟨r1, r2⟩ := r
      simp only at C HNO HYES
      clear H hmu S1 hu hml2 hBw hsu
      go_wp2_with fail
      refine (unhide C).mono ?_
      rintro e w2 ⟨rfl, N2, Bt2⟩
      have hBt : But bn wr w2 := (But.of (p := bn) hBa).trans Bt2
      have HS2 := hide ((unhide HS1).but hBt hbn)
      have HB2 := hide ((unhide HB1).trans hBt)
      have HN2 := hide N2
      have hz2 : w.heap.size ≤ w2.heap.size := (unhide HB2).size
      clear Bt2 hBt N2 HS1 HB1 HN1 C hBa c0 c1 c2 c3 c4 c5 c6 c7 c8
      by_cases hr : r1 = 0
      · subst hr
        have E2 := hide (unhide HYES rfl)
        obtain ⟨i0, hi, hz0, hz1, hzb⟩ := info_parts info_shp
        have HI2 := hide (And.intro hi (And.intro hz0 (And.intro hz1 hzb)))
        clear HNO HYES hi hz0 hz1 hzb
        go_wp2_with (at_builtin; refine wpList_append_own _ rfl _ _ 188 rfl w.heap.size 158 i0 (.agg #[.int .i64 0, .int .i64 0]) 2 16 Tryz.underlying188 (unhide HI2).1 (unhide HI2).2.1 (unhide HI2).2.2.1 (unhide HI2).2.2.2 rfl (by decide) _ _ _ rfl (World.ownsRow.alloc (World.ownsRow.alloc (unhide HS2) _) _) ⟨w2.heap.size + 1, 0, none⟩ 1 1 (shC r2) rfl rfl ?c1 ?c2 ?c3 ?c4 ?c5 ?_)
        case c1 =>
          have q := cell_two_new (w2.alloc (.cells #[.int .i64 (r2.n : Int), .int .i64 r2.k] 158)) 158 (.int .i64 (r2.n : Int)) (.int .i64 r2.k)
          rw [World.size_alloc] at q
          exact q
        case c2 => intro x hx; simp [shC] at hx; rcases hx with rfl | rfl <;> rfl
        case c3 => rw [unhide HAC]; unfold maxLen; omega
        case c4 => rw [unhide HAC]; omega
        case c5 => simp; omega
        intro v' w3 hown hgrow hnil
        have HS3 : Hid (SM w.heap.size w3 v' (acc ++ [r2])) := by
          refine hide ?_
          unfold SM
          rw [shCs_app, List.length_append]
          exact hown
        have HG : Below w.heap.size w2 w3 := (((Below.refl w.heap.size w2).alloc hz2 _).alloc (by simp; omega) _).grown hgrow (by simp; omega) (fun k hk => (unhide HS2).own k hk)
        have HB3 := hide ((unhide HB2).on HG)
        have HN3 : Hid (MapF bn (envV E) w3) := by
          obtain ⟨es, c, q1, q2⟩ := (unhide HN2).map
          exact hide ⟨Nat.lt_of_lt_of_le (unhide HN2).low HG.size, es, c, (HG.block bn hbn).trans q1, q2⟩
        clear hown hgrow hnil HG HS2 HN2 HB2 HI2
        go_wp2
        go_roundw
        case rel => exact ⟨m + 1, acc ++ [r2], by omega, by go_num, by rw [List.length_append, unhide HAC]; rfl, E2, HS3, HN3, HB3⟩
        case measure => simp [intOf]; omega
      · have E2 := hide (unhide HNO hr)
        have hr' : (r1 != 0) = true := by simpa using hr
        have hBa2 := (Below.refl w2.heap.size w2).alloc (Nat.le_refl _) (.cells #[.int .i64 (r2.n : Int), .int .i64 r2.k] 158)
        have HN3 := hide ((unhide HN2).keep hBa2)
        have HB3 := hide ((unhide HB2).trans (But.of (p := bn) hBa2))
        clear HNO HYES HS2 HN2 HB2 hBa2 hr
        go_wp2
        refine bodyPost_ret (v := .tuple #[.slice none 0 0, .int .i64 r1]) (by simp [results, Tryz.results113, go_sem]) rfl ⟨.slice none 0 0, by rw [unhide E2], ?_, unhide HN3, unhide HB3⟩
        rw [unhide E2]
        exact ⟨by simp, none, 0, rfl, fun h => absurd rfl h⟩
    · obtain rfl : m = ks.length := by omega
      have E2 : Hid (tyL ks E = (0, acc)) := hide ((unhide H).trans (by rw [List.drop_length]; exact preL_end acc E))
      clear H HK HI HOK HS
      go_wp2
      refine bodyPost_ret (v := .tuple #[u6, .int .i64 0]) (by simp [results, Tryz.results113, go_sem]) rfl ⟨u6, by rw [unhide E2], ?_, unhide HN1, unhide HB1⟩
      rw [unhide E2]
      exact (unhide HS1).read (by rw [unhide HAC]; omega)
end Go.Proofs.YtnegjbkbfgkkjaaGreatDoor
