/- TestsParts: from one to another one. (Written by gen_wq.py.) -/
import Derived.Test.YtcidbhegnnedoaaGreatDoorG27
import Derived.Deep.Cut
import Derived.Deep.CutRange
namespace Go.Proofs.YtcidbhegnnedoaaGreatDoor
open Go.RowKit


set_option maxRecDepth 100000 in
set_option maxHeartbeats 40000000 in
theorem parts_in (ka : Int) (ya : Bool) (ca xa : Int) (sa : ByteArray) (la : Option Addr) (na ma : Nat) (kb : Int) (yb : Bool) (cb xb : Int) (sb : ByteArray) (lb : Option Addr) (nb mb : Nat) (oa ob : Bool) (L1 : Option Addr) (N1 M1 : Nat) (K2 : Int) (kp : Int) (yp : Bool) (cp xp : Int) (sp : ByteArray) (lp : Option Addr) (np mp : Nat) (kq : Int) (yq : Bool) (cq xq : Int) (sq : ByteArray) (lq : Option Addr) (nq mq : Nat) (od oe : Bool) (L2 : Option Addr) (N2 M2 : Nat) (kv : Int) (yv : Bool) (cv xv : Int) (sv : ByteArray) (lv : Option Addr) (nv mv : Nat) (g8 g9 g1 g2 gl gh : Nat) (kl kh : Int) (w : World)
    (KA : Hid (∀ wx, Below w.heap.size w wx → Calls Tryz.prog 5 #[] wx fun r w' => r = .returned (.bool true) ∧ Below wx.heap.size wx w'))
    (KW : Hid (∀ wx P, Below w.heap.size w wx → BkA wx P (t32 7 ka ya ca xa sa la na ma kb yb cb xb sb lb nb mb oa ob L1 N1 M1 K2 kp yp cp xp sp lp np mp kq yq cq xq sq lq nq mq od oe L2 N2 M2) → Calls Tryz.prog 6 #[.agg (eA 8 P)] wx fun r w' => r = .returned (.int .i64 0) ∧ Below wx.heap.size wx w'))
    (KL : Hid (∀ wx, Below w.heap.size w wx → Calls Tryz.prog 7 #[.agg (vA kv yv cv xv sv lv nv mv)] wx fun r w' => r = .returned (.int .i64 0) ∧ Below wx.heap.size wx w'))
    (K8 : Hid (∀ wx P, Below w.heap.size w wx → BkA wx P (t32 7 ka ya ca xa sa la na ma kb yb cb xb sb lb nb mb oa ob L1 N1 M1 K2 kp yp cp xp sp lp np mp kq yq cq xq sq lq nq mq od oe L2 N2 M2) → Calls Tryz.prog 9 #[.agg (eA 8 P), .agg (vA kv yv cv xv sv lv nv mv)] wx fun e w' => ∃ r, e = .returned r ∧ r = told g8 ∧ Below wx.heap.size wx w'))
    (K9 : Hid (∀ wx P, Below w.heap.size w wx → BkA wx P (t32 7 ka ya ca xa sa la na ma kb yb cb xb sb lb nb mb oa ob L1 N1 M1 K2 kp yp cp xp sp lp np mp kq yq cq xq sq lq nq mq od oe L2 N2 M2) → Calls Tryz.prog 9 #[.agg (eA 9 P), .agg (vA kv yv cv xv sv lv nv mv)] wx fun e w' => ∃ r, e = .returned r ∧ r = told g9 ∧ Below wx.heap.size wx w'))
    (KS1 : Hid (∀ wx, Below w.heap.size w wx → Calls Tryz.prog 9 #[.agg (tF 7 ka ya ca xa sa la na ma kb yb cb xb sb lb nb mb oa ob L1 N1 M1), .agg (vA kv yv cv xv sv lv nv mv)] wx fun e w' => ∃ r, e = .returned r ∧ r = told g1 ∧ Below wx.heap.size wx w'))
    (KS2 : Hid (∀ wx, Below w.heap.size w wx → Calls Tryz.prog 9 #[.agg (tF K2 kp yp cp xp sp lp np mp kq yq cq xq sq lq nq mq od oe L2 N2 M2), .agg (vA kv yv cv xv sv lv nv mv)] wx fun e w' => ∃ r, e = .returned r ∧ r = told g2 ∧ Below wx.heap.size wx w'))
    (KOR : Hid (∀ wx, Calls Tryz.prog 10 #[told g1, told g2] wx fun e w' => ∃ r, e = .returned r ∧ r = told g8 ∧ Below wx.heap.size wx w'))
    (KNO : Hid (∀ wx, Calls Tryz.prog 11 #[told g8] wx fun e w' => ∃ r, e = .returned r ∧ r = told g9 ∧ Below wx.heap.size wx w'))
    (KLO : Hid (∀ wx, Below w.heap.size w wx → Calls Tryz.prog 9 #[.agg (tA kl ka ya ca xa sa la na ma), .agg (vA kv yv cv xv sv lv nv mv)] wx fun e w' => ∃ r, e = .returned r ∧ r = told gl ∧ Below wx.heap.size wx w'))
    (KHI : Hid (∀ wx, Below w.heap.size w wx → Calls Tryz.prog 9 #[.agg (tA kh kb yb cb xb sb lb nb mb), .agg (vA kv yv cv xv sv lv nv mv)] wx fun e w' => ∃ r, e = .returned r ∧ r = told gh ∧ Below wx.heap.size wx w'))
    (KAN : Hid (∀ wx, Calls Tryz.prog 12 #[told gl, told gh] wx fun e w' => ∃ r, e = .returned r ∧ r = told g1 ∧ Below wx.heap.size wx w'))
    (hl : Hid (kl = if oa = true then 5 else 6))
    (hh : Hid (kh = if ob = true then 3 else 4)) :
    Calls Tryz.prog 3 #[.agg (tF 7 ka ya ca xa sa la na ma kb yb cb xb sb lb nb mb oa ob L1 N1 M1), .agg (tF K2 kp yp cp xp sp lp np mp kq yq cq xq sq lq nq mq od oe L2 N2 M2), .agg (vA kv yv cv xv sv lv nv mv)] w fun e w' => e = .returned (.bool true) ∧ Below w.heap.size w w' := by
  go_enter Tryz.func3, Tryz.ntmps3
  go_wp2_with fail
  refine (unhide KA _ (below3 _ _ _ _)).mono ?_
  rintro r w1 ⟨rfl, hb⟩
  have XA : Hid (B16 w1 w.heap.size (tF 7 ka ya ca xa sa la na ma kb yb cb xb sb lb nb mb oa ob L1 N1 M1)) := hide ((B16.new (w := w) (t := 29) (u := (tF 7 ka ya ca xa sa la na ma kb yb cb xb sb lb nb mb oa ob L1 N1 M1))).over.over.keep hb (by simp; omega))
  have XB : Hid (B16 w1 (w.heap.size + 1) (tF K2 kp yp cp xp sp lp np mp kq yq cq xq sq lq nq mq od oe L2 N2 M2)) := hide (by
    have q := ((B16.new (w := w.alloc (.cells (tF 7 ka ya ca xa sa la na ma kb yb cb xb sb lb nb mb oa ob L1 N1 M1) 29)) (t := 29) (u := (tF K2 kp yp cp xp sp lp np mp kq yq cq xq sq lq nq mq od oe L2 N2 M2))).over (o := .cells (vA kv yv cv xv sv lv nv mv) 26)).keep hb (by simp)
    simpa using q)
  have XV : Hid (Box w1 (w.heap.size + 1 + 1) (vA kv yv cv xv sv lv nv mv)) := hide ((box3g hb).1)
  have HB := hide ((below3 w (.cells (tF 7 ka ya ca xa sa la na ma kb yb cb xb sb lb nb mb oa ob L1 N1 M1) 29) (.cells (tF K2 kp yp cp xp sp lp np mp kq yq cq xq sq lq nq mq od oe L2 N2 M2) 29) (.cells (vA kv yv cv xv sv lv nv mv) 26)).trans (hb.mono (by simp; omega)))
  clear hb KA
  go_upto_region 3 with fail
  refine frame_name ?_
  intro f0 hf0
  have s3 : G f0 3 = .pointer (some ⟨w.heap.size, 0, none⟩) := by rw [hf0]; rfl
  have s4 : G f0 4 = .pointer (some ⟨w.heap.size + 1, 0, none⟩) := by rw [hf0]; rfl
  have s5 : G f0 5 = .pointer (some ⟨w.heap.size + 1 + 1, 0, none⟩) := by rw [hf0]; rfl
  have hsz : f0.tmps.size = 78 := by rw [hf0]; rfl
  have hdf : f0.defers = [] := by rw [hf0]
  clear hf0
  refine wp_region ?_
  refine two_kids 7 ka ya ca xa sa la na ma kb yb cb xb sb lb nb mb oa ob L1 N1 M1 K2 kp yp cp xp sp lp np mp kq yq cq xq sq lq nq mq od oe L2 N2 M2 8 rfl rfl rfl rfl rfl rfl rfl s3 s4 (unhide XA) (unhide XB) hsz (by decide) (by decide) (by decide) (by decide) (by decide) (by decide) (by decide) (by decide) ?_
  intro f1 w2 kp s7 hsz1 hdf1 hb XK8 X8
  replace s3 := (kp 3 (by decide) (by decide) (by decide) (by decide) (by decide)).trans s3
  replace s4 := (kp 4 (by decide) (by decide) (by decide) (by decide) (by decide)).trans s4
  replace s5 := (kp 5 (by decide) (by decide) (by decide) (by decide) (by decide)).trans s5
  replace hdf := hdf1.trans hdf
  replace HB := hide (bv (unhide HB) hb)
  replace XA := hide ((unhide XA).keep hb (unhide XA).low)
  replace XB := hide ((unhide XB).keep hb (unhide XB).low)
  replace XV := hide ((unhide XV).keep hb (unhide XV).low)
  replace XK8 := hide XK8
  replace X8 := hide X8
  clear hb kp hsz hdf1
  obtain ⟨v0, v1, v2, v3, v4, v5, v6, v7, v8, v9, v10, v11, v12, v13, v14, v15, v16, v17, v18, v19, v20, v21, v22, v23, v24, v25, v26, v27, v28, v29, v30, v31, v32, v33, v34, v35, v36, v37, v38, v39, v40, v41, v42, v43, v44, v45, v46, v47, v48, v49, v50, v51, v52, v53, v54, v55, v56, v57, v58, v59, v60, v61, v62, v63, v64, v65, v66, v67, v68, v69, v70, v71, v72, v73, v74, v75, v76, v77, rfl, e3, e4, e5, e7, e8, e9, e10, e51⟩ := frame_tp hsz1 hdf
  rw [s3] at e3
  rw [s4] at e4
  rw [s5] at e5
  rw [s7] at e7
  clear e8 e9 e10 e51
  subst e3 e4 e5 e7
  clear s3 s4 s5 s7 hsz1 hdf f0
  obtain ⟨a0, a1, a2, a3, a4, a5, a6, a7, a8, a9, a10, a11, a12, a13, a14, a15⟩ := (unhide X8).tell
  have la := (unhide X8).low
  go_wp2_with fail
  refine (unhide KW _ _ (unhide HB) (unhide XK8)).mono ?_
  rintro r w3 ⟨rfl, hb⟩
  replace HB := hide (bv (unhide HB) hb)
  replace XA := hide ((unhide XA).keep hb (unhide XA).low)
  replace XB := hide ((unhide XB).keep hb (unhide XB).low)
  replace XV := hide ((unhide XV).keep hb (unhide XV).low)
  replace X8 := hide ((unhide X8).keep hb (unhide X8).low)
  replace XK8 := hide ((unhide XK8).keep hb (unhide XK8).low)
  clear hb KW la a0 a1 a2 a3 a4 a5 a6 a7 a8 a9 a10 a11 a12 a13 a14 a15
  obtain ⟨a0, a1, a2, a3, a4, a5⟩ := (unhide XV).tell
  have la := (unhide XV).low
  go_wp2_with fail
  refine (unhide KL _ (unhide HB)).mono ?_
  rintro r w4 ⟨rfl, hb⟩
  replace HB := hide (bv (unhide HB) hb)
  replace XA := hide ((unhide XA).keep hb (unhide XA).low)
  replace XB := hide ((unhide XB).keep hb (unhide XB).low)
  replace XV := hide ((unhide XV).keep hb (unhide XV).low)
  replace X8 := hide ((unhide X8).keep hb (unhide X8).low)
  replace XK8 := hide ((unhide XK8).keep hb (unhide XK8).low)
  clear hb KL la a0 a1 a2 a3 a4 a5
  go_upto_region 6 with fail
  refine frame_name ?_
  intro f0 hf0
  have s3 : G f0 3 = .pointer (some ⟨w.heap.size, 0, none⟩) := by rw [hf0]; rfl
  have s4 : G f0 4 = .pointer (some ⟨w.heap.size + 1, 0, none⟩) := by rw [hf0]; rfl
  have s5 : G f0 5 = .pointer (some ⟨w.heap.size + 1 + 1, 0, none⟩) := by rw [hf0]; rfl
  have s7 : G f0 7 = .pointer (some ⟨w1.heap.size + 1, 0, none⟩) := by rw [hf0]; rfl
  have hsz : f0.tmps.size = 78 := by rw [hf0]; rfl
  have hdf : f0.defers = [] := by rw [hf0]
  clear hf0
  refine wp_region ?_
  refine two_kids 7 ka ya ca xa sa la na ma kb yb cb xb sb lb nb mb oa ob L1 N1 M1 K2 kp yp cp xp sp lp np mp kq yq cq xq sq lq nq mq od oe L2 N2 M2 9 rfl rfl rfl rfl rfl rfl rfl s3 s4 (unhide XA) (unhide XB) hsz (by decide) (by decide) (by decide) (by decide) (by decide) (by decide) (by decide) (by decide) ?_
  intro f1 w5 kp s8 hsz1 hdf1 hb XK9 X9
  replace s3 := (kp 3 (by decide) (by decide) (by decide) (by decide) (by decide)).trans s3
  replace s4 := (kp 4 (by decide) (by decide) (by decide) (by decide) (by decide)).trans s4
  replace s5 := (kp 5 (by decide) (by decide) (by decide) (by decide) (by decide)).trans s5
  replace s7 := (kp 7 (by decide) (by decide) (by decide) (by decide) (by decide)).trans s7
  replace hdf := hdf1.trans hdf
  replace hsz := hsz1
  replace HB := hide (bv (unhide HB) hb)
  replace XA := hide ((unhide XA).keep hb (unhide XA).low)
  replace XB := hide ((unhide XB).keep hb (unhide XB).low)
  replace XV := hide ((unhide XV).keep hb (unhide XV).low)
  replace X8 := hide ((unhide X8).keep hb (unhide X8).low)
  replace XK8 := hide ((unhide XK8).keep hb (unhide XK8).low)
  replace XK9 := hide XK9
  replace X9 := hide X9
  clear hb kp hsz1 hdf1 f0
  go_upto_region 7 with fail
  refine region_any (I := RL w5 f1 78 [29, 30, 31, 32, 33, 34, 35, 36, 37, 38, 39, 40, 41, 42, 43, 44, 45, 46, 47, 48, 49, 50, 51] [.lit (.agg (eA 8 w1.heap.size)), .lit (.agg (vA kv yv cv xv sv lv nv mv)), .lit (told g8), .lit (.agg (tF 7 ka ya ca xa sa la na ma kb yb cb xb sb lb nb mb oa ob L1 N1 M1)), .lit (.agg (vA kv yv cv xv sv lv nv mv)), .lit (told g1), .lit (.agg (tF K2 kp yp cp xp sp lp np mp kq yq cq xq sq lq nq mq od oe L2 N2 M2)), .lit (.agg (vA kv yv cv xv sv lv nv mv)), .lit (told g2), .lit (told g8), .lit (.bool true), .lit (.bool false), .lit (.bool false), .lit (.agg (eA 9 w4.heap.size)), .lit (.agg (vA kv yv cv xv sv lv nv mv)), .lit (told g9), .lit (.agg (eA 8 w1.heap.size)), .lit (.agg (vA kv yv cv xv sv lv nv mv)), .lit (told g8), .lit (told g9), .lit (.bool true), .lit (.bool false), .lit (.bool false)]) (by kernel_rfl) ?wait ?step ?done ?start
  case wait => exact ⟨by simp <;> rfl, by simp <;> rfl, by simp <;> rfl, by simp <;> rfl, by simp <;> rfl, by simp <;> rfl, by simp <;> rfl, by simp <;> rfl, by simp <;> rfl, by simp <;> rfl, by simp <;> rfl, by simp <;> rfl, by simp <;> rfl, by simp <;> rfl, by simp <;> rfl, by simp <;> rfl, by simp <;> rfl, by simp <;> rfl, by simp <;> rfl, by simp <;> rfl, by simp <;> rfl, by simp <;> rfl, by simp <;> rfl, trivial⟩
  case start => exact RI.start hsz hdf ((Below.refl _ _).drew)
  case step =>
    refine ⟨?_, ?_, ?_, ?_, ?_, ?_, ?_, ?_, ?_, ?_, ?_, ?_, ?_, ?_, ?_, ?_, ?_, ?_, ?_, ?_, ?_, ?_, ?_, trivial⟩
    · rintro L fa wx h hcl hL hw2
      exact rl_val h (by decide) rfl rfl rfl (by decide) rfl (run_ldT (eval_G ((h.keep (s := 7) (by decide)).trans s7)) ((unhide X8).keep h.old (unhide X8).low)) rfl
    · rintro L fa wx h hcl hL hw2
      exact rl_val h (by decide) rfl rfl rfl (by decide) rfl (run_ldX (eval_G ((h.keep (s := 5) (by decide)).trans s5)) ((unhide XV).keep h.old (unhide XV).low)) rfl
    · rintro L fa wx h hcl hL hw2
      exact rl_call (R := fun v _ => v = told g8) h (by decide) rfl rfl rfl (by decide) rfl (run_call2 (eval_G (show G fa 29 = .agg (eA 8 w1.heap.size) from (h.got 0 29 (hw2 ⟨0, .data⟩ (by simp) rfl) rfl))) (eval_G (show G fa 30 = .agg (vA kv yv cv xv sv lv nv mv) from (h.got 1 30 (hw2 ⟨1, .data⟩ (by simp) rfl) rfl))) callO9) (unhide K8 _ _ (bv (unhide HB) h.old) ((unhide XK8).keep h.old (unhide XK8).low)) (fun _ _ q => q)
    · rintro L fa wx h hcl hL hw2
      exact rl_val h (by decide) rfl rfl rfl (by decide) rfl (run_ldT (eval_G ((h.keep (s := 3) (by decide)).trans s3)) ((unhide XA).keep h.old (unhide XA).low)) rfl
    · rintro L fa wx h hcl hL hw2
      exact rl_val h (by decide) rfl rfl rfl (by decide) rfl (run_ldX (eval_G ((h.keep (s := 5) (by decide)).trans s5)) ((unhide XV).keep h.old (unhide XV).low)) rfl
    · rintro L fa wx h hcl hL hw2
      exact rl_call (R := fun v _ => v = told g1) h (by decide) rfl rfl rfl (by decide) rfl (run_call2 (eval_G (show G fa 32 = .agg (tF 7 ka ya ca xa sa la na ma kb yb cb xb sb lb nb mb oa ob L1 N1 M1) from (h.got 3 32 (hw2 ⟨3, .data⟩ (by simp) rfl) rfl))) (eval_G (show G fa 33 = .agg (vA kv yv cv xv sv lv nv mv) from (h.got 4 33 (hw2 ⟨4, .data⟩ (by simp) rfl) rfl))) callO9) (unhide KS1 _ (bv (unhide HB) h.old)) (fun _ _ q => q)
    · rintro L fa wx h hcl hL hw2
      exact rl_val h (by decide) rfl rfl rfl (by decide) rfl (run_ldT (eval_G ((h.keep (s := 4) (by decide)).trans s4)) ((unhide XB).keep h.old (unhide XB).low)) rfl
    · rintro L fa wx h hcl hL hw2
      exact rl_val h (by decide) rfl rfl rfl (by decide) rfl (run_ldX (eval_G ((h.keep (s := 5) (by decide)).trans s5)) ((unhide XV).keep h.old (unhide XV).low)) rfl
    · rintro L fa wx h hcl hL hw2
      exact rl_call (R := fun v _ => v = told g2) h (by decide) rfl rfl rfl (by decide) rfl (run_call2 (eval_G (show G fa 35 = .agg (tF K2 kp yp cp xp sp lp np mp kq yq cq xq sq lq nq mq od oe L2 N2 M2) from (h.got 6 35 (hw2 ⟨6, .data⟩ (by simp) rfl) rfl))) (eval_G (show G fa 36 = .agg (vA kv yv cv xv sv lv nv mv) from (h.got 7 36 (hw2 ⟨7, .data⟩ (by simp) rfl) rfl))) callO9) (unhide KS2 _ (bv (unhide HB) h.old)) (fun _ _ q => q)
    · rintro L fa wx h hcl hL hw2
      exact rl_call (R := fun v _ => v = told g8) h (by decide) rfl rfl rfl (by decide) rfl (run_call2 (eval_G (show G fa 34 = told g1 from (h.got 5 34 (hw2 ⟨5, .data⟩ (by simp) rfl) rfl))) (eval_G (show G fa 37 = told g2 from (h.got 8 37 (hw2 ⟨8, .data⟩ (by simp) rfl) rfl))) callO10) (unhide KOR _) (fun _ _ q => q)
    · rintro L fa wx h hcl hL hw2
      exact rl_call (R := fun v _ => v = .bool true) h (by decide) rfl rfl rfl (by decide) rfl (run_call2 (eval_G (show G fa 31 = told g8 from (h.got 2 31 (hw2 ⟨2, .data⟩ (by simp) rfl) rfl))) (eval_G (show G fa 38 = told g8 from (h.got 9 38 (hw2 ⟨9, .data⟩ (by simp) rfl) rfl))) callO8) (z1 (same_told g8 _)) (fun _ _ q => q)
    · rintro L fa wx h hcl hL hw2
      exact rl_val h (by decide) rfl rfl rfl (by decide) rfl (run_not (eval_G (show G fa 39 = .bool true from (h.got 10 39 (hw2 ⟨10, .data⟩ (by simp) rfl) rfl)))) rfl
    · rintro L fa wx h hcl hL hw2
      exact rl_val h (by decide) rfl rfl rfl (by decide) rfl (run_mv (eval_G (show G fa 40 = .bool false from (h.got 11 40 (hw2 ⟨11, .data⟩ (by simp) rfl) rfl)))) rfl
    · rintro L fa wx h hcl hL hw2
      exact rl_val h (by decide) rfl rfl rfl (by decide) ((wanted_is (j := 12) (dj := 41) (b := false) (c := false) rfl rfl (by rw [h.size]; decide) (show G fa 41 = .bool false from (h.got 12 41 (hw2 ⟨12, .guard⟩ (by simp) rfl) rfl))).trans rfl) (run_ldT (eval_G ((h.keep (s := 8) (by decide)).trans s8)) ((unhide X9).keep h.old (unhide X9).low)) rfl
    · rintro L fa wx h hcl hL hw2
      exact rl_val h (by decide) rfl rfl rfl (by decide) ((wanted_is (j := 12) (dj := 41) (b := false) (c := false) rfl rfl (by rw [h.size]; decide) (show G fa 41 = .bool false from (h.got 12 41 (hw2 ⟨12, .guard⟩ (by simp) rfl) rfl))).trans rfl) (run_ldX (eval_G ((h.keep (s := 5) (by decide)).trans s5)) ((unhide XV).keep h.old (unhide XV).low)) rfl
    · rintro L fa wx h hcl hL hw2
      exact rl_call (R := fun v _ => v = told g9) h (by decide) rfl rfl rfl (by decide) ((wanted_is (j := 12) (dj := 41) (b := false) (c := false) rfl rfl (by rw [h.size]; decide) (show G fa 41 = .bool false from (h.got 12 41 (hw2 ⟨12, .guard⟩ (by simp) rfl) rfl))).trans rfl) (run_call2 (eval_G (show G fa 42 = .agg (eA 9 w4.heap.size) from (h.got 13 42 (hw2 ⟨13, .data⟩ (by simp) rfl) rfl))) (eval_G (show G fa 43 = .agg (vA kv yv cv xv sv lv nv mv) from (h.got 14 43 (hw2 ⟨14, .data⟩ (by simp) rfl) rfl))) callO9) (unhide K9 _ _ (bv (unhide HB) h.old) ((unhide XK9).keep h.old (unhide XK9).low)) (fun _ _ q => q)
    · rintro L fa wx h hcl hL hw2
      exact rl_val h (by decide) rfl rfl rfl (by decide) ((wanted_is (j := 12) (dj := 41) (b := false) (c := false) rfl rfl (by rw [h.size]; decide) (show G fa 41 = .bool false from (h.got 12 41 (hw2 ⟨12, .guard⟩ (by simp) rfl) rfl))).trans rfl) (run_ldT (eval_G ((h.keep (s := 7) (by decide)).trans s7)) ((unhide X8).keep h.old (unhide X8).low)) rfl
    · rintro L fa wx h hcl hL hw2
      exact rl_val h (by decide) rfl rfl rfl (by decide) ((wanted_is (j := 12) (dj := 41) (b := false) (c := false) rfl rfl (by rw [h.size]; decide) (show G fa 41 = .bool false from (h.got 12 41 (hw2 ⟨12, .guard⟩ (by simp) rfl) rfl))).trans rfl) (run_ldX (eval_G ((h.keep (s := 5) (by decide)).trans s5)) ((unhide XV).keep h.old (unhide XV).low)) rfl
    · rintro L fa wx h hcl hL hw2
      exact rl_call (R := fun v _ => v = told g8) h (by decide) rfl rfl rfl (by decide) ((wanted_is (j := 12) (dj := 41) (b := false) (c := false) rfl rfl (by rw [h.size]; decide) (show G fa 41 = .bool false from (h.got 12 41 (hw2 ⟨12, .guard⟩ (by simp) rfl) rfl))).trans rfl) (run_call2 (eval_G (show G fa 45 = .agg (eA 8 w1.heap.size) from (h.got 16 45 (hw2 ⟨16, .data⟩ (by simp) rfl) rfl))) (eval_G (show G fa 46 = .agg (vA kv yv cv xv sv lv nv mv) from (h.got 17 46 (hw2 ⟨17, .data⟩ (by simp) rfl) rfl))) callO9) (unhide K8 _ _ (bv (unhide HB) h.old) ((unhide XK8).keep h.old (unhide XK8).low)) (fun _ _ q => q)
    · rintro L fa wx h hcl hL hw2
      exact rl_call (R := fun v _ => v = told g9) h (by decide) rfl rfl rfl (by decide) ((wanted_is (j := 12) (dj := 41) (b := false) (c := false) rfl rfl (by rw [h.size]; decide) (show G fa 41 = .bool false from (h.got 12 41 (hw2 ⟨12, .guard⟩ (by simp) rfl) rfl))).trans rfl) (run_call1 (eval_G (show G fa 47 = told g8 from (h.got 18 47 (hw2 ⟨18, .data⟩ (by simp) rfl) rfl))) callO11) (unhide KNO _) (fun _ _ q => q)
    · rintro L fa wx h hcl hL hw2
      exact rl_call (R := fun v _ => v = .bool true) h (by decide) rfl rfl rfl (by decide) ((wanted_is (j := 12) (dj := 41) (b := false) (c := false) rfl rfl (by rw [h.size]; decide) (show G fa 41 = .bool false from (h.got 12 41 (hw2 ⟨12, .guard⟩ (by simp) rfl) rfl))).trans rfl) (run_call2 (eval_G (show G fa 44 = told g9 from (h.got 15 44 (hw2 ⟨15, .data⟩ (by simp) rfl) rfl))) (eval_G (show G fa 48 = told g9 from (h.got 19 48 (hw2 ⟨19, .data⟩ (by simp) rfl) rfl))) callO8) (z1 (same_told g9 _)) (fun _ _ q => q)
    · rintro L fa wx h hcl hL hw2
      exact rl_val h (by decide) rfl rfl rfl (by decide) ((wanted_is (j := 12) (dj := 41) (b := false) (c := false) rfl rfl (by rw [h.size]; decide) (show G fa 41 = .bool false from (h.got 12 41 (hw2 ⟨12, .guard⟩ (by simp) rfl) rfl))).trans rfl) (run_not (eval_G (show G fa 49 = .bool true from (h.got 20 49 (hw2 ⟨20, .data⟩ (by simp) rfl) rfl)))) rfl
    · rintro L fa wx h hcl hL hw2
      exact rl_val h (by decide) rfl rfl rfl (by decide) rfl (run_pickF (eval_G (show G fa 41 = .bool false from (h.got 12 41 (hw2 ⟨12, .data⟩ (by simp) rfl) rfl))) (eval_G (show G fa 50 = .bool false from (h.got 21 50 (hw2 ⟨21, .data⟩ (by simp) rfl) rfl)))) rfl
  case done =>
  rintro L f2 w6 h hall
  have q51 : G f2 51 = .bool false := h.got 22 51 (hall 22 (by simp)) rfl
  replace HB := hide (bv (unhide HB) h.old)
  replace XA := hide ((unhide XA).keep h.old (unhide XA).low)
  replace XV := hide ((unhide XV).keep h.old (unhide XV).low)
  replace s3 := (h.keep (s := 3) (by decide)).trans s3
  replace s5 := (h.keep (s := 5) (by decide)).trans s5
  replace hsz := h.size
  replace hdf := h.defs
  clear h hall s4 s7 s8 XB X8 X9 XK8 XK9 K8 K9 KS2 KOR KNO
  obtain ⟨v0, v1, v2, v3, v4, v5, v6, v7, v8, v9, v10, v11, v12, v13, v14, v15, v16, v17, v18, v19, v20, v21, v22, v23, v24, v25, v26, v27, v28, v29, v30, v31, v32, v33, v34, v35, v36, v37, v38, v39, v40, v41, v42, v43, v44, v45, v46, v47, v48, v49, v50, v51, v52, v53, v54, v55, v56, v57, v58, v59, v60, v61, v62, v63, v64, v65, v66, v67, v68, v69, v70, v71, v72, v73, v74, v75, v76, v77, rfl, e3, e4, e5, e7, e8, e9, e10, e51⟩ := frame_tp hsz hdf
  rw [s3] at e3
  rw [s5] at e5
  clear e4 e7 e8
  rw [q51] at e51
  clear e9 e10
  subst e3 e5 e51
  clear s3 s5 q51 hsz hdf f1
  have a0 := (unhide XA).tell.1
  have la := (unhide XA).low
  go_upto_region 11 with fail
  clear a0 la
  refine frame_name ?_
  intro f0 hf0
  have s3 : G f0 3 = .pointer (some ⟨w.heap.size, 0, none⟩) := by rw [hf0]; rfl
  have s5 : G f0 5 = .pointer (some ⟨w.heap.size + 1 + 1, 0, none⟩) := by rw [hf0]; rfl
  have hsz : f0.tmps.size = 78 := by rw [hf0]; rfl
  have hdf : f0.defers = [] := by rw [hf0]
  clear hf0
  refine region_any (I := RT w6 f0 78 [55, 56, 57, 58, 59, 60, 9, 10] [.lit (.pointer (some ⟨w.heap.size, 1, none⟩)), .lit (.agg (vA ka ya ca xa sa la na ma)), .lit (.agg (tA 6 ka ya ca xa sa la na ma)), .lit (.pointer (some ⟨w.heap.size, 7, none⟩)), .lit (.agg (vA kb yb cb xb sb lb nb mb)), .lit (.agg (tA 4 kb yb cb xb sb lb nb mb)), .blk 0 (zT16) (tA 6 ka ya ca xa sa la na ma), .blk 1 (zT16) (tA 4 kb yb cb xb sb lb nb mb)]) (by kernel_rfl) ?wait ?step ?done ?start
  case wait => exact ⟨by simp <;> rfl, by simp <;> rfl, by simp <;> rfl, by simp <;> rfl, by simp <;> rfl, by simp <;> rfl, by simp <;> rfl, by simp <;> rfl, by simp <;> rfl, by simp <;> rfl, trivial⟩
  case start => exact RT.start hsz hdf ((Below.refl _ _).drew)
  case step =>
    refine ⟨?_, ?_, ?_, ?_, ?_, ?_, ?_, ?_, ?_, ?_, trivial⟩
    · rintro L fa wx h hcl hL hw2
      exact rt_val h (by decide) rfl rfl rfl (by decide) rfl (run_fldTA (eval_G ((h.keep (s := 3) (by decide)).trans s3))) rfl
    · rintro L fa wx h hcl hL hw2
      exact rt_val h (by decide) rfl rfl rfl (by decide) rfl (run_ldTA (eval_G (show G fa 55 = .pointer (some ⟨w.heap.size, 1, none⟩) from (h.got 0 55 (hw2 ⟨0, .data⟩ (by simp) rfl) rfl))) ((unhide XA).keep h.old (unhide XA).low)) rfl
    · rintro L fa wx h hcl hL hw2
      exact rt_val h (by decide) rfl rfl rfl (by decide) rfl (run_bldT (eval_G (show G fa 56 = .agg (vA ka ya ca xa sa la na ma) from (h.got 1 56 (hw2 ⟨1, .data⟩ (by simp) rfl) rfl)))) rfl
    · rintro L fa wx h hcl hL hw2
      exact rt_val h (by decide) rfl rfl rfl (by decide) rfl (run_fldTB (eval_G ((h.keep (s := 3) (by decide)).trans s3))) rfl
    · rintro L fa wx h hcl hL hw2
      exact rt_val h (by decide) rfl rfl rfl (by decide) rfl (run_ldTB (eval_G (show G fa 58 = .pointer (some ⟨w.heap.size, 7, none⟩) from (h.got 3 58 (hw2 ⟨3, .data⟩ (by simp) rfl) rfl))) ((unhide XA).keep h.old (unhide XA).low)) rfl
    · rintro L fa wx h hcl hL hw2
      exact rt_val h (by decide) rfl rfl rfl (by decide) rfl (run_bldT (eval_G (show G fa 59 = .agg (vA kb yb cb xb sb lb nb mb) from (h.got 4 59 (hw2 ⟨4, .data⟩ (by simp) rfl) rfl)))) rfl
    · rintro L fa wx h hcl hL hw2
      have ns : L 8 = false := by
        cases e : L 8 with
        | false => rfl
        | true =>
          have q := hcl 8 _ rfl e ⟨6, .data⟩ (by simp) rfl
          simp only [] at q
          rw [hL] at q
          cases q
      exact rt_new h (by decide) rfl rfl rfl (by decide) rfl run_newT rfl ns
    · rintro L fa wx h hcl hL hw2
      have ns : L 9 = false := by
        cases e : L 9 with
        | false => rfl
        | true =>
          have q := hcl 9 _ rfl e ⟨7, .data⟩ (by simp) rfl
          simp only [] at q
          rw [hL] at q
          cases q
      exact rt_new h (by decide) rfl rfl rfl (by decide) rfl run_newT rfl ns
    · rintro L fa wx h hcl hL hw2
      exact rt_store h 0 6 8 rfl rfl rfl rfl hL rfl rfl rfl (hw2 ⟨6, .data⟩ (by simp) rfl) (fun p e B => store_one e (show G fa 57 = .agg (tA 6 ka ya ca xa sa la na ma) from (h.got 2 57 (hw2 ⟨2, .data⟩ (by simp) rfl) rfl)) B)
    · rintro L fa wx h hcl hL hw2
      exact rt_store h 1 7 9 rfl rfl rfl rfl hL rfl rfl rfl (hw2 ⟨7, .data⟩ (by simp) rfl) (fun p e B => store_one e (show G fa 60 = .agg (tA 4 kb yb cb xb sb lb nb mb) from (h.got 5 60 (hw2 ⟨5, .data⟩ (by simp) rfl) rfl)) B)
  case done =>
  rintro L f1 w7 h hall
  obtain ⟨p, s9, lp, B9⟩ := h.block 6 0 rfl rfl (hall 6 (by simp)) (hall 8 (by simp))
  obtain ⟨q, s10, lq, B10⟩ := h.block 7 1 rfl rfl (hall 7 (by simp)) (hall 9 (by simp))
  have ne : p ≠ q := fun e => h.uniq 6 7 9 10 (hall 6 (by simp)) (hall 7 (by simp)) rfl rfl (by decide) rfl rfl (by rw [s9, s10, e])
  have H6 := hide h.old
  replace s3 := (h.keep (s := 3) (by decide)).trans s3
  replace s5 := (h.keep (s := 5) (by decide)).trans s5
  replace hsz := h.size
  replace hdf := h.defs
  clear h hall
  obtain ⟨v0, v1, v2, v3, v4, v5, v6, v7, v8, v9, v10, v11, v12, v13, v14, v15, v16, v17, v18, v19, v20, v21, v22, v23, v24, v25, v26, v27, v28, v29, v30, v31, v32, v33, v34, v35, v36, v37, v38, v39, v40, v41, v42, v43, v44, v45, v46, v47, v48, v49, v50, v51, v52, v53, v54, v55, v56, v57, v58, v59, v60, v61, v62, v63, v64, v65, v66, v67, v68, v69, v70, v71, v72, v73, v74, v75, v76, v77, rfl, e3, e4, e5, e7, e8, e9, e10, e51⟩ := frame_tp hsz hdf
  rw [s3] at e3
  rw [s5] at e5
  clear e4 e7 e8
  rw [s9] at e9
  rw [s10] at e10
  clear e51
  subst e3 e5 e9 e10
  clear s3 s5 s9 s10 hsz hdf f0
  have LP := hide lp
  have LQ := hide lq
  have C9 := hide B9
  have C10 := hide B10
  clear B9 B10 lp lq
  have a13 : w7.cell? ⟨w.heap.size, 13, none⟩ = some (.bool oa) := ((unhide XA).keep (unhide H6) (unhide XA).low).cell 13 _ rfl
  have la := ((unhide XA).keep (unhide H6) (unhide XA).low).low
  go_upto_if 62 with fail
  clear a13 la
  go_cut [62] from 63 to 63 (fun _ wx => Hid (BkA wx p (tA kl ka ya ca xa sa la na ma)) ∧ Hid (BkA wx q (tA 4 kb yb cb xb sb lb nb mb)) ∧ Hid (Below w6.heap.size w6 wx))
  case first =>
    cases oa
    · obtain rfl : kl = 6 := by simpa using unhide hl
      go_wp2_with fail
      go_meet
      case rel => exact ⟨C9, C10, H6⟩
    · obtain rfl : kl = 5 := by simpa using unhide hl
      have c0 := (unhide C9).cell 0 _ rfl
      have fr := (unhide C9).free 0
      have lo := (unhide C9).low
      have Z9 : Hid (BkA (w7.setCell ⟨p, 0, none⟩ (.int .i64 5)) p (tA 5 ka ya ca xa sa la na ma)) := hide (by
        have q := (unhide C9).set 0 (.int .i64 5) (by simp)
        simpa using q)
      have Z10 := hide ((unhide C10).aside (n := p) (j := 0) (x := .int .i64 5) (Ne.symm ne))
      have Z6 := hide ((unhide H6).trans ((But.set (p := p) (j := 0) (w := w7) (v := .int .i64 5)).below (unhide LP) (unhide H6).size))
      clear C9 C10 H6
      go_wp2_with fail
      go_meet
      case rel => exact ⟨Z9, Z10, Z6⟩
  case rest =>
  obtain ⟨C9, C10, H6⟩ := hcut
  generalize wc = w8 at *
  have a14 : w8.cell? ⟨w.heap.size, 14, none⟩ = some (.bool ob) := ((unhide XA).keep (unhide H6) (unhide XA).low).cell 14 _ rfl
  have la := ((unhide XA).keep (unhide H6) (unhide XA).low).low
  go_upto_if 65 with fail
  clear a14 la
  go_cut [65] from 66 to 66 (fun _ wx => Hid (BkA wx p (tA kl ka ya ca xa sa la na ma)) ∧ Hid (BkA wx q (tA kh kb yb cb xb sb lb nb mb)) ∧ Hid (Below w6.heap.size w6 wx))
  case first =>
    cases ob
    · obtain rfl : kh = 4 := by simpa using unhide hh
      go_wp2_with fail
      go_meet
      case rel => exact ⟨C9, C10, H6⟩
    · obtain rfl : kh = 3 := by simpa using unhide hh
      have c0 := (unhide C10).cell 0 _ rfl
      have fr := (unhide C10).free 0
      have lo := (unhide C10).low
      have Z10 : Hid (BkA (w8.setCell ⟨q, 0, none⟩ (.int .i64 3)) q (tA 3 kb yb cb xb sb lb nb mb)) := hide (by
        have q := (unhide C10).set 0 (.int .i64 3) (by simp)
        simpa using q)
      have Z9 := hide ((unhide C9).aside (n := q) (j := 0) (x := .int .i64 3) ne)
      have Z6 := hide ((unhide H6).trans ((But.set (p := q) (j := 0) (w := w8) (v := .int .i64 3)).below (unhide LQ) (unhide H6).size))
      clear C9 C10 H6
      go_wp2_with fail
      go_meet
      case rel => exact ⟨Z9, Z10, Z6⟩
  case rest =>
  obtain ⟨B9, B10, H9⟩ := hcut
  generalize wc = w9 at *
  clear C9 C10 H6 LP LQ ne hl hh
  replace HB := hide ((unhide HB).trans ((unhide H9).mono (unhide HB).size))
  replace XA := hide ((unhide XA).keep (unhide H9) (unhide XA).low)
  replace XV := hide ((unhide XV).keep (unhide H9) (unhide XV).low)
  clear H9
  go_upto_region 16 with fail
  refine frame_name ?_
  intro f0 hf0
  have s3 : G f0 3 = .pointer (some ⟨w.heap.size, 0, none⟩) := by rw [hf0]; rfl
  have s5 : G f0 5 = .pointer (some ⟨w.heap.size + 1 + 1, 0, none⟩) := by rw [hf0]; rfl
  have s9 : G f0 9 = .pointer (some ⟨p, 0, none⟩) := by rw [hf0]; rfl
  have s10 : G f0 10 = .pointer (some ⟨q, 0, none⟩) := by rw [hf0]; rfl
  have hsz : f0.tmps.size = 78 := by rw [hf0]; rfl
  have hdf : f0.defers = [] := by rw [hf0]
  clear hf0
  refine region_any (I := RL w9 f0 78 [67, 68, 69, 70, 71, 72, 73, 74, 75, 76, 77, 6] [.lit (.agg (tF 7 ka ya ca xa sa la na ma kb yb cb xb sb lb nb mb oa ob L1 N1 M1)), .lit (.agg (vA kv yv cv xv sv lv nv mv)), .lit (told g1), .lit (.agg (tA kl ka ya ca xa sa la na ma)), .lit (.agg (vA kv yv cv xv sv lv nv mv)), .lit (told gl), .lit (.agg (tA kh kb yb cb xb sb lb nb mb)), .lit (.agg (vA kv yv cv xv sv lv nv mv)), .lit (told gh), .lit (told g1), .lit (.bool true), .lit (.bool true)]) (by kernel_rfl) ?wait ?step ?done ?start
  case wait => exact ⟨by simp <;> rfl, by simp <;> rfl, by simp <;> rfl, by simp <;> rfl, by simp <;> rfl, by simp <;> rfl, by simp <;> rfl, by simp <;> rfl, by simp <;> rfl, by simp <;> rfl, by simp <;> rfl, by simp <;> rfl, trivial⟩
  case start => exact RI.start hsz hdf ((Below.refl _ _).drew)
  case step =>
    refine ⟨?_, ?_, ?_, ?_, ?_, ?_, ?_, ?_, ?_, ?_, ?_, ?_, trivial⟩
    · rintro L fa wx h hcl hL hw2
      exact rl_val h (by decide) rfl rfl rfl (by decide) rfl (run_ldT (eval_G ((h.keep (s := 3) (by decide)).trans s3)) ((unhide XA).keep h.old (unhide XA).low)) rfl
    · rintro L fa wx h hcl hL hw2
      exact rl_val h (by decide) rfl rfl rfl (by decide) rfl (run_ldX (eval_G ((h.keep (s := 5) (by decide)).trans s5)) ((unhide XV).keep h.old (unhide XV).low)) rfl
    · rintro L fa wx h hcl hL hw2
      exact rl_call (R := fun v _ => v = told g1) h (by decide) rfl rfl rfl (by decide) rfl (run_call2 (eval_G (show G fa 67 = .agg (tF 7 ka ya ca xa sa la na ma kb yb cb xb sb lb nb mb oa ob L1 N1 M1) from (h.got 0 67 (hw2 ⟨0, .data⟩ (by simp) rfl) rfl))) (eval_G (show G fa 68 = .agg (vA kv yv cv xv sv lv nv mv) from (h.got 1 68 (hw2 ⟨1, .data⟩ (by simp) rfl) rfl))) callO9) (unhide KS1 _ (bv (unhide HB) h.old)) (fun _ _ q => q)
    · rintro L fa wx h hcl hL hw2
      exact rl_val h (by decide) rfl rfl rfl (by decide) rfl (run_ldT (eval_G ((h.keep (s := 9) (by decide)).trans s9)) ((unhide B9).b16.keep h.old (unhide B9).b16.low)) rfl
    · rintro L fa wx h hcl hL hw2
      exact rl_val h (by decide) rfl rfl rfl (by decide) rfl (run_ldX (eval_G ((h.keep (s := 5) (by decide)).trans s5)) ((unhide XV).keep h.old (unhide XV).low)) rfl
    · rintro L fa wx h hcl hL hw2
      exact rl_call (R := fun v _ => v = told gl) h (by decide) rfl rfl rfl (by decide) rfl (run_call2 (eval_G (show G fa 70 = .agg (tA kl ka ya ca xa sa la na ma) from (h.got 3 70 (hw2 ⟨3, .data⟩ (by simp) rfl) rfl))) (eval_G (show G fa 71 = .agg (vA kv yv cv xv sv lv nv mv) from (h.got 4 71 (hw2 ⟨4, .data⟩ (by simp) rfl) rfl))) callO9) (unhide KLO _ (bv (unhide HB) h.old)) (fun _ _ q => q)
    · rintro L fa wx h hcl hL hw2
      exact rl_val h (by decide) rfl rfl rfl (by decide) rfl (run_ldT (eval_G ((h.keep (s := 10) (by decide)).trans s10)) ((unhide B10).b16.keep h.old (unhide B10).b16.low)) rfl
    · rintro L fa wx h hcl hL hw2
      exact rl_val h (by decide) rfl rfl rfl (by decide) rfl (run_ldX (eval_G ((h.keep (s := 5) (by decide)).trans s5)) ((unhide XV).keep h.old (unhide XV).low)) rfl
    · rintro L fa wx h hcl hL hw2
      exact rl_call (R := fun v _ => v = told gh) h (by decide) rfl rfl rfl (by decide) rfl (run_call2 (eval_G (show G fa 73 = .agg (tA kh kb yb cb xb sb lb nb mb) from (h.got 6 73 (hw2 ⟨6, .data⟩ (by simp) rfl) rfl))) (eval_G (show G fa 74 = .agg (vA kv yv cv xv sv lv nv mv) from (h.got 7 74 (hw2 ⟨7, .data⟩ (by simp) rfl) rfl))) callO9) (unhide KHI _ (bv (unhide HB) h.old)) (fun _ _ q => q)
    · rintro L fa wx h hcl hL hw2
      exact rl_call (R := fun v _ => v = told g1) h (by decide) rfl rfl rfl (by decide) rfl (run_call2 (eval_G (show G fa 72 = told gl from (h.got 5 72 (hw2 ⟨5, .data⟩ (by simp) rfl) rfl))) (eval_G (show G fa 75 = told gh from (h.got 8 75 (hw2 ⟨8, .data⟩ (by simp) rfl) rfl))) callO12) (unhide KAN _) (fun _ _ q => q)
    · rintro L fa wx h hcl hL hw2
      exact rl_call (R := fun v _ => v = .bool true) h (by decide) rfl rfl rfl (by decide) rfl (run_call2 (eval_G (show G fa 69 = told g1 from (h.got 2 69 (hw2 ⟨2, .data⟩ (by simp) rfl) rfl))) (eval_G (show G fa 76 = told g1 from (h.got 9 76 (hw2 ⟨9, .data⟩ (by simp) rfl) rfl))) callO8) (z1 (same_told g1 _)) (fun _ _ q => q)
    · rintro L fa wx h hcl hL hw2
      exact rl_val h (by decide) rfl rfl rfl (by decide) rfl (run_asg (eval_G (show G fa 77 = .bool true from (h.got 10 77 (hw2 ⟨10, .data⟩ (by simp) rfl) rfl)))) rfl
  case done =>
  rintro L f2 w10 h hall
  have q6 : G f2 6 = .bool true := h.got 11 6 (hall 11 (by simp)) rfl
  have HZ := bv (unhide HB) h.old
  have hdf2 := h.defs
  clear h
  go_wp2
  have e6 : f2.tmps[6]?.getD undef = .bool true := by simpa [G, Array.getD_eq_getD_getElem?] using q6
  exact bodyPost_ret (v := .bool true) (by simp [results, Tryz.results3, go_sem, e6]) hdf2 ⟨rfl, HZ⟩
end Go.Proofs.YtcidbhegnnedoaaGreatDoor
