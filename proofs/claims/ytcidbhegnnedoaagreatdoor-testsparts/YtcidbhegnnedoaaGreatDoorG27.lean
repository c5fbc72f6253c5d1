/- TestsParts: one of some, and none of them. (Written by gen_wq.py.) -/
import Derived.Test.YtcidbhegnnedoaaGreatDoorG26
namespace Go.Proofs.YtcidbhegnnedoaaGreatDoor
open Go.RowKit

theorem callO10 (zs : Array Value) (w : World) : Sem.run Tryz.prog (callFunc 10 zs) w = .ok (.enter 10 zs) w := by simp [go_sem]
theorem callO12 (zs : Array Value) (w : World) : Sem.run Tryz.prog (callFunc 12 zs) w = .ok (.enter 12 zs) w := by simp [go_sem]

set_option maxRecDepth 100000 in
theorem frame_tp {a : Act} (hs : a.tmps.size = 78) (hd : a.defers = []) :
    ∃ f0 f1 f2 f3 f4 f5 f6 f7 f8 f9 f10 f11 f12 f13 f14 f15 f16 f17 f18 f19 f20 f21 f22 f23 f24 f25 f26 f27 f28 f29 f30 f31 f32 f33 f34 f35 f36 f37 f38 f39 f40 f41 f42 f43 f44 f45 f46 f47 f48 f49 f50 f51 f52 f53 f54 f55 f56 f57 f58 f59 f60 f61 f62 f63 f64 f65 f66 f67 f68 f69 f70 f71 f72 f73 f74 f75 f76 f77 : Value, a = { tmps := #[f0, f1, f2, f3, f4, f5, f6, f7, f8, f9, f10, f11, f12, f13, f14, f15, f16, f17, f18, f19, f20, f21, f22, f23, f24, f25, f26, f27, f28, f29, f30, f31, f32, f33, f34, f35, f36, f37, f38, f39, f40, f41, f42, f43, f44, f45, f46, f47, f48, f49, f50, f51, f52, f53, f54, f55, f56, f57, f58, f59, f60, f61, f62, f63, f64, f65, f66, f67, f68, f69, f70, f71, f72, f73, f74, f75, f76, f77], defers := [] } ∧ f3 = G a 3 ∧ f4 = G a 4 ∧ f5 = G a 5 ∧ f7 = G a 7 ∧ f8 = G a 8 ∧ f9 = G a 9 ∧ f10 = G a 10 ∧ f51 = G a 51 := by
  have e : a = { tmps := #[G a 0, G a 1, G a 2, G a 3, G a 4, G a 5, G a 6, G a 7, G a 8, G a 9, G a 10, G a 11, G a 12, G a 13, G a 14, G a 15, G a 16, G a 17, G a 18, G a 19, G a 20, G a 21, G a 22, G a 23, G a 24, G a 25, G a 26, G a 27, G a 28, G a 29, G a 30, G a 31, G a 32, G a 33, G a 34, G a 35, G a 36, G a 37, G a 38, G a 39, G a 40, G a 41, G a 42, G a 43, G a 44, G a 45, G a 46, G a 47, G a 48, G a 49, G a 50, G a 51, G a 52, G a 53, G a 54, G a 55, G a 56, G a 57, G a 58, G a 59, G a 60, G a 61, G a 62, G a 63, G a 64, G a 65, G a 66, G a 67, G a 68, G a 69, G a 70, G a 71, G a 72, G a 73, G a 74, G a 75, G a 76, G a 77], defers := [] } := frame_is hs hd
  exact ⟨_, _, _, _, _, _, _, _, _, _, _, _, _, _, _, _, _, _, _, _, _, _, _, _, _, _, _, _, _, _, _, _, _, _, _, _, _, _, _, _, _, _, _, _, _, _, _, _, _, _, _, _, _, _, _, _, _, _, _, _, _, _, _, _, _, _, _, _, _, _, _, _, _, _, _, _, _, _, e, rfl, rfl, rfl, rfl, rfl, rfl, rfl, rfl⟩

set_option maxRecDepth 100000 in
set_option maxHeartbeats 40000000 in
theorem parts_some (K1 : Int) (ka : Int) (ya : Bool) (ca xa : Int) (sa : ByteArray) (la : Option Addr) (na ma : Nat) (kb : Int) (yb : Bool) (cb xb : Int) (sb : ByteArray) (lb : Option Addr) (nb mb : Nat) (oa ob : Bool) (L1 : Option Addr) (N1 M1 : Nat) (K2 : Int) (kp : Int) (yp : Bool) (cp xp : Int) (sp : ByteArray) (lp : Option Addr) (np mp : Nat) (kq : Int) (yq : Bool) (cq xq : Int) (sq : ByteArray) (lq : Option Addr) (nq mq : Nat) (od oe : Bool) (L2 : Option Addr) (N2 M2 : Nat) (kv : Int) (yv : Bool) (cv xv : Int) (sv : ByteArray) (lv : Option Addr) (nv mv : Nat) (g8 g9 g1 g2 : Nat) (w : World)
    (KA : Hid (∀ wx, Below w.heap.size w wx → Calls Tryz.prog 5 #[] wx fun r w' => r = .returned (.bool true) ∧ Below wx.heap.size wx w'))
    (KW : Hid (∀ wx P, Below w.heap.size w wx → BkA wx P (t32 K1 ka ya ca xa sa la na ma kb yb cb xb sb lb nb mb oa ob L1 N1 M1 K2 kp yp cp xp sp lp np mp kq yq cq xq sq lq nq mq od oe L2 N2 M2) → Calls Tryz.prog 6 #[.agg (eA 8 P)] wx fun r w' => r = .returned (.int .i64 0) ∧ Below wx.heap.size wx w'))
    (KL : Hid (∀ wx, Below w.heap.size w wx → Calls Tryz.prog 7 #[.agg (vA kv yv cv xv sv lv nv mv)] wx fun r w' => r = .returned (.int .i64 0) ∧ Below wx.heap.size wx w'))
    (K8 : Hid (∀ wx P, Below w.heap.size w wx → BkA wx P (t32 K1 ka ya ca xa sa la na ma kb yb cb xb sb lb nb mb oa ob L1 N1 M1 K2 kp yp cp xp sp lp np mp kq yq cq xq sq lq nq mq od oe L2 N2 M2) → Calls Tryz.prog 9 #[.agg (eA 8 P), .agg (vA kv yv cv xv sv lv nv mv)] wx fun e w' => ∃ r, e = .returned r ∧ r = told g8 ∧ Below wx.heap.size wx w'))
    (K9 : Hid (∀ wx P, Below w.heap.size w wx → BkA wx P (t32 K1 ka ya ca xa sa la na ma kb yb cb xb sb lb nb mb oa ob L1 N1 M1 K2 kp yp cp xp sp lp np mp kq yq cq xq sq lq nq mq od oe L2 N2 M2) → Calls Tryz.prog 9 #[.agg (eA 9 P), .agg (vA kv yv cv xv sv lv nv mv)] wx fun e w' => ∃ r, e = .returned r ∧ r = told g9 ∧ Below wx.heap.size wx w'))
    (KS1 : Hid (∀ wx, Below w.heap.size w wx → Calls Tryz.prog 9 #[.agg (tF K1 ka ya ca xa sa la na ma kb yb cb xb sb lb nb mb oa ob L1 N1 M1), .agg (vA kv yv cv xv sv lv nv mv)] wx fun e w' => ∃ r, e = .returned r ∧ r = told g1 ∧ Below wx.heap.size wx w'))
    (KS2 : Hid (∀ wx, Below w.heap.size w wx → Calls Tryz.prog 9 #[.agg (tF K2 kp yp cp xp sp lp np mp kq yq cq xq sq lq nq mq od oe L2 N2 M2), .agg (vA kv yv cv xv sv lv nv mv)] wx fun e w' => ∃ r, e = .returned r ∧ r = told g2 ∧ Below wx.heap.size wx w'))
    (KOR : Hid (∀ wx, Calls Tryz.prog 10 #[told g1, told g2] wx fun e w' => ∃ r, e = .returned r ∧ r = told g8 ∧ Below wx.heap.size wx w'))
    (KNO : Hid (∀ wx, Calls Tryz.prog 11 #[told g8] wx fun e w' => ∃ r, e = .returned r ∧ r = told g9 ∧ Below wx.heap.size wx w'))
    (hk : (K1 != 7) = true) :
    Calls Tryz.prog 3 #[.agg (tF K1 ka ya ca xa sa la na ma kb yb cb xb sb lb nb mb oa ob L1 N1 M1), .agg (tF K2 kp yp cp xp sp lp np mp kq yq cq xq sq lq nq mq od oe L2 N2 M2), .agg (vA kv yv cv xv sv lv nv mv)] w fun e w' => e = .returned (.bool true) ∧ Below w.heap.size w w' := by
  go_enter Tryz.func3, Tryz.ntmps3
  go_wp2_with fail
  refine (unhide KA _ (below3 _ _ _ _)).mono ?_
  rintro r w1 ⟨rfl, hb⟩
  have XA : Hid (B16 w1 w.heap.size (tF K1 ka ya ca xa sa la na ma kb yb cb xb sb lb nb mb oa ob L1 N1 M1)) := hide ((B16.new (w := w) (t := 29) (u := (tF K1 ka ya ca xa sa la na ma kb yb cb xb sb lb nb mb oa ob L1 N1 M1))).over.over.keep hb (by simp; omega))
  have XB : Hid (B16 w1 (w.heap.size + 1) (tF K2 kp yp cp xp sp lp np mp kq yq cq xq sq lq nq mq od oe L2 N2 M2)) := hide (by
    have q := ((B16.new (w := w.alloc (.cells (tF K1 ka ya ca xa sa la na ma kb yb cb xb sb lb nb mb oa ob L1 N1 M1) 29)) (t := 29) (u := (tF K2 kp yp cp xp sp lp np mp kq yq cq xq sq lq nq mq od oe L2 N2 M2))).over (o := .cells (vA kv yv cv xv sv lv nv mv) 26)).keep hb (by simp)
    simpa using q)
  have XV : Hid (Box w1 (w.heap.size + 1 + 1) (vA kv yv cv xv sv lv nv mv)) := hide ((box3g hb).1)
  have HB := hide ((below3 w (.cells (tF K1 ka ya ca xa sa la na ma kb yb cb xb sb lb nb mb oa ob L1 N1 M1) 29) (.cells (tF K2 kp yp cp xp sp lp np mp kq yq cq xq sq lq nq mq od oe L2 N2 M2) 29) (.cells (vA kv yv cv xv sv lv nv mv) 26)).trans (hb.mono (by simp; omega)))
  clear hb KA
  go_upto_region 3 with fail
  refine frame_name ?_
  intro f0 hf0
  have s3 : G f0 3 = .pointer (some ⟨w.heap.size, 0, none⟩) := by rw [hf0]; rfl
  have s4 : G f0 4 = .pointer (some ⟨w.heap.size + 1, 0, none⟩) := by rw [hf0]; rfl
  have s5 : G f0 5 = .pointer (some ⟨w.heap.size + 1 + 1, 0, none⟩) := by rw [hf0]; rfl
  have hsz : f0.tmps.size = 78 := by rw [hf0]; rfl
  have hdf : f0.defers = [] := by rw [hf0]
  clear hf0
  refine wp_region ?_
  refine two_kids K1 ka ya ca xa sa la na ma kb yb cb xb sb lb nb mb oa ob L1 N1 M1 K2 kp yp cp xp sp lp np mp kq yq cq xq sq lq nq mq od oe L2 N2 M2 8 rfl rfl rfl rfl rfl rfl rfl s3 s4 (unhide XA) (unhide XB) hsz (by decide) (by decide) (by decide) (by decide) (by decide) (by decide) (by decide) (by decide) ?_
  intro f1 w2 kp s7 hsz1 hdf1 hb XK8 X8
  replace s3 := (kp 3 (by decide) (by decide) (by decide) (by decide) (by decide)).trans s3
  replace s4 := (kp 4 (by decide) (by decide) (by decide) (by decide) (by decide)).trans s4
  replace s5 := (kp 5 (by decide) (by decide) (by decide) (by decide) (by decide)).trans s5
  replace hdf := hdf1.trans hdf
  replace HB := hide (bv (unhide HB) hb)
  replace XA := hide ((unhide XA).keep hb (unhide XA).low)
  replace XB := hide ((unhide XB).keep hb (unhide XB).low)
  replace XV := hide ((unhide XV).keep hb (unhide XV).low)
  replace XK8 := hide XK8
  replace X8 := hide X8
  clear hb kp hsz hdf1
  obtain ⟨v0, v1, v2, v3, v4, v5, v6, v7, v8, v9, v10, v11, v12, v13, v14, v15, v16, v17, v18, v19, v20, v21, v22, v23, v24, v25, v26, v27, v28, v29, v30, v31, v32, v33, v34, v35, v36, v37, v38, v39, v40, v41, v42, v43, v44, v45, v46, v47, v48, v49, v50, v51, v52, v53, v54, v55, v56, v57, v58, v59, v60, v61, v62, v63, v64, v65, v66, v67, v68, v69, v70, v71, v72, v73, v74, v75, v76, v77, rfl, e3, e4, e5, e7, e8, e9, e10, e51⟩ := frame_tp hsz1 hdf
  rw [s3] at e3
  rw [s4] at e4
  rw [s5] at e5
  rw [s7] at e7
  clear e8 e9 e10 e51
  subst e3 e4 e5 e7
  clear s3 s4 s5 s7 hsz1 hdf f0
  obtain ⟨a0, a1, a2, a3, a4, a5, a6, a7, a8, a9, a10, a11, a12, a13, a14, a15⟩ := (unhide X8).tell
  have la := (unhide X8).low
  go_wp2_with fail
  refine (unhide KW _ _ (unhide HB) (unhide XK8)).mono ?_
  rintro r w3 ⟨rfl, hb⟩
  replace HB := hide (bv (unhide HB) hb)
  replace XA := hide ((unhide XA).keep hb (unhide XA).low)
  replace XB := hide ((unhide XB).keep hb (unhide XB).low)
  replace XV := hide ((unhide XV).keep hb (unhide XV).low)
  replace X8 := hide ((unhide X8).keep hb (unhide X8).low)
  replace XK8 := hide ((unhide XK8).keep hb (unhide XK8).low)
  clear hb KW la a0 a1 a2 a3 a4 a5 a6 a7 a8 a9 a10 a11 a12 a13 a14 a15
  obtain ⟨a0, a1, a2, a3, a4, a5⟩ := (unhide XV).tell
  have la := (unhide XV).low
  go_wp2_with fail
  refine (unhide KL _ (unhide HB)).mono ?_
  rintro r w4 ⟨rfl, hb⟩
  replace HB := hide (bv (unhide HB) hb)
  replace XA := hide ((unhide XA).keep hb (unhide XA).low)
  replace XB := hide ((unhide XB).keep hb (unhide XB).low)
  replace XV := hide ((unhide XV).keep hb (unhide XV).low)
  replace X8 := hide ((unhide X8).keep hb (unhide X8).low)
  replace XK8 := hide ((unhide XK8).keep hb (unhide XK8).low)
  clear hb KL la a0 a1 a2 a3 a4 a5
  go_upto_region 6 with fail
  refine frame_name ?_
  intro f0 hf0
  have s3 : G f0 3 = .pointer (some ⟨w.heap.size, 0, none⟩) := by rw [hf0]; rfl
  have s4 : G f0 4 = .pointer (some ⟨w.heap.size + 1, 0, none⟩) := by rw [hf0]; rfl
  have s5 : G f0 5 = .pointer (some ⟨w.heap.size + 1 + 1, 0, none⟩) := by rw [hf0]; rfl
  have s7 : G f0 7 = .pointer (some ⟨w1.heap.size + 1, 0, none⟩) := by rw [hf0]; rfl
  have hsz : f0.tmps.size = 78 := by rw [hf0]; rfl
  have hdf : f0.defers = [] := by rw [hf0]
  clear hf0
  refine wp_region ?_
  refine two_kids K1 ka ya ca xa sa la na ma kb yb cb xb sb lb nb mb oa ob L1 N1 M1 K2 kp yp cp xp sp lp np mp kq yq cq xq sq lq nq mq od oe L2 N2 M2 9 rfl rfl rfl rfl rfl rfl rfl s3 s4 (unhide XA) (unhide XB) hsz (by decide) (by decide) (by decide) (by decide) (by decide) (by decide) (by decide) (by decide) ?_
  intro f1 w5 kp s8 hsz1 hdf1 hb XK9 X9
  replace s3 := (kp 3 (by decide) (by decide) (by decide) (by decide) (by decide)).trans s3
  replace s4 := (kp 4 (by decide) (by decide) (by decide) (by decide) (by decide)).trans s4
  replace s5 := (kp 5 (by decide) (by decide) (by decide) (by decide) (by decide)).trans s5
  replace s7 := (kp 7 (by decide) (by decide) (by decide) (by decide) (by decide)).trans s7
  replace hdf := hdf1.trans hdf
  replace hsz := hsz1
  replace HB := hide (bv (unhide HB) hb)
  replace XA := hide ((unhide XA).keep hb (unhide XA).low)
  replace XB := hide ((unhide XB).keep hb (unhide XB).low)
  replace XV := hide ((unhide XV).keep hb (unhide XV).low)
  replace X8 := hide ((unhide X8).keep hb (unhide X8).low)
  replace XK8 := hide ((unhide XK8).keep hb (unhide XK8).low)
  replace XK9 := hide XK9
  replace X9 := hide X9
  clear hb kp hsz1 hdf1 f0
  go_upto_region 7 with fail
  refine region_any (I := RL w5 f1 78 [29, 30, 31, 32, 33, 34, 35, 36, 37, 38, 39, 40, 41, 42, 43, 44, 45, 46, 47, 48, 49, 50, 51] [.lit (.agg (eA 8 w1.heap.size)), .lit (.agg (vA kv yv cv xv sv lv nv mv)), .lit (told g8), .lit (.agg (tF K1 ka ya ca xa sa la na ma kb yb cb xb sb lb nb mb oa ob L1 N1 M1)), .lit (.agg (vA kv yv cv xv sv lv nv mv)), .lit (told g1), .lit (.agg (tF K2 kp yp cp xp sp lp np mp kq yq cq xq sq lq nq mq od oe L2 N2 M2)), .lit (.agg (vA kv yv cv xv sv lv nv mv)), .lit (told g2), .lit (told g8), .lit (.bool true), .lit (.bool false), .lit (.bool false), .lit (.agg (eA 9 w4.heap.size)), .lit (.agg (vA kv yv cv xv sv lv nv mv)), .lit (told g9), .lit (.agg (eA 8 w1.heap.size)), .lit (.agg (vA kv yv cv xv sv lv nv mv)), .lit (told g8), .lit (told g9), .lit (.bool true), .lit (.bool false), .lit (.bool false)]) (by kernel_rfl) ?wait ?step ?done ?start
  case wait => exact ⟨by simp <;> rfl, by simp <;> rfl, by simp <;> rfl, by simp <;> rfl, by simp <;> rfl, by simp <;> rfl, by simp <;> rfl, by simp <;> rfl, by simp <;> rfl, by simp <;> rfl, by simp <;> rfl, by simp <;> rfl, by simp <;> rfl, by simp <;> rfl, by simp <;> rfl, by simp <;> rfl, by simp <;> rfl, by simp <;> rfl, by simp <;> rfl, by simp <;> rfl, by simp <;> rfl, by simp <;> rfl, by simp <;> rfl, trivial⟩
  case start => exact RI.start hsz hdf ((Below.refl _ _).drew)
  case step =>
    refine ⟨?_, ?_, ?_, ?_, ?_, ?_, ?_, ?_, ?_, ?_, ?_, ?_, ?_, ?_, ?_, ?_, ?_, ?_, ?_, ?_, ?_, ?_, ?_, trivial⟩
    · rintro L fa wx h hcl hL hw2
      exact rl_val h (by decide) rfl rfl rfl (by decide) rfl (run_ldT (eval_G ((h.keep (s := 7) (by decide)).trans s7)) ((unhide X8).keep h.old (unhide X8).low)) rfl
    · rintro L fa wx h hcl hL hw2
      exact rl_val h (by decide) rfl rfl rfl (by decide) rfl (run_ldX (eval_G ((h.keep (s := 5) (by decide)).trans s5)) ((unhide XV).keep h.old (unhide XV).low)) rfl
    · rintro L fa wx h hcl hL hw2
      exact rl_call (R := fun v _ => v = told g8) h (by decide) rfl rfl rfl (by decide) rfl (run_call2 (eval_G (show G fa 29 = .agg (eA 8 w1.heap.size) from (h.got 0 29 (hw2 ⟨0, .data⟩ (by simp) rfl) rfl))) (eval_G (show G fa 30 = .agg (vA kv yv cv xv sv lv nv mv) from (h.got 1 30 (hw2 ⟨1, .data⟩ (by simp) rfl) rfl))) callO9) (unhide K8 _ _ (bv (unhide HB) h.old) ((unhide XK8).keep h.old (unhide XK8).low)) (fun _ _ q => q)
    · rintro L fa wx h hcl hL hw2
      exact rl_val h (by decide) rfl rfl rfl (by decide) rfl (run_ldT (eval_G ((h.keep (s := 3) (by decide)).trans s3)) ((unhide XA).keep h.old (unhide XA).low)) rfl
    · rintro L fa wx h hcl hL hw2
      exact rl_val h (by decide) rfl rfl rfl (by decide) rfl (run_ldX (eval_G ((h.keep (s := 5) (by decide)).trans s5)) ((unhide XV).keep h.old (unhide XV).low)) rfl
    · rintro L fa wx h hcl hL hw2
      exact rl_call (R := fun v _ => v = told g1) h (by decide) rfl rfl rfl (by decide) rfl (run_call2 (eval_G (show G fa 32 = .agg (tF K1 ka ya ca xa sa la na ma kb yb cb xb sb lb nb mb oa ob L1 N1 M1) from (h.got 3 32 (hw2 ⟨3, .data⟩ (by simp) rfl) rfl))) (eval_G (show G fa 33 = .agg (vA kv yv cv xv sv lv nv mv) from (h.got 4 33 (hw2 ⟨4, .data⟩ (by simp) rfl) rfl))) callO9) (unhide KS1 _ (bv (unhide HB) h.old)) (fun _ _ q => q)
    · rintro L fa wx h hcl hL hw2
      exact rl_val h (by decide) rfl rfl rfl (by decide) rfl (run_ldT (eval_G ((h.keep (s := 4) (by decide)).trans s4)) ((unhide XB).keep h.old (unhide XB).low)) rfl
    · rintro L fa wx h hcl hL hw2
      exact rl_val h (by decide) rfl rfl rfl (by decide) rfl (run_ldX (eval_G ((h.keep (s := 5) (by decide)).trans s5)) ((unhide XV).keep h.old (unhide XV).low)) rfl
    · rintro L fa wx h hcl hL hw2
      exact rl_call (R := fun v _ => v = told g2) h (by decide) rfl rfl rfl (by decide) rfl (run_call2 (eval_G (show G fa 35 = .agg (tF K2 kp yp cp xp sp lp np mp kq yq cq xq sq lq nq mq od oe L2 N2 M2) from (h.got 6 35 (hw2 ⟨6, .data⟩ (by simp) rfl) rfl))) (eval_G (show G fa 36 = .agg (vA kv yv cv xv sv lv nv mv) from (h.got 7 36 (hw2 ⟨7, .data⟩ (by simp) rfl) rfl))) callO9) (unhide KS2 _ (bv (unhide HB) h.old)) (fun _ _ q => q)
    · rintro L fa wx h hcl hL hw2
      exact rl_call (R := fun v _ => v = told g8) h (by decide) rfl rfl rfl (by decide) rfl (run_call2 (eval_G (show G fa 34 = told g1 from (h.got 5 34 (hw2 ⟨5, .data⟩ (by simp) rfl) rfl))) (eval_G (show G fa 37 = told g2 from (h.got 8 37 (hw2 ⟨8, .data⟩ (by simp) rfl) rfl))) callO10) (unhide KOR _) (fun _ _ q => q)
    · rintro L fa wx h hcl hL hw2
      exact rl_call (R := fun v _ => v = .bool true) h (by decide) rfl rfl rfl (by decide) rfl (run_call2 (eval_G (show G fa 31 = told g8 from (h.got 2 31 (hw2 ⟨2, .data⟩ (by simp) rfl) rfl))) (eval_G (show G fa 38 = told g8 from (h.got 9 38 (hw2 ⟨9, .data⟩ (by simp) rfl) rfl))) callO8) (z1 (same_told g8 _)) (fun _ _ q => q)
    · rintro L fa wx h hcl hL hw2
      exact rl_val h (by decide) rfl rfl rfl (by decide) rfl (run_not (eval_G (show G fa 39 = .bool true from (h.got 10 39 (hw2 ⟨10, .data⟩ (by simp) rfl) rfl)))) rfl
    · rintro L fa wx h hcl hL hw2
      exact rl_val h (by decide) rfl rfl rfl (by decide) rfl (run_mv (eval_G (show G fa 40 = .bool false from (h.got 11 40 (hw2 ⟨11, .data⟩ (by simp) rfl) rfl)))) rfl
    · rintro L fa wx h hcl hL hw2
      exact rl_val h (by decide) rfl rfl rfl (by decide) ((wanted_is (j := 12) (dj := 41) (b := false) (c := false) rfl rfl (by rw [h.size]; decide) (show G fa 41 = .bool false from (h.got 12 41 (hw2 ⟨12, .guard⟩ (by simp) rfl) rfl))).trans rfl) (run_ldT (eval_G ((h.keep (s := 8) (by decide)).trans s8)) ((unhide X9).keep h.old (unhide X9).low)) rfl
    · rintro L fa wx h hcl hL hw2
      exact rl_val h (by decide) rfl rfl rfl (by decide) ((wanted_is (j := 12) (dj := 41) (b := false) (c := false) rfl rfl (by rw [h.size]; decide) (show G fa 41 = .bool false from (h.got 12 41 (hw2 ⟨12, .guard⟩ (by simp) rfl) rfl))).trans rfl) (run_ldX (eval_G ((h.keep (s := 5) (by decide)).trans s5)) ((unhide XV).keep h.old (unhide XV).low)) rfl
    · rintro L fa wx h hcl hL hw2
      exact rl_call (R := fun v _ => v = told g9) h (by decide) rfl rfl rfl (by decide) ((wanted_is (j := 12) (dj := 41) (b := false) (c := false) rfl rfl (by rw [h.size]; decide) (show G fa 41 = .bool false from (h.got 12 41 (hw2 ⟨12, .guard⟩ (by simp) rfl) rfl))).trans rfl) (run_call2 (eval_G (show G fa 42 = .agg (eA 9 w4.heap.size) from (h.got 13 42 (hw2 ⟨13, .data⟩ (by simp) rfl) rfl))) (eval_G (show G fa 43 = .agg (vA kv yv cv xv sv lv nv mv) from (h.got 14 43 (hw2 ⟨14, .data⟩ (by simp) rfl) rfl))) callO9) (unhide K9 _ _ (bv (unhide HB) h.old) ((unhide XK9).keep h.old (unhide XK9).low)) (fun _ _ q => q)
    · rintro L fa wx h hcl hL hw2
      exact rl_val h (by decide) rfl rfl rfl (by decide) ((wanted_is (j := 12) (dj := 41) (b := false) (c := false) rfl rfl (by rw [h.size]; decide) (show G fa 41 = .bool false from (h.got 12 41 (hw2 ⟨12, .guard⟩ (by simp) rfl) rfl))).trans rfl) (run_ldT (eval_G ((h.keep (s := 7) (by decide)).trans s7)) ((unhide X8).keep h.old (unhide X8).low)) rfl
    · rintro L fa wx h hcl hL hw2
      exact rl_val h (by decide) rfl rfl rfl (by decide) ((wanted_is (j := 12) (dj := 41) (b := false) (c := false) rfl rfl (by rw [h.size]; decide) (show G fa 41 = .bool false from (h.got 12 41 (hw2 ⟨12, .guard⟩ (by simp) rfl) rfl))).trans rfl) (run_ldX (eval_G ((h.keep (s := 5) (by decide)).trans s5)) ((unhide XV).keep h.old (unhide XV).low)) rfl
    · rintro L fa wx h hcl hL hw2
      exact rl_call (R := fun v _ => v = told g8) h (by decide) rfl rfl rfl (by decide) ((wanted_is (j := 12) (dj := 41) (b := false) (c := false) rfl rfl (by rw [h.size]; decide) (show G fa 41 = .bool false from (h.got 12 41 (hw2 ⟨12, .guard⟩ (by simp) rfl) rfl))).trans rfl) (run_call2 (eval_G (show G fa 45 = .agg (eA 8 w1.heap.size) from (h.got 16 45 (hw2 ⟨16, .data⟩ (by simp) rfl) rfl))) (eval_G (show G fa 46 = .agg (vA kv yv cv xv sv lv nv mv) from (h.got 17 46 (hw2 ⟨17, .data⟩ (by simp) rfl) rfl))) callO9) (unhide K8 _ _ (bv (unhide HB) h.old) ((unhide XK8).keep h.old (unhide XK8).low)) (fun _ _ q => q)
    · rintro L fa wx h hcl hL hw2
      exact rl_call (R := fun v _ => v = told g9) h (by decide) rfl rfl rfl (by decide) ((wanted_is (j := 12) (dj := 41) (b := false) (c := false) rfl rfl (by rw [h.size]; decide) (show G fa 41 = .bool false from (h.got 12 41 (hw2 ⟨12, .guard⟩ (by simp) rfl) rfl))).trans rfl) (run_call1 (eval_G (show G fa 47 = told g8 from (h.got 18 47 (hw2 ⟨18, .data⟩ (by simp) rfl) rfl))) callO11) (unhide KNO _) (fun _ _ q => q)
    · rintro L fa wx h hcl hL hw2
      exact rl_call (R := fun v _ => v = .bool true) h (by decide) rfl rfl rfl (by decide) ((wanted_is (j := 12) (dj := 41) (b := false) (c := false) rfl rfl (by rw [h.size]; decide) (show G fa 41 = .bool false from (h.got 12 41 (hw2 ⟨12, .guard⟩ (by simp) rfl) rfl))).trans rfl) (run_call2 (eval_G (show G fa 44 = told g9 from (h.got 15 44 (hw2 ⟨15, .data⟩ (by simp) rfl) rfl))) (eval_G (show G fa 48 = told g9 from (h.got 19 48 (hw2 ⟨19, .data⟩ (by simp) rfl) rfl))) callO8) (z1 (same_told g9 _)) (fun _ _ q => q)
    · rintro L fa wx h hcl hL hw2
      exact rl_val h (by decide) rfl rfl rfl (by decide) ((wanted_is (j := 12) (dj := 41) (b := false) (c := false) rfl rfl (by rw [h.size]; decide) (show G fa 41 = .bool false from (h.got 12 41 (hw2 ⟨12, .guard⟩ (by simp) rfl) rfl))).trans rfl) (run_not (eval_G (show G fa 49 = .bool true from (h.got 20 49 (hw2 ⟨20, .data⟩ (by simp) rfl) rfl)))) rfl
    · rintro L fa wx h hcl hL hw2
      exact rl_val h (by decide) rfl rfl rfl (by decide) rfl (run_pickF (eval_G (show G fa 41 = .bool false from (h.got 12 41 (hw2 ⟨12, .data⟩ (by simp) rfl) rfl))) (eval_G (show G fa 50 = .bool false from (h.got 21 50 (hw2 ⟨21, .data⟩ (by simp) rfl) rfl)))) rfl
  case done =>
  rintro L f2 w6 h hall
  have q51 : G f2 51 = .bool false := h.got 22 51 (hall 22 (by simp)) rfl
  replace HB := hide (bv (unhide HB) h.old)
  replace XA := hide ((unhide XA).keep h.old (unhide XA).low)
  replace XV := hide ((unhide XV).keep h.old (unhide XV).low)
  replace s3 := (h.keep (s := 3) (by decide)).trans s3
  replace s5 := (h.keep (s := 5) (by decide)).trans s5
  replace hsz := h.size
  replace hdf := h.defs
  clear h hall s4 s7 s8 XB X8 X9 XK8 XK9 K8 K9 KS2 KOR KNO
  clear KS1 XV
  obtain ⟨v0, v1, v2, v3, v4, v5, v6, v7, v8, v9, v10, v11, v12, v13, v14, v15, v16, v17, v18, v19, v20, v21, v22, v23, v24, v25, v26, v27, v28, v29, v30, v31, v32, v33, v34, v35, v36, v37, v38, v39, v40, v41, v42, v43, v44, v45, v46, v47, v48, v49, v50, v51, v52, v53, v54, v55, v56, v57, v58, v59, v60, v61, v62, v63, v64, v65, v66, v67, v68, v69, v70, v71, v72, v73, v74, v75, v76, v77, rfl, e3, e4, e5, e7, e8, e9, e10, e51⟩ := frame_tp hsz hdf
  rw [s3] at e3
  rw [q51] at e51
  clear e4 e5 e7 e8 e9 e10 s5
  subst e3 e51
  clear s3 q51 hsz hdf f1
  have a0 := (unhide XA).tell.1
  have la := (unhide XA).low
  go_wp2
  go_ret
  exact ⟨rfl, unhide HB⟩
end Go.Proofs.YtcidbhegnnedoaaGreatDoor
