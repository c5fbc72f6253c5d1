/- Walks: what a right test from one value to another one says of a right value, as the program tells. (Written by gen_s8.py.) -/
import Derived.Test.YtdkgapapdjefdaaGreatDoorG23
namespace Go.Proofs.YtdkgapapdjefdaaGreatDoor
open Go.RowKit

theorem callFrom (zs : Array Value) (w : World) : Sem.run Tryz.prog (callFunc 57 zs) w = .ok (.enter 57 zs) w := by simp [go_sem]
theorem callUpTo (zs : Array Value) (w : World) : Sem.run Tryz.prog (callFunc 58 zs) w = .ok (.enter 58 zs) w := by simp [go_sem]
theorem callDoes (zs : Array Value) (w : World) : Sem.run Tryz.prog (callFunc 27 zs) w = .ok (.enter 27 zs) w := by simp [go_sem]
theorem callAnd (zs : Array Value) (w : World) : Sem.run Tryz.prog (callFunc 56 zs) w = .ok (.enter 56 zs) w := by simp [go_sem]
theorem xr {n : Nat} {args : Array Value} {w : World} {v : Value} (h : Calls Tryz.prog n args w fun e w' => e = .returned v ∧ Below w.heap.size w w') : Calls Tryz.prog n args w fun e w' => ∃ u, e = .returned u ∧ u = v ∧ Below w.heap.size w w' :=
  h.mono fun _ _ q => ⟨v, q.1, rfl, q.2⟩

/-- a test that is made of a value alone -/
abbrev boundV (k ka : Int) (y : Bool) (c x : Int) (t : ByteArray) (l : Option Addr) (n m : Nat) : Array Value := #[.int .i64 k, .int .i64 ka, .bool y, .int .i64 c, .int .i64 x, .string t, .slice l n m, .int .i64 0, .bool false, .int .i64 0, .int .i64 0, .string ⟨#[]⟩, .slice none 0 0, .bool false, .bool false, .slice none 0 0]

set_option maxHeartbeats 2000000 in
theorem from_any (oa : Bool) (k ka : Int) (y : Bool) (c x : Int) (t : ByteArray) (l : Option Addr) (n m : Nat) (b0 b1 b2 b3 b4 b5 ob s : Value) (w : World) :
    Calls Tryz.prog 57 #[.agg #[.int .i64 k, .int .i64 ka, .bool y, .int .i64 c, .int .i64 x, .string t, .slice l n m, b0, b1, b2, b3, b4, b5, .bool oa, ob, s]] w fun e w' => e = .returned (.agg (boundV (if oa = true then 5 else 6) ka y c x t l n m)) ∧ Below w.heap.size w w' := by
  cases oa
  · go_enter Tryz.func57, Tryz.ntmps57
    go_wp2
    exact bodyPost_ret (v := .agg (boundV 6 ka y c x t l n m)) (by simp [results, Tryz.results57, go_sem]) rfl ⟨rfl, bv (vbelow_new _ _) (vbelow_new _ _)⟩
  · go_enter Tryz.func57, Tryz.ntmps57
    go_wp2
    exact bodyPost_ret (v := .agg (boundV 5 ka y c x t l n m)) (by simp [results, Tryz.results57, go_sem]) rfl ⟨rfl, bv (vbelow_new _ _) (vbelow_new _ _)⟩

set_option maxHeartbeats 2000000 in
theorem upTo_any (ob : Bool) (k ka : Int) (y : Bool) (c x : Int) (t : ByteArray) (l : Option Addr) (n m : Nat) (b0 b1 b2 b3 b4 b5 oa s : Value) (w : World) :
    Calls Tryz.prog 58 #[.agg #[.int .i64 k, b0, b1, b2, b3, b4, b5, .int .i64 ka, .bool y, .int .i64 c, .int .i64 x, .string t, .slice l n m, oa, .bool ob, s]] w fun e w' => e = .returned (.agg (boundV (if ob = true then 3 else 4) ka y c x t l n m)) ∧ Below w.heap.size w w' := by
  cases ob
  · go_enter Tryz.func58, Tryz.ntmps58
    go_wp2
    exact bodyPost_ret (v := .agg (boundV 4 ka y c x t l n m)) (by simp [results, Tryz.results58, go_sem]) rfl ⟨rfl, bv (vbelow_new _ _) (vbelow_new _ _)⟩
  · go_enter Tryz.func58, Tryz.ntmps58
    go_wp2
    exact bodyPost_ret (v := .agg (boundV 3 ka y c x t l n m)) (by simp [results, Tryz.results58, go_sem]) rfl ⟨rfl, bv (vbelow_new _ _) (vbelow_new _ _)⟩

set_option maxRecDepth 100000 in
theorem frame_in {a : Act} (hs : a.tmps.size = 64) (hd : a.defers = []) :
    ∃ v0 v1 v2 v3 v4 v5 v6 v7 v8 v9 v10 v11 v12 v13 v14 v15 v16 v17 v18 v19 v20 v21 v22 v23 v24 v25 v26 v27 v28 v29 v30 v31 v32 v33 v34 v35 v36 v37 v38 v39 v40 v41 v42 v43 v44 v45 v46 v47 v48 v49 v50 v51 v52 v53 v54 v55 v56 v57 v58 v59 v60 v61 v62 v63 : Value, a = { tmps := #[v0, v1, v2, v3, v4, v5, v6, v7, v8, v9, v10, v11, v12, v13, v14, v15, v16, v17, v18, v19, v20, v21, v22, v23, v24, v25, v26, v27, v28, v29, v30, v31, v32, v33, v34, v35, v36, v37, v38, v39, v40, v41, v42, v43, v44, v45, v46, v47, v48, v49, v50, v51, v52, v53, v54, v55, v56, v57, v58, v59, v60, v61, v62, v63], defers := [] } ∧ v4 = G a 4 := by
  have e : a = { tmps := #[G a 0, G a 1, G a 2, G a 3, G a 4, G a 5, G a 6, G a 7, G a 8, G a 9, G a 10, G a 11, G a 12, G a 13, G a 14, G a 15, G a 16, G a 17, G a 18, G a 19, G a 20, G a 21, G a 22, G a 23, G a 24, G a 25, G a 26, G a 27, G a 28, G a 29, G a 30, G a 31, G a 32, G a 33, G a 34, G a 35, G a 36, G a 37, G a 38, G a 39, G a 40, G a 41, G a 42, G a 43, G a 44, G a 45, G a 46, G a 47, G a 48, G a 49, G a 50, G a 51, G a 52, G a 53, G a 54, G a 55, G a 56, G a 57, G a 58, G a 59, G a 60, G a 61, G a 62, G a 63], defers := [] } := frame_is hs hd
  exact ⟨_, _, _, _, _, _, _, _, _, _, _, _, _, _, _, _, _, _, _, _, _, _, _, _, _, _, _, _, _, _, _, _, _, _, _, _, _, _, _, _, _, _, _, _, _, _, _, _, _, _, _, _, _, _, _, _, _, _, _, _, _, _, _, _, e, rfl⟩

set_option maxRecDepth 100000 in
set_option maxHeartbeats 8000000 in
theorem does_in_of (oa ob : Bool) (ka : Int) (y1 : Bool) (c1 x1 : Int) (t1 : ByteArray) (l1 : Option Addr) (n1 p1 : Nat) (kb : Int) (y2 : Bool) (c2 x2 : Int) (t2 : ByteArray) (l2 : Option Addr) (n2 p2 : Nat) (u0 u1 u2 u3 u4 u5 sl : Value) (m1 m2 : Nat) (w : World)
    (KF : Hid (∀ wx, Below w.heap.size w wx → Calls Tryz.prog 57 #[.agg #[.int .i64 7, .int .i64 ka, .bool y1, .int .i64 c1, .int .i64 x1, .string t1, .slice l1 n1 p1, .int .i64 kb, .bool y2, .int .i64 c2, .int .i64 x2, .string t2, .slice l2 n2 p2, .bool oa, .bool ob, sl]] wx fun e w' => ∃ r, e = .returned r ∧ r = .agg (boundV (if oa = true then 5 else 6) ka y1 c1 x1 t1 l1 n1 p1) ∧ Below wx.heap.size wx w'))
    (KU : Hid (∀ wx, Below w.heap.size w wx → Calls Tryz.prog 58 #[.agg #[.int .i64 7, .int .i64 ka, .bool y1, .int .i64 c1, .int .i64 x1, .string t1, .slice l1 n1 p1, .int .i64 kb, .bool y2, .int .i64 c2, .int .i64 x2, .string t2, .slice l2 n2 p2, .bool oa, .bool ob, sl]] wx fun e w' => ∃ r, e = .returned r ∧ r = .agg (boundV (if ob = true then 3 else 4) kb y2 c2 x2 t2 l2 n2 p2) ∧ Below wx.heap.size wx w'))
    (KD1 : Hid (∀ wx, Below w.heap.size w wx → Calls Tryz.prog 27 #[.agg (boundV (if oa = true then 5 else 6) ka y1 c1 x1 t1 l1 n1 p1), .agg #[u0, u1, u2, u3, u4, u5]] wx fun e w' => ∃ r, e = .returned r ∧ r = told m1 ∧ Below wx.heap.size wx w'))
    (KD2 : Hid (∀ wx, Below w.heap.size w wx → Calls Tryz.prog 27 #[.agg (boundV (if ob = true then 3 else 4) kb y2 c2 x2 t2 l2 n2 p2), .agg #[u0, u1, u2, u3, u4, u5]] wx fun e w' => ∃ r, e = .returned r ∧ r = told m2 ∧ Below wx.heap.size wx w'))
    (KA : Hid (∀ wx, Below w.heap.size w wx → Calls Tryz.prog 56 #[told m1, told m2] wx fun e w' => ∃ r, e = .returned r ∧ r = told (min m1 m2) ∧ Below wx.heap.size wx w')) :
    Calls Tryz.prog 27 #[.agg #[.int .i64 7, .int .i64 ka, .bool y1, .int .i64 c1, .int .i64 x1, .string t1, .slice l1 n1 p1, .int .i64 kb, .bool y2, .int .i64 c2, .int .i64 x2, .string t2, .slice l2 n2 p2, .bool oa, .bool ob, sl], .agg #[u0, u1, u2, u3, u4, u5]] w fun e w' => e = .returned (told (min m1 m2)) ∧ Below w.heap.size w w' := by
  obtain ⟨wB, hwB⟩ : ∃ wB, wB = ((w.alloc (.cells #[.int .i64 7, .int .i64 ka, .bool y1, .int .i64 c1, .int .i64 x1, .string t1, .slice l1 n1 p1, .int .i64 kb, .bool y2, .int .i64 c2, .int .i64 x2, .string t2, .slice l2 n2 p2, .bool oa, .bool ob, sl] 35)).alloc (.cells #[u0, u1, u2, u3, u4, u5] 27)).alloc (.cells #[.int .i64 0, .bool false, .int .i64 0, .int .i64 0, .string ⟨#[]⟩, .slice none 0 0] 27) := ⟨_, rfl⟩
  have NB : Hid (Below w.heap.size w wB) := hide (by rw [hwB]; exact below3 _ _ _ _)
  have XT : Hid (B16 wB w.heap.size #[.int .i64 7, .int .i64 ka, .bool y1, .int .i64 c1, .int .i64 x1, .string t1, .slice l1 n1 p1, .int .i64 kb, .bool y2, .int .i64 c2, .int .i64 x2, .string t2, .slice l2 n2 p2, .bool oa, .bool ob, sl]) := hide (by rw [hwB]; exact B16.new.over.over)
  have XV : Hid (Box wB (w.heap.size + 1) #[u0, u1, u2, u3, u4, u5]) := hide (by
    rw [hwB]
    have := (Box.new (w := w.alloc (.cells #[.int .i64 7, .int .i64 ka, .bool y1, .int .i64 c1, .int .i64 x1, .string t1, .slice l1 n1 p1, .int .i64 kb, .bool y2, .int .i64 c2, .int .i64 x2, .string t2, .slice l2 n2 p2, .bool oa, .bool ob, sl] 35)) (t := 27) (a0 := u0) (a1 := u1) (a2 := u2) (a3 := u3) (a4 := u4) (a5 := u5)).over (o := .cells #[.int .i64 0, .bool false, .int .i64 0, .int .i64 0, .string ⟨#[]⟩, .slice none 0 0] 27)
    simpa using this)
  have XR : Hid (Box wB (w.heap.size + 1 + 1) #[.int .i64 0, .bool false, .int .i64 0, .int .i64 0, .string ⟨#[]⟩, .slice none 0 0]) := hide (by
    rw [hwB]
    have := Box.new (w := (w.alloc (.cells #[.int .i64 7, .int .i64 ka, .bool y1, .int .i64 c1, .int .i64 x1, .string t1, .slice l1 n1 p1, .int .i64 kb, .bool y2, .int .i64 c2, .int .i64 x2, .string t2, .slice l2 n2 p2, .bool oa, .bool ob, sl] 35)).alloc (.cells #[u0, u1, u2, u3, u4, u5] 27)) (t := 27) (a0 := .int .i64 0) (a1 := .bool false) (a2 := .int .i64 0) (a3 := .int .i64 0) (a4 := .string ⟨#[]⟩) (a5 := .slice none 0 0)
    simpa using this)
  go_enter Tryz.func27, Tryz.ntmps27
  go_upto_region 13 with fail
  rw [← hwB]
  clear hwB
  refine frame_name ?_
  intro f0 hf0
  have s2 : G f0 2 = .pointer (some ⟨w.heap.size, 0, none⟩) := by rw [hf0]; rfl
  have s3 : G f0 3 = .pointer (some ⟨w.heap.size + 1, 0, none⟩) := by rw [hf0]; rfl
  have s4 : G f0 4 = .pointer (some ⟨w.heap.size + 1 + 1, 0, none⟩) := by rw [hf0]; rfl
  have hsz : f0.tmps.size = 64 := by rw [hf0]; rfl
  have hdf : f0.defers = [] := by rw [hf0]
  refine region_any (I := RS wB f0 64 [41, 42, 43, 44, 45, 46, 47, 48, 49] 9 (fun w' => Below w.heap.size w w' ∧ Box w' (w.heap.size + 1 + 1) #[.int .i64 (kd (min m1 m2)), .bool (yd (min m1 m2)), .int .i64 0, .int .i64 0, .string ⟨#[]⟩, .slice none 0 0]) [.lit (.agg #[.int .i64 7, .int .i64 ka, .bool y1, .int .i64 c1, .int .i64 x1, .string t1, .slice l1 n1 p1, .int .i64 kb, .bool y2, .int .i64 c2, .int .i64 x2, .string t2, .slice l2 n2 p2, .bool oa, .bool ob, sl]), .lit (.agg (boundV (if oa = true then 5 else 6) ka y1 c1 x1 t1 l1 n1 p1)), .lit (.agg #[u0, u1, u2, u3, u4, u5]), .lit (told m1), .lit (.agg #[.int .i64 7, .int .i64 ka, .bool y1, .int .i64 c1, .int .i64 x1, .string t1, .slice l1 n1 p1, .int .i64 kb, .bool y2, .int .i64 c2, .int .i64 x2, .string t2, .slice l2 n2 p2, .bool oa, .bool ob, sl]), .lit (.agg (boundV (if ob = true then 3 else 4) kb y2 c2 x2 t2 l2 n2 p2)), .lit (.agg #[u0, u1, u2, u3, u4, u5]), .lit (told m2), .lit (told (min m1 m2))]) (by kernel_rfl) ?wait ?step ?done ?start
  case wait => exact ⟨by simp, by simp, by simp, by simp, by simp, by simp, by simp, by simp, by simp, by simp, trivial⟩
  case start => exact RS.start hsz hdf ((Below.refl _ _).drew)
  case step =>
    refine ⟨?_, ?_, ?_, ?_, ?_, ?_, ?_, ?_, ?_, ?_, trivial⟩
    · rintro L fa wx h hcl hL hw2
      exact rs_val h (by decide) rfl rfl rfl (by decide) (by decide) rfl (run_ldT (eval_G ((h.keep (s := 2) (by decide)).trans s2)) ((unhide XT).keep (h.old (Bool.eq_false_iff.2 fun hq => by have hz := (hcl 1 _ rfl (hcl 3 _ rfl (hcl 8 _ rfl (hcl 9 _ rfl hq ⟨8, .data⟩ (by simp) rfl) ⟨3, .data⟩ (by simp) rfl) ⟨1, .data⟩ (by simp) rfl) ⟨0, .data⟩ (by simp) rfl); rw [hL] at hz; cases hz)) (unhide XT).low)) rfl
    · rintro L fa wx h hcl hL hw2
      exact rs_call (R := fun v _ => v = .agg (boundV (if oa = true then 5 else 6) ka y1 c1 x1 t1 l1 n1 p1)) h (by decide) rfl rfl rfl (by decide) (by decide) (Bool.eq_false_iff.2 fun hq => by have hz := (hcl 3 _ rfl (hcl 8 _ rfl (hcl 9 _ rfl hq ⟨8, .data⟩ (by simp) rfl) ⟨3, .data⟩ (by simp) rfl) ⟨1, .data⟩ (by simp) rfl); rw [hL] at hz; cases hz) rfl (run_call1 (eval_G (show G fa 41 = .agg #[.int .i64 7, .int .i64 ka, .bool y1, .int .i64 c1, .int .i64 x1, .string t1, .slice l1 n1 p1, .int .i64 kb, .bool y2, .int .i64 c2, .int .i64 x2, .string t2, .slice l2 n2 p2, .bool oa, .bool ob, sl] from oks_lit (h.got 0 41 (hw2 ⟨0, .data⟩ (by simp) rfl) rfl) rfl)) callFrom) (unhide KF _ (bv (unhide NB) (h.old (Bool.eq_false_iff.2 fun hq => by have hz := (hcl 3 _ rfl (hcl 8 _ rfl (hcl 9 _ rfl hq ⟨8, .data⟩ (by simp) rfl) ⟨3, .data⟩ (by simp) rfl) ⟨1, .data⟩ (by simp) rfl); rw [hL] at hz; cases hz)))) (fun _ _ q => q)
    · rintro L fa wx h hcl hL hw2
      exact rs_val h (by decide) rfl rfl rfl (by decide) (by decide) rfl (run_ldX (eval_G ((h.keep (s := 3) (by decide)).trans s3)) ((unhide XV).keep (h.old (Bool.eq_false_iff.2 fun hq => by have hz := (hcl 3 _ rfl (hcl 8 _ rfl (hcl 9 _ rfl hq ⟨8, .data⟩ (by simp) rfl) ⟨3, .data⟩ (by simp) rfl) ⟨2, .data⟩ (by simp) rfl); rw [hL] at hz; cases hz)) (unhide XV).low)) rfl
    · rintro L fa wx h hcl hL hw2
      exact rs_call (R := fun v _ => v = told m1) h (by decide) rfl rfl rfl (by decide) (by decide) (Bool.eq_false_iff.2 fun hq => by have hz := (hcl 8 _ rfl (hcl 9 _ rfl hq ⟨8, .data⟩ (by simp) rfl) ⟨3, .data⟩ (by simp) rfl); rw [hL] at hz; cases hz) rfl (run_call2 (eval_G (show G fa 42 = .agg (boundV (if oa = true then 5 else 6) ka y1 c1 x1 t1 l1 n1 p1) from oks_lit (h.got 1 42 (hw2 ⟨1, .data⟩ (by simp) rfl) rfl) rfl)) (eval_G (show G fa 43 = .agg #[u0, u1, u2, u3, u4, u5] from oks_lit (h.got 2 43 (hw2 ⟨2, .data⟩ (by simp) rfl) rfl) rfl)) callDoes) (unhide KD1 _ (bv (unhide NB) (h.old (Bool.eq_false_iff.2 fun hq => by have hz := (hcl 8 _ rfl (hcl 9 _ rfl hq ⟨8, .data⟩ (by simp) rfl) ⟨3, .data⟩ (by simp) rfl); rw [hL] at hz; cases hz)))) (fun _ _ q => q)
    · rintro L fa wx h hcl hL hw2
      exact rs_val h (by decide) rfl rfl rfl (by decide) (by decide) rfl (run_ldT (eval_G ((h.keep (s := 2) (by decide)).trans s2)) ((unhide XT).keep (h.old (Bool.eq_false_iff.2 fun hq => by have hz := (hcl 5 _ rfl (hcl 7 _ rfl (hcl 8 _ rfl (hcl 9 _ rfl hq ⟨8, .data⟩ (by simp) rfl) ⟨7, .data⟩ (by simp) rfl) ⟨5, .data⟩ (by simp) rfl) ⟨4, .data⟩ (by simp) rfl); rw [hL] at hz; cases hz)) (unhide XT).low)) rfl
    · rintro L fa wx h hcl hL hw2
      exact rs_call (R := fun v _ => v = .agg (boundV (if ob = true then 3 else 4) kb y2 c2 x2 t2 l2 n2 p2)) h (by decide) rfl rfl rfl (by decide) (by decide) (Bool.eq_false_iff.2 fun hq => by have hz := (hcl 7 _ rfl (hcl 8 _ rfl (hcl 9 _ rfl hq ⟨8, .data⟩ (by simp) rfl) ⟨7, .data⟩ (by simp) rfl) ⟨5, .data⟩ (by simp) rfl); rw [hL] at hz; cases hz) rfl (run_call1 (eval_G (show G fa 45 = .agg #[.int .i64 7, .int .i64 ka, .bool y1, .int .i64 c1, .int .i64 x1, .string t1, .slice l1 n1 p1, .int .i64 kb, .bool y2, .int .i64 c2, .int .i64 x2, .string t2, .slice l2 n2 p2, .bool oa, .bool ob, sl] from oks_lit (h.got 4 45 (hw2 ⟨4, .data⟩ (by simp) rfl) rfl) rfl)) callUpTo) (unhide KU _ (bv (unhide NB) (h.old (Bool.eq_false_iff.2 fun hq => by have hz := (hcl 7 _ rfl (hcl 8 _ rfl (hcl 9 _ rfl hq ⟨8, .data⟩ (by simp) rfl) ⟨7, .data⟩ (by simp) rfl) ⟨5, .data⟩ (by simp) rfl); rw [hL] at hz; cases hz)))) (fun _ _ q => q)
    · rintro L fa wx h hcl hL hw2
      exact rs_val h (by decide) rfl rfl rfl (by decide) (by decide) rfl (run_ldX (eval_G ((h.keep (s := 3) (by decide)).trans s3)) ((unhide XV).keep (h.old (Bool.eq_false_iff.2 fun hq => by have hz := (hcl 7 _ rfl (hcl 8 _ rfl (hcl 9 _ rfl hq ⟨8, .data⟩ (by simp) rfl) ⟨7, .data⟩ (by simp) rfl) ⟨6, .data⟩ (by simp) rfl); rw [hL] at hz; cases hz)) (unhide XV).low)) rfl
    · rintro L fa wx h hcl hL hw2
      exact rs_call (R := fun v _ => v = told m2) h (by decide) rfl rfl rfl (by decide) (by decide) (Bool.eq_false_iff.2 fun hq => by have hz := (hcl 8 _ rfl (hcl 9 _ rfl hq ⟨8, .data⟩ (by simp) rfl) ⟨7, .data⟩ (by simp) rfl); rw [hL] at hz; cases hz) rfl (run_call2 (eval_G (show G fa 46 = .agg (boundV (if ob = true then 3 else 4) kb y2 c2 x2 t2 l2 n2 p2) from oks_lit (h.got 5 46 (hw2 ⟨5, .data⟩ (by simp) rfl) rfl) rfl)) (eval_G (show G fa 47 = .agg #[u0, u1, u2, u3, u4, u5] from oks_lit (h.got 6 47 (hw2 ⟨6, .data⟩ (by simp) rfl) rfl) rfl)) callDoes) (unhide KD2 _ (bv (unhide NB) (h.old (Bool.eq_false_iff.2 fun hq => by have hz := (hcl 8 _ rfl (hcl 9 _ rfl hq ⟨8, .data⟩ (by simp) rfl) ⟨7, .data⟩ (by simp) rfl); rw [hL] at hz; cases hz)))) (fun _ _ q => q)
    · rintro L fa wx h hcl hL hw2
      exact rs_call (R := fun v _ => v = told (min m1 m2)) h (by decide) rfl rfl rfl (by decide) (by decide) (Bool.eq_false_iff.2 fun hq => by have hz := (hcl 9 _ rfl hq ⟨8, .data⟩ (by simp) rfl); rw [hL] at hz; cases hz) rfl (run_call2 (eval_G (show G fa 44 = told m1 from oks_lit (h.got 3 44 (hw2 ⟨3, .data⟩ (by simp) rfl) rfl) rfl)) (eval_G (show G fa 48 = told m2 from oks_lit (h.got 7 48 (hw2 ⟨7, .data⟩ (by simp) rfl) rfl) rfl)) callAnd) (unhide KA _ (bv (unhide NB) (h.old (Bool.eq_false_iff.2 fun hq => by have hz := (hcl 9 _ rfl hq ⟨8, .data⟩ (by simp) rfl); rw [hL] at hz; cases hz)))) (fun _ _ q => q)
    · rintro L fa wx h hcl hL hw2
      exact rs_store h rfl hL rfl ((h.keep (s := 4) (by decide)).trans s4) (show G fa 49 = told (min m1 m2) from oks_lit (h.got 8 49 (hw2 ⟨8, .data⟩ (by simp) rfl) rfl) rfl) ((unhide XR).keep (h.old hL) (unhide XR).low) ⟨below_put6 (bv (unhide NB) (h.old hL)) (by omega), ((unhide XR).keep (h.old hL) (unhide XR).low).put _ _ _ _ _ _⟩
  case done =>
    rintro L f1 w3 h hall
    obtain ⟨hb, R⟩ := h.fin (hall 9 (by simp))
    replace s4 := (h.keep (s := 4) (by decide)).trans s4
    replace hsz := h.size
    replace hdf := h.defs
    clear h hall hf0 KF KU KD1 KD2 KA XT XV XR NB s2 s3
    obtain ⟨v0, v1, v2, v3, v4, v5, v6, v7, v8, v9, v10, v11, v12, v13, v14, v15, v16, v17, v18, v19, v20, v21, v22, v23, v24, v25, v26, v27, v28, v29, v30, v31, v32, v33, v34, v35, v36, v37, v38, v39, v40, v41, v42, v43, v44, v45, v46, v47, v48, v49, v50, v51, v52, v53, v54, v55, v56, v57, v58, v59, v60, v61, v62, v63, rfl, q4⟩ := frame_in hsz hdf
    rw [s4] at q4
    subst q4
    clear s4 hsz hdf
    obtain ⟨c0, c1, c2, c3, c4, c5⟩ := R.tell
    go_wp2
    exact bodyPost_ret (v := told (min m1 m2)) (by simp [results, Tryz.results27, go_sem, c0, c1, c2, c3, c4, c5]) rfl ⟨rfl, hb⟩
end Go.Proofs.YtdkgapapdjefdaaGreatDoor

/- Walks: what any right test says of a right value, as the program tells. (Written by gen_s9.py.) -/
namespace Go.Proofs.YtdkgapapdjefdaaGreatDoor
open Go.RowKit

/-- what does tells of a right test and a right value -/
def DoesC (T : TS) : Prop := ∀ (v : Tree) (w : World) (q u : Array Value) (d : Nat), MemS w.heap.size w T q → Mem w.heap.size w v u → wrongS T d = 0 → (wrongF v 0 1).1 = 0 →
  Calls Tryz.prog 27 #[.agg q, .agg u] w fun e w' => e = .returned (told (doesS T v)) ∧ Below w.heap.size w w'

theorem callOr (zs : Array Value) (w : World) : Sem.run Tryz.prog (callFunc 93 zs) w = .ok (.enter 93 zs) w := by simp [go_sem]
abbrev toldA (m : Nat) : Array Value := #[.int .i64 (kd m), .bool (yd m), .int .i64 0, .int .i64 0, .string ⟨#[]⟩, .slice none 0 0]
theorem doesL_cons (u : TS) (us : List TS) (v : Tree) : doesL (u :: us) v = max (doesS u v) (doesL us v) := by rw [doesL]
theorem doesL_nil (v : Tree) : doesL [] v = 0 := by rw [doesL]

set_option maxRecDepth 100000 in
set_option maxHeartbeats 8000000 in
theorem doesOne_of (ks : List TS) (IH : ∀ u ∈ ks, DoesC u) (v : Tree) (w : World) (u : Array Value) (b off cap d : Nat) (hm : MemSL w.heap.size w ks b off) (hlt : b < w.heap.size) (hl : ks.length ≤ 20) (Mv : Mem w.heap.size w v u) (hr : ∀ q ∈ ks, wrongS q d = 0) (hv : (wrongF v 0 1).1 = 0) :
    Calls Tryz.prog 59 #[.slice (some ⟨b, off, none⟩) ks.length cap, .agg u] w fun e w' => e = .returned (told (doesL ks v)) ∧ Below w.heap.size w w' := by
  have KD : Hid (∀ T ∈ ks, ∀ q wx, Below w.heap.size w wx → MemS wx.heap.size wx T q → Calls Tryz.prog 27 #[.agg q, .agg u] wx fun e w' => e = .returned (told (doesS T v)) ∧ Below wx.heap.size wx w') :=
    hide fun T hT q wx hx hq => IH T hT v wx q u d hq (Mem.mono hx.size (Mem.below hx Mv)) (hr T hT) hv
  obtain ⟨u0, u1, u2, u3, u4, u5, rfl⟩ := Mv.arr
  have hm' := hide hm
  clear IH Mv hr hv hm
  go_enter Tryz.func59, Tryz.ntmps59
  go_wp2_with fail
  refine (ttruth_any false _).mono ?_
  rintro e w1 ⟨rfl, hb1⟩
  have XU := hide ((Box.new (w := w) (t := 27) (a0 := u0) (a1 := u1) (a2 := u2) (a3 := u3) (a4 := u4) (a5 := u5)).over.keep hb1 (by simp; omega))
  have XR : Hid (Box w1 (w.heap.size + 1) #[.int .i64 0, .bool false, .int .i64 0, .int .i64 0, .string ⟨#[]⟩, .slice none 0 0]) := hide (by
    have := (Box.new (w := w.alloc (.cells #[u0, u1, u2, u3, u4, u5] 27)) (t := 27) (a0 := .int .i64 0) (a1 := .bool false) (a2 := .int .i64 0) (a3 := .int .i64 0) (a4 := .string ⟨#[]⟩) (a5 := .slice none 0 0)).keep hb1 (by simp)
    simpa using this)
  have lw : w.heap.size + 2 ≤ w1.heap.size := by
    have := hb1.size
    simp at this
    omega
  have HB1 := hide (bv (bv (vbelow_new w _) (vbelow_new _ _)) hb1)
  clear hb1
  go_wp2
  go_loopw [11] (fun i wr => ∃ m n : Nat, m ≤ ks.length ∧ n ≤ 2 ∧ i = .int .i64 (m : Int) ∧ Hid (doesL ks v = max n (doesL (ks.drop m) v)) ∧ Hid (Below w.heap.size w wr) ∧ Hid (Box wr w1.heap.size (toldA n)) ∧ Hid (Box wr w.heap.size #[u0, u1, u2, u3, u4, u5]) ∧ Hid (Box wr (w.heap.size + 1) #[.int .i64 0, .bool false, .int .i64 0, .int .i64 0, .string ⟨#[]⟩, .slice none 0 0])) (fun i _ => ks.length - (intOf i).toNat)
  case atStart => exact ⟨0, 0, Nat.zero_le _, Nat.zero_le _, rfl, hide (by simp), hide (bv (unhide HB1) (vbelow_new _ _)), hide Box.new, hide (unhide XU).over, hide (unhide XR).over⟩
  case round =>
    obtain ⟨m, n, hml, hn2, rfl, H, HB, XO, YU, YR⟩ := hrel
    clear XU XR HB1
    by_cases hlt2 : m < ks.length
    · have hi1 : (m : Int) < (ks.length : Int) := by omega
      obtain ⟨T, hu⟩ : ∃ u, ks[m]? = some u := ⟨_, List.getElem?_eq_getElem hlt2⟩
      have hdrop := sdrop_at hlt2 hu
      have HU := hide (unhide KD T (List.mem_of_getElem? hu))
      obtain ⟨cs, h6, hmu⟩ := MemSL.at (MemSL.below (unhide HB) hlt (unhide hm')) m T hu
      have HM := hide hmu
      rw [hdrop, doesL_cons] at H
      have hmk := doesS_le T v
      cases T with
      | mk k' ta tb oa' ob' kk =>
        rw [MemS] at hmu
        obtain ⟨_, d0, d1, d2, d3, d4, d5, e0, e1, e2, e3, e4, e5, ad', cp, hta, htb, rfl, _⟩ := hmu
        obtain ⟨y1, r1, x1, t1, l1, n1, p1, rfl, rfl, rfl, rfl, rfl, rfl⟩ := hta.six
        obtain ⟨y2, r2, x2, t2, l2, n2, p2, rfl, rfl, rfl, rfl, rfl, rfl⟩ := htb.six
        clear hta htb
        obtain ⟨c0, c1, c2, c3, c4, c5, c6, c7, c8, c9, c10, c11, c12, c13, c14, c15⟩ := h6.tell
        clear hu hdrop h6
        have HK2 := hide (bv (unhide HB) (vbelow_new wr (.cells #[.int .i64 k', .int .i64 ta.kd, .bool y1, .int .i64 r1, .int .i64 x1, .string t1, .slice l1 n1 p1, .int .i64 tb.kd, .bool y2, .int .i64 r2, .int .i64 x2, .string t2, .slice l2 n2 p2, .bool oa', .bool ob', .slice ad' kk.length cp] 35)))
        have KM : Hid (∀ wx, Below (wr.alloc (.cells #[.int .i64 k', .int .i64 ta.kd, .bool y1, .int .i64 r1, .int .i64 x1, .string t1, .slice l1 n1 p1, .int .i64 tb.kd, .bool y2, .int .i64 r2, .int .i64 x2, .string t2, .slice l2 n2 p2, .bool oa', .bool ob', .slice ad' kk.length cp] 35)).heap.size (wr.alloc (.cells #[.int .i64 k', .int .i64 ta.kd, .bool y1, .int .i64 r1, .int .i64 x1, .string t1, .slice l1 n1 p1, .int .i64 tb.kd, .bool y2, .int .i64 r2, .int .i64 x2, .string t2, .slice l2 n2 p2, .bool oa', .bool ob', .slice ad' kk.length cp] 35)) wx → Calls Tryz.prog 27 #[.agg #[.int .i64 k', .int .i64 ta.kd, .bool y1, .int .i64 r1, .int .i64 x1, .string t1, .slice l1 n1 p1, .int .i64 tb.kd, .bool y2, .int .i64 r2, .int .i64 x2, .string t2, .slice l2 n2 p2, .bool oa', .bool ob', .slice ad' kk.length cp], .agg #[u0, u1, u2, u3, u4, u5]] wx fun e w' => ∃ r, e = .returned r ∧ r = told (doesS (.mk k' ta tb oa' ob' kk) v) ∧ Below wx.heap.size wx w') :=
          hide fun wx hx => xr (unhide HU _ wx (bv (unhide HK2) hx) (MemS.mono (bv (unhide HK2) hx).size (MemS.below ((bv (vbelow_new wr _) hx).mono (unhide HB).size) (unhide HM))))
        generalize doesS (.mk k' ta tb oa' ob' kk) v = mk at *
        have YO := hide ((unhide XO).over (o := .cells #[.int .i64 k', .int .i64 ta.kd, .bool y1, .int .i64 r1, .int .i64 x1, .string t1, .slice l1 n1 p1, .int .i64 tb.kd, .bool y2, .int .i64 r2, .int .i64 x2, .string t2, .slice l2 n2 p2, .bool oa', .bool ob', .slice ad' kk.length cp] 35))
        replace YU := hide ((unhide YU).over (o := .cells #[.int .i64 k', .int .i64 ta.kd, .bool y1, .int .i64 r1, .int .i64 x1, .string t1, .slice l1 n1 p1, .int .i64 tb.kd, .bool y2, .int .i64 r2, .int .i64 x2, .string t2, .slice l2 n2 p2, .bool oa', .bool ob', .slice ad' kk.length cp] 35))
        replace YR := hide ((unhide YR).over (o := .cells #[.int .i64 k', .int .i64 ta.kd, .bool y1, .int .i64 r1, .int .i64 x1, .string t1, .slice l1 n1 p1, .int .i64 tb.kd, .bool y2, .int .i64 r2, .int .i64 x2, .string t2, .slice l2 n2 p2, .bool oa', .bool ob', .slice ad' kk.length cp] 35))
        have YK := hide (B16.new (w := wr) (t := 35) (u := #[.int .i64 k', .int .i64 ta.kd, .bool y1, .int .i64 r1, .int .i64 x1, .string t1, .slice l1 n1 p1, .int .i64 tb.kd, .bool y2, .int .i64 r2, .int .i64 x2, .string t2, .slice l2 n2 p2, .bool oa', .bool ob', .slice ad' kk.length cp]))
        clear HU HM XO
        go_upto_region 5 with fail
        refine frame_name ?_
        intro f0 hf0
        have s3 : G f0 3 = .pointer (some ⟨w.heap.size, 0, none⟩) := by rw [hf0]; rfl
        have s5 : G f0 5 = .pointer (some ⟨w1.heap.size, 0, none⟩) := by rw [hf0]; rfl
        have s7 : G f0 7 = .pointer (some ⟨wr.heap.size, 0, none⟩) := by rw [hf0]; rfl
        have hsz : f0.tmps.size = 22 := by rw [hf0]; rfl
        have hdf : f0.defers = [] := by rw [hf0]
        refine region_any (I := RS (wr.alloc (.cells #[.int .i64 k', .int .i64 ta.kd, .bool y1, .int .i64 r1, .int .i64 x1, .string t1, .slice l1 n1 p1, .int .i64 tb.kd, .bool y2, .int .i64 r2, .int .i64 x2, .string t2, .slice l2 n2 p2, .bool oa', .bool ob', .slice ad' kk.length cp] 35)) f0 22 [15, 16, 17, 18, 19] 5 (fun w' => Below w.heap.size w w' ∧ Box w' w1.heap.size (toldA (max n mk)) ∧ Box w' w.heap.size #[u0, u1, u2, u3, u4, u5] ∧ Box w' (w.heap.size + 1) #[.int .i64 0, .bool false, .int .i64 0, .int .i64 0, .string ⟨#[]⟩, .slice none 0 0]) [.lit (told n), .lit (.agg #[.int .i64 k', .int .i64 ta.kd, .bool y1, .int .i64 r1, .int .i64 x1, .string t1, .slice l1 n1 p1, .int .i64 tb.kd, .bool y2, .int .i64 r2, .int .i64 x2, .string t2, .slice l2 n2 p2, .bool oa', .bool ob', .slice ad' kk.length cp]), .lit (.agg #[u0, u1, u2, u3, u4, u5]), .lit (told mk), .lit (told (max n mk))]) (by kernel_rfl) ?wait ?step ?done ?start
        case wait => exact ⟨by simp, by simp, by simp, by simp, by simp, by simp, trivial⟩
        case start => exact RS.start hsz hdf ((Below.refl _ _).drew)
        case step =>
          refine ⟨?_, ?_, ?_, ?_, ?_, ?_, trivial⟩
          · rintro L fa wx h hcl hL hw2
            exact rs_val h (by decide) rfl rfl rfl (by decide) (by decide) rfl (run_ldX (eval_G ((h.keep (s := 5) (by decide)).trans s5)) ((unhide YO).keep (h.old (Bool.eq_false_iff.2 fun hq => by have hz := (hcl 4 _ rfl (hcl 5 _ rfl hq ⟨4, .data⟩ (by simp) rfl) ⟨0, .data⟩ (by simp) rfl); rw [hL] at hz; cases hz)) (unhide YO).low)) rfl
          · rintro L fa wx h hcl hL hw2
            exact rs_val h (by decide) rfl rfl rfl (by decide) (by decide) rfl (run_ldT (eval_G ((h.keep (s := 7) (by decide)).trans s7)) ((unhide YK).keep (h.old (Bool.eq_false_iff.2 fun hq => by have hz := (hcl 3 _ rfl (hcl 4 _ rfl (hcl 5 _ rfl hq ⟨4, .data⟩ (by simp) rfl) ⟨3, .data⟩ (by simp) rfl) ⟨1, .data⟩ (by simp) rfl); rw [hL] at hz; cases hz)) (unhide YK).low)) rfl
          · rintro L fa wx h hcl hL hw2
            exact rs_val h (by decide) rfl rfl rfl (by decide) (by decide) rfl (run_ldX (eval_G ((h.keep (s := 3) (by decide)).trans s3)) ((unhide YU).keep (h.old (Bool.eq_false_iff.2 fun hq => by have hz := (hcl 3 _ rfl (hcl 4 _ rfl (hcl 5 _ rfl hq ⟨4, .data⟩ (by simp) rfl) ⟨3, .data⟩ (by simp) rfl) ⟨2, .data⟩ (by simp) rfl); rw [hL] at hz; cases hz)) (unhide YU).low)) rfl
          · rintro L fa wx h hcl hL hw2
            exact rs_call (R := fun v _ => v = told mk) h (by decide) rfl rfl rfl (by decide) (by decide) (Bool.eq_false_iff.2 fun hq => by have hz := (hcl 4 _ rfl (hcl 5 _ rfl hq ⟨4, .data⟩ (by simp) rfl) ⟨3, .data⟩ (by simp) rfl); rw [hL] at hz; cases hz) rfl (run_call2 (eval_G (show G fa 16 = .agg #[.int .i64 k', .int .i64 ta.kd, .bool y1, .int .i64 r1, .int .i64 x1, .string t1, .slice l1 n1 p1, .int .i64 tb.kd, .bool y2, .int .i64 r2, .int .i64 x2, .string t2, .slice l2 n2 p2, .bool oa', .bool ob', .slice ad' kk.length cp] from oks_lit (h.got 1 16 (hw2 ⟨1, .data⟩ (by simp) rfl) rfl) rfl)) (eval_G (show G fa 17 = .agg #[u0, u1, u2, u3, u4, u5] from oks_lit (h.got 2 17 (hw2 ⟨2, .data⟩ (by simp) rfl) rfl) rfl)) callDoes) (unhide KM _ (h.old (Bool.eq_false_iff.2 fun hq => by have hz := (hcl 4 _ rfl (hcl 5 _ rfl hq ⟨4, .data⟩ (by simp) rfl) ⟨3, .data⟩ (by simp) rfl); rw [hL] at hz; cases hz))) (fun _ _ q => q)
          · rintro L fa wx h hcl hL hw2
            exact rs_call (R := fun v _ => v = told (max n mk)) h (by decide) rfl rfl rfl (by decide) (by decide) (Bool.eq_false_iff.2 fun hq => by have hz := (hcl 5 _ rfl hq ⟨4, .data⟩ (by simp) rfl); rw [hL] at hz; cases hz) rfl (run_call2 (eval_G (show G fa 15 = told n from oks_lit (h.got 0 15 (hw2 ⟨0, .data⟩ (by simp) rfl) rfl) rfl)) (eval_G (show G fa 18 = told mk from oks_lit (h.got 3 18 (hw2 ⟨3, .data⟩ (by simp) rfl) rfl) rfl)) callOr) (xr (or_told n mk hn2 hmk _)) (fun _ _ q => q)
          · rintro L fa wx h hcl hL hw2
            exact rs_store h rfl hL rfl ((h.keep (s := 5) (by decide)).trans s5) (show G fa 19 = told (max n mk) from oks_lit (h.got 4 19 (hw2 ⟨4, .data⟩ (by simp) rfl) rfl) rfl) ((unhide YO).keep (h.old hL) (unhide YO).low) ⟨below_put6 (bv (unhide HK2) (h.old hL)) (by omega), ((unhide YO).keep (h.old hL) (unhide YO).low).put _ _ _ _ _ _, ((unhide YU).keep (h.old hL) (unhide YU).low).aside6 (by omega), ((unhide YR).keep (h.old hL) (unhide YR).low).aside6 (by omega)⟩
        case done =>
          rintro L f1 w3 h hall
          obtain ⟨hbF, XO3, XU3, XR3⟩ := h.fin (hall 5 (by simp))
          have HB3 := hide hbF
          have HO3 := hide XO3
          have HU3 := hide XU3
          have HR3 := hide XR3
          have e := puts_is [15, 16, 17, 18, 19] f0 (h.size.trans hsz.symm) (h.defs.trans hdf.symm) (by rw [hsz]; decide) (fun i hi => h.keep hi)
          rw [hf0] at e
          simp only [List.foldl_cons, List.foldl_nil] at e
          generalize G f1 15 = z15 at e
          generalize G f1 16 = z16 at e
          generalize G f1 17 = z17 at e
          generalize G f1 18 = z18 at e
          generalize G f1 19 = z19 at e
          have H2 : Hid (doesL ks v = max (max n mk) (doesL (ks.drop (m + 1)) v)) := hide (by rw [unhide H]; omega)
          clear h hall hsz hdf s3 s5 s7 hf0 f0 hbF XO3 XU3 XR3 KM YO YU YR YK HK2 H c0 c1 c2 c3 c4 c5 c6 c7 c8 c9 c10 c11 c12 c13 c14 c15
          subst e
          go_wp2
          go_round
          case rel => exact ⟨m + 1, max n mk, by omega, by omega, by go_num, H2, HB3, HO3, HU3, HR3⟩
          case measure => simp [intOf]; omega
    · obtain rfl : m = ks.length := by omega
      have H2 : Hid (doesL ks v = n) := by
        have h := unhide H
        rw [List.drop_length, doesL_nil, Nat.max_zero] at h
        exact hide h
      obtain ⟨o0, o1, o2, o3, o4, o5⟩ := (unhide XO).tell
      obtain ⟨g0, g1, g2, g3, g4, g5⟩ := (unhide YR).tell
      obtain ⟨f0, f1, f2, f3, f4, f5⟩ := (unhide YR).thaw
      have lb := (unhide YR).low
      clear H YU
      go_wp2
      rw [unhide H2]
      exact bodyPost_ret (v := told n) (by simp [results, Tryz.results59, go_sem, g0, g1, g2, g3, g4, g5]) rfl ⟨rfl, below_put6 (unhide HB) (by omega)⟩

set_option maxHeartbeats 4000000 in
theorem does_kids (k : Int) (hk : k = 8 ∨ k = 9) (n : Nat) (hn : n ≤ 2) (u0 u1 u2 u3 u4 u5 a0 a1 a2 a3 a4 a5 r7 r8 r9 r10 r11 r12 r13 r14 : Value) (ad : Option Addr) (len cap : Nat) (w : World)
    (KO : Hid (∀ wx, Below w.heap.size w wx → Calls Tryz.prog 59 #[.slice ad len cap, .agg #[u0, u1, u2, u3, u4, u5]] wx fun e w' => e = .returned (told n) ∧ Below wx.heap.size wx w')) :
    Calls Tryz.prog 27 #[.agg #[.int .i64 k, a0, a1, a2, a3, a4, a5, r7, r8, r9, r10, r11, r12, r13, r14, .slice ad len cap], .agg #[u0, u1, u2, u3, u4, u5]] w fun e w' => e = .returned (told (if k = 8 then n else 2 - n)) ∧ Below w.heap.size w w' := by
  rcases hk with rfl | rfl
  · rw [if_pos rfl]
    go_enter Tryz.func27, Tryz.ntmps27
    go_wp2_with fail
    refine (unhide KO _ (below3 _ _ _ _)).mono ?_
    rintro e w1 ⟨rfl, hb⟩
    obtain ⟨R, hw⟩ := box3g hb
    clear hb KO
    obtain ⟨c0, c1, c2, c3, c4, c5⟩ := R.tell
    obtain ⟨f0, f1, f2, f3, f4, f5⟩ := R.thaw
    have lb := R.low
    go_wp2
    exact bodyPost_ret (v := told n) (by simp [results, Tryz.results27, go_sem, c0, c1, c2, c3, c4, c5]) rfl ⟨rfl, below_put6 hw (by omega)⟩
  · rw [if_neg (by decide)]
    go_enter Tryz.func27, Tryz.ntmps27
    go_wp2_with fail
    refine (unhide KO _ (below3 _ _ _ _)).mono ?_
    rintro e w1 ⟨rfl, hb⟩
    have HB := hide hb
    clear hb KO
    go_wp2_with fail
    refine (not_told n hn _).mono ?_
    rintro e w2 ⟨rfl, hb⟩
    obtain ⟨R, hw⟩ := box3g ((unhide HB).trans (hb.mono (unhide HB).size))
    clear hb HB
    obtain ⟨c0, c1, c2, c3, c4, c5⟩ := R.tell
    obtain ⟨f0, f1, f2, f3, f4, f5⟩ := R.thaw
    have lb := R.low
    go_wp2
    exact bodyPost_ret (v := told (2 - n)) (by simp [results, Tryz.results27, go_sem, c0, c1, c2, c3, c4, c5]) rfl ⟨rfl, below_put6 hw (by omega)⟩

theorem boundV_mem {w : World} {a : Tree} {ka : Int} {y : Bool} {c x : Int} {t : ByteArray} {l : Option Addr} {n m : Nat} (k : Int) (hk : k = 3 ∨ k = 4 ∨ k = 5 ∨ k = 6) (v : Tree) (u : Array Value) (Ma : Mem w.heap.size w a #[.int .i64 ka, .bool y, .int .i64 c, .int .i64 x, .string t, .slice l n m]) (Mv : Mem w.heap.size w v u) (ha : (wrongF a 0 1).1 = 0) (hv : (wrongF v 0 1).1 = 0) (wx : World) (hx : Below w.heap.size w wx) :
    Calls Tryz.prog 27 #[.agg (boundV k ka y c x t l n m), .agg u] wx fun e w' => ∃ r, e = .returned r ∧ r = told (leafH k a v) ∧ Below wx.heap.size wx w' :=
  xr (does_leaf k hk a v _ _ _ _ _ _ _ _ _ _ _ _ _ _ _ u wx (Mem.mono hx.size (Mem.below hx Ma)) (Mem.mono hx.size (Mem.below hx Mv)) ha hv)

theorem does_of (k : Int) (a b : Tree) (oa ob : Bool) (ks : List TS) (IH : ∀ u ∈ ks, DoesC u) : DoesC (.mk k a b oa ob ks) := by
  intro v w q u d hM Mv hw hv
  rw [MemS] at hM
  obtain ⟨hkl, a0, a1, a2, a3, a4, a5, b0, b1, b2, b3, b4, b5, ad, cap, ha, hb, rfl, hks⟩ := hM
  have h4 : ¬ 4 < d := by
    intro h
    rw [ws_much h] at hw
    cases hw
  have hk : ¬ (k < 1 ∨ 9 < k) := by
    intro h
    rw [ws_kind h4 h] at hw
    cases hw
  rw [doesS]
  by_cases k1 : k = 1
  · subst k1
    rw [if_pos rfl]
    obtain ⟨u0, u1, u2, u3, u4, u5, rfl⟩ := Mv.arr
    exact does_any1 1 (by omega) _ _ _ _ _ _ _ _ _ _ _ _ _ _ _ _ _ _ _ _ _ w
  rw [if_neg k1]
  by_cases k2 : k = 2
  · subst k2
    rw [if_pos rfl]
    exact does_is a v _ _ _ _ _ _ _ _ _ _ _ _ _ _ _ u w ha Mv hv
  rw [if_neg k2]
  by_cases k36 : k = 3 ∨ k = 4 ∨ k = 5 ∨ k = 6
  · rw [ws_one h4 k36] at hw
    have C := does_leaf k k36 a v a0 a1 a2 a3 a4 a5 b0 b1 b2 b3 b4 b5 (.bool oa) (.bool ob) (.slice ad ks.length cap) u w ha Mv (valW0 (oneW0 hw)) hv
    rcases k36 with rfl | rfl | rfl | rfl
    · exact C
    · exact C
    · exact C
    · exact C
  rw [if_neg (by omega), if_neg (by omega), if_neg (by omega), if_neg (by omega)]
  by_cases k7 : k = 7
  · subst k7
    rw [if_pos rfl]
    rw [ws_in h4] at hw
    obtain ⟨va, vb⟩ := twoW0 hw
    obtain ⟨y1, c1, x1, t1, l1, n1, p1, rfl, rfl, rfl, rfl, rfl, rfl⟩ := ha.six
    obtain ⟨y2, c2, x2, t2, l2, n2, p2, rfl, rfl, rfl, rfl, rfl, rfl⟩ := hb.six
    have e1 : (if oa = true then lessH a v else 2 - lessH v a) = leafH (if oa = true then 5 else 6) a v := by cases oa <;> rfl
    have e2 : (if ob = true then lessH v b else 2 - lessH b v) = leafH (if ob = true then 3 else 4) b v := by cases ob <;> rfl
    rw [e1, e2]
    have D1 := boundV_mem (if oa = true then 5 else 6) (by cases oa <;> simp) v u ha Mv (valW0 va) hv
    have D2 := boundV_mem (if ob = true then 3 else 4) (by cases ob <;> simp) v u hb Mv (valW0 vb) hv
    obtain ⟨u0, u1, u2, u3, u4, u5, rfl⟩ := Mv.arr
    exact does_in_of oa ob _ y1 c1 x1 t1 l1 n1 p1 _ y2 c2 x2 t2 l2 n2 p2 u0 u1 u2 u3 u4 u5 _ _ _ w (hide fun wx _ => xr (from_any oa 7 _ y1 c1 x1 t1 l1 n1 p1 _ _ _ _ _ _ _ _ wx)) (hide fun wx _ => xr (upTo_any ob 7 _ y2 c2 x2 t2 l2 n2 p2 _ _ _ _ _ _ _ _ wx)) (hide D1) (hide D2) (hide fun wx _ => xr (and_told _ _ (leafH_le _ _ _) (leafH_le _ _ _) wx))
  rw [if_neg k7]
  have k89 : k = 8 ∨ k = 9 := by omega
  rw [ws_kids h4 k89] at hw
  by_cases hn : ks.length < 1 ∨ 20 < ks.length
  · rw [if_pos hn] at hw; cases hw
  rw [if_neg hn] at hw
  obtain ⟨bl, off, rfl, hlt, hm⟩ := hks (by intro e; rw [e] at hn; simp at hn)
  obtain ⟨u0, u1, u2, u3, u4, u5, rfl⟩ := Mv.arr
  exact does_kids k k89 (doesL ks v) (doesL_le ks v) u0 u1 u2 u3 u4 u5 _ _ _ _ _ _ _ _ _ _ _ _ _ _ _ _ _ w (hide fun wx hx =>
    doesOne_of ks IH v wx _ bl off cap (d + 1) (MemSL.mono hx.size (MemSL.below hx hlt hm)) (Nat.lt_of_lt_of_le hlt hx.size) (by omega) (Mem.mono hx.size (Mem.below hx Mv)) (wrongSL0 hw) hv)

mutual
theorem does_all : ∀ T : TS, DoesC T
  | .mk k a b oa ob ks => does_of k a b oa ob ks (fun u h => does_alls ks u h)
theorem does_alls : ∀ (ks : List TS) (u : TS), u ∈ ks → DoesC u
  | [], u, h => by cases h
  | v :: vs, u, h => by
    by_cases e : u = v
    · rw [e]; exact does_all v
    · exact does_alls vs u ((List.mem_cons.1 h).resolve_left e)
end
end Go.Proofs.YtdkgapapdjefdaaGreatDoor
