/- Walks: what a right test from one value to another one says of a right value, as the program tells. (Written by gen_s8.py.) -/
import Derived.Test.YtbdgngfpofohpaaDoorG28
namespace Go.Proofs.YtbdgngfpofohpaaDoor
open Go.RowKit

theorem callFrom (zs : Array Value) (w : World) : Sem.run Tryd.prog (callFunc 31 zs) w = .ok (.enter 31 zs) w := by simp [go_sem]
theorem callUpTo (zs : Array Value) (w : World) : Sem.run Tryd.prog (callFunc 32 zs) w = .ok (.enter 32 zs) w := by simp [go_sem]
theorem callDoes (zs : Array Value) (w : World) : Sem.run Tryd.prog (callFunc 16 zs) w = .ok (.enter 16 zs) w := by simp [go_sem]
theorem callAnd (zs : Array Value) (w : World) : Sem.run Tryd.prog (callFunc 30 zs) w = .ok (.enter 30 zs) w := by simp [go_sem]
theorem xr {n : Nat} {args : Array Value} {w : World} {v : Value} (h : Calls Tryd.prog n args w fun e w' => e = .returned v ∧ Below w.heap.size w w') : Calls Tryd.prog n args w fun e w' => ∃ u, e = .returned u ∧ u = v ∧ Below w.heap.size w w' :=
  h.mono fun _ _ q => ⟨v, q.1, rfl, q.2⟩

/-- a test that is made of a value alone -/
abbrev boundV (k ka : Int) (y : Bool) (c x : Int) (t : ByteArray) (l : Option Addr) (n m : Nat) : Array Value := #[.int .i64 k, .int .i64 ka, .bool y, .int .i64 c, .int .i64 x, .string t, .slice l n m, .int .i64 0, .bool false, .int .i64 0, .int .i64 0, .string ⟨#[]⟩, .slice none 0 0, .bool false, .bool false, .slice none 0 0]

set_option maxHeartbeats 2000000 in
theorem from_any (oa : Bool) (k ka : Int) (y : Bool) (c x : Int) (t : ByteArray) (l : Option Addr) (n m : Nat) (b0 b1 b2 b3 b4 b5 ob s : Value) (w : World) :
    Calls Tryd.prog 31 #[.agg #[.int .i64 k, .int .i64 ka, .bool y, .int .i64 c, .int .i64 x, .string t, .slice l n m, b0, b1, b2, b3, b4, b5, .bool oa, ob, s]] w fun e w' => e = .returned (.agg (boundV (if oa = true then 5 else 6) ka y c x t l n m)) ∧ Below w.heap.size w w' := by
  cases oa
  · go_enter Tryd.func31, Tryd.ntmps31
    go_wp2
    exact bodyPost_ret (v := .agg (boundV 6 ka y c x t l n m)) (by simp [results, Tryd.results31, go_sem]) rfl ⟨rfl, bv (vbelow_new _ _) (vbelow_new _ _)⟩
  · go_enter Tryd.func31, Tryd.ntmps31
    go_wp2
    exact bodyPost_ret (v := .agg (boundV 5 ka y c x t l n m)) (by simp [results, Tryd.results31, go_sem]) rfl ⟨rfl, bv (vbelow_new _ _) (vbelow_new _ _)⟩

set_option maxHeartbeats 2000000 in
theorem upTo_any (ob : Bool) (k ka : Int) (y : Bool) (c x : Int) (t : ByteArray) (l : Option Addr) (n m : Nat) (b0 b1 b2 b3 b4 b5 oa s : Value) (w : World) :
    Calls Tryd.prog 32 #[.agg #[.int .i64 k, b0, b1, b2, b3, b4, b5, .int .i64 ka, .bool y, .int .i64 c, .int .i64 x, .string t, .slice l n m, oa, .bool ob, s]] w fun e w' => e = .returned (.agg (boundV (if ob = true then 3 else 4) ka y c x t l n m)) ∧ Below w.heap.size w w' := by
  cases ob
  · go_enter Tryd.func32, Tryd.ntmps32
    go_wp2
    exact bodyPost_ret (v := .agg (boundV 4 ka y c x t l n m)) (by simp [results, Tryd.results32, go_sem]) rfl ⟨rfl, bv (vbelow_new _ _) (vbelow_new _ _)⟩
  · go_enter Tryd.func32, Tryd.ntmps32
    go_wp2
    exact bodyPost_ret (v := .agg (boundV 3 ka y c x t l n m)) (by simp [results, Tryd.results32, go_sem]) rfl ⟨rfl, bv (vbelow_new _ _) (vbelow_new _ _)⟩

set_option maxRecDepth 100000 in
theorem frame_in {a : Act} (hs : a.tmps.size = 64) (hd : a.defers = []) :
    ∃ v0 v1 v2 v3 v4 v5 v6 v7 v8 v9 v10 v11 v12 v13 v14 v15 v16 v17 v18 v19 v20 v21 v22 v23 v24 v25 v26 v27 v28 v29 v30 v31 v32 v33 v34 v35 v36 v37 v38 v39 v40 v41 v42 v43 v44 v45 v46 v47 v48 v49 v50 v51 v52 v53 v54 v55 v56 v57 v58 v59 v60 v61 v62 v63 : Value, a = { tmps := #[v0, v1, v2, v3, v4, v5, v6, v7, v8, v9, v10, v11, v12, v13, v14, v15, v16, v17, v18, v19, v20, v21, v22, v23, v24, v25, v26, v27, v28, v29, v30, v31, v32, v33, v34, v35, v36, v37, v38, v39, v40, v41, v42, v43, v44, v45, v46, v47, v48, v49, v50, v51, v52, v53, v54, v55, v56, v57, v58, v59, v60, v61, v62, v63], defers := [] } ∧ v4 = G a 4 := by
  have e : a = { tmps := #[G a 0, G a 1, G a 2, G a 3, G a 4, G a 5, G a 6, G a 7, G a 8, G a 9, G a 10, G a 11, G a 12, G a 13, G a 14, G a 15, G a 16, G a 17, G a 18, G a 19, G a 20, G a 21, G a 22, G a 23, G a 24, G a 25, G a 26, G a 27, G a 28, G a 29, G a 30, G a 31, G a 32, G a 33, G a 34, G a 35, G a 36, G a 37, G a 38, G a 39, G a 40, G a 41, G a 42, G a 43, G a 44, G a 45, G a 46, G a 47, G a 48, G a 49, G a 50, G a 51, G a 52, G a 53, G a 54, G a 55, G a 56, G a 57, G a 58, G a 59, G a 60, G a 61, G a 62, G a 63], defers := [] } := frame_is hs hd
  exact ⟨_, _, _, _, _, _, _, _, _, _, _, _, _, _, _, _, _, _, _, _, _, _, _, _, _, _, _, _, _, _, _, _, _, _, _, _, _, _, _, _, _, _, _, _, _, _, _, _, _, _, _, _, _, _, _, _, _, _, _, _, _, _, _, _, e, rfl⟩

set_option maxRecDepth 100000 in
set_option maxHeartbeats 8000000 in
theorem does_in_of (oa ob : Bool) (ka : Int) (y1 : Bool) (c1 x1 : Int) (t1 : ByteArray) (l1 : Option Addr) (n1 p1 : Nat) (kb : Int) (y2 : Bool) (c2 x2 : Int) (t2 : ByteArray) (l2 : Option Addr) (n2 p2 : Nat) (u0 u1 u2 u3 u4 u5 sl : Value) (m1 m2 : Nat) (w : World)
    (KF : Hid (∀ wx, Below w.heap.size w wx → Calls Tryd.prog 31 #[.agg #[.int .i64 7, .int .i64 ka, .bool y1, .int .i64 c1, .int .i64 x1, .string t1, .slice l1 n1 p1, .int .i64 kb, .bool y2, .int .i64 c2, .int .i64 x2, .string t2, .slice l2 n2 p2, .bool oa, .bool ob, sl]] wx fun e w' => ∃ r, e = .returned r ∧ r = .agg (boundV (if oa = true then 5 else 6) ka y1 c1 x1 t1 l1 n1 p1) ∧ Below wx.heap.size wx w'))
    (KU : Hid (∀ wx, Below w.heap.size w wx → Calls Tryd.prog 32 #[.agg #[.int .i64 7, .int .i64 ka, .bool y1, .int .i64 c1, .int .i64 x1, .string t1, .slice l1 n1 p1, .int .i64 kb, .bool y2, .int .i64 c2, .int .i64 x2, .string t2, .slice l2 n2 p2, .bool oa, .bool ob, sl]] wx fun e w' => ∃ r, e = .returned r ∧ r = .agg (boundV (if ob = true then 3 else 4) kb y2 c2 x2 t2 l2 n2 p2) ∧ Below wx.heap.size wx w'))
    (KD1 : Hid (∀ wx, Below w.heap.size w wx → Calls Tryd.prog 16 #[.agg (boundV (if oa = true then 5 else 6) ka y1 c1 x1 t1 l1 n1 p1), .agg #[u0, u1, u2, u3, u4, u5]] wx fun e w' => ∃ r, e = .returned r ∧ r = told m1 ∧ Below wx.heap.size wx w'))
    (KD2 : Hid (∀ wx, Below w.heap.size w wx → Calls Tryd.prog 16 #[.agg (boundV (if ob = true then 3 else 4) kb y2 c2 x2 t2 l2 n2 p2), .agg #[u0, u1, u2, u3, u4, u5]] wx fun e w' => ∃ r, e = .returned r ∧ r = told m2 ∧ Below wx.heap.size wx w'))
    (KA : Hid (∀ wx, Below w.heap.size w wx → Calls Tryd.prog 30 #[told m1, told m2] wx fun e w' => ∃ r, e = .returned r ∧ r = told (min m1 m2) ∧ Below wx.heap.size wx w')) :
    Calls Tryd.prog 16 #[.agg #[.int .i64 7, .int .i64 ka, .bool y1, .int .i64 c1, .int .i64 x1, .string t1, .slice l1 n1 p1, .int .i64 kb, .bool y2, .int .i64 c2, .int .i64 x2, .string t2, .slice l2 n2 p2, .bool oa, .bool ob, sl], .agg #[u0, u1, u2, u3, u4, u5]] w fun e w' => e = .returned (told (min m1 m2)) ∧ Below w.heap.size w w' := by
  obtain ⟨wB, hwB⟩ : ∃ wB, wB = ((w.alloc (.cells #[.int .i64 7, .int .i64 ka, .bool y1, .int .i64 c1, .int .i64 x1, .string t1, .slice l1 n1 p1, .int .i64 kb, .bool y2, .int .i64 c2, .int .i64 x2, .string t2, .slice l2 n2 p2, .bool oa, .bool ob, sl] 29)).alloc (.cells #[u0, u1, u2, u3, u4, u5] 26)).alloc (.cells #[.int .i64 0, .bool false, .int .i64 0, .int .i64 0, .string ⟨#[]⟩, .slice none 0 0] 26) := ⟨_, rfl⟩
  have NB : Hid (Below w.heap.size w wB) := hide (by rw [hwB]; exact below3 _ _ _ _)
  have XT : Hid (B16 wB w.heap.size #[.int .i64 7, .int .i64 ka, .bool y1, .int .i64 c1, .int .i64 x1, .string t1, .slice l1 n1 p1, .int .i64 kb, .bool y2, .int .i64 c2, .int .i64 x2, .string t2, .slice l2 n2 p2, .bool oa, .bool ob, sl]) := hide (by rw [hwB]; exact B16.new.over.over)
  have XV : Hid (Box wB (w.heap.size + 1) #[u0, u1, u2, u3, u4, u5]) := hide (by
    rw [hwB]
    have := (Box.new (w := w.alloc (.cells #[.int .i64 7, .int .i64 ka, .bool y1, .int .i64 c1, .int .i64 x1, .string t1, .slice l1 n1 p1, .int .i64 kb, .bool y2, .int .i64 c2, .int .i64 x2, .string t2, .slice l2 n2 p2, .bool oa, .bool ob, sl] 29)) (t := 26) (a0 := u0) (a1 := u1) (a2 := u2) (a3 := u3) (a4 := u4) (a5 := u5)).over (o := .cells #[.int .i64 0, .bool false, .int .i64 0, .int .i64 0, .string ⟨#[]⟩, .slice none 0 0] 26)
    simpa using this)
  have XR : Hid (Box wB (w.heap.size + 1 + 1) #[.int .i64 0, .bool false, .int .i64 0, .int .i64 0, .string ⟨#[]⟩, .slice none 0 0]) := hide (by
    rw [hwB]
    have := Box.new (w := (w.alloc (.cells #[.int .i64 7, .int .i64 ka, .bool y1, .int .i64 c1, .int .i64 x1, .string t1, .slice l1 n1 p1, .int .i64 kb, .bool y2, .int .i64 c2, .int .i64 x2, .string t2, .slice l2 n2 p2, .bool oa, .bool ob, sl] 29)).alloc (.cells #[u0, u1, u2, u3, u4, u5] 26)) (t := 26) (a0 := .int .i64 0) (a1 := .bool false) (a2 := .int .i64 0) (a3 := .int .i64 0) (a4 := .string ⟨#[]⟩) (a5 := .slice none 0 0)
    simpa using this)
  go_enter Tryd.func16, Tryd.ntmps16
  go_upto_region 13 with fail
  rw [← hwB]
  clear hwB
  refine frame_name ?_
  intro f0 hf0
  have s2 : G f0 2 = .pointer (some ⟨w.heap.size, 0, none⟩) := by rw [hf0]; rfl
  have s3 : G f0 3 = .pointer (some ⟨w.heap.size + 1, 0, none⟩) := by rw [hf0]; rfl
  have s4 : G f0 4 = .pointer (some ⟨w.heap.size + 1 + 1, 0, none⟩) := by rw [hf0]; rfl
  have hsz : f0.tmps.size = 64 := by rw [hf0]; rfl
  have hdf : f0.defers = [] := by rw [hf0]
  refine region_any (I := RS wB f0 64 [41, 42, 43, 44, 45, 46, 47, 48, 49] 9 (fun w' => Below w.heap.size w w' ∧ Box w' (w.heap.size + 1 + 1) #[.int .i64 (kd (min m1 m2)), .bool (yd (min m1 m2)), .int .i64 0, .int .i64 0, .string ⟨#[]⟩, .slice none 0 0]) [.lit (.agg #[.int .i64 7, .int .i64 ka, .bool y1, .int .i64 c1, .int .i64 x1, .string t1, .slice l1 n1 p1, .int .i64 kb, .bool y2, .int .i64 c2, .int .i64 x2, .string t2, .slice l2 n2 p2, .bool oa, .bool ob, sl]), .lit (.agg (boundV (if oa = true then 5 else 6) ka y1 c1 x1 t1 l1 n1 p1)), .lit (.agg #[u0, u1, u2, u3, u4, u5]), .lit (told m1), .lit (.agg #[.int .i64 7, .int .i64 ka, .bool y1, .int .i64 c1, .int .i64 x1, .string t1, .slice l1 n1 p1, .int .i64 kb, .bool y2, .int .i64 c2, .int .i64 x2, .string t2, .slice l2 n2 p2, .bool oa, .bool ob, sl]), .lit (.agg (boundV (if ob = true then 3 else 4) kb y2 c2 x2 t2 l2 n2 p2)), .lit (.agg #[u0, u1, u2, u3, u4, u5]), .lit (told m2), .lit (told (min m1 m2))]) (by kernel_rfl) ?wait ?step ?done ?start
  case wait => exact ⟨by simp, by simp, by simp, by simp, by simp, by simp, by simp, by simp, by simp, by simp, trivial⟩
  case start => exact RS.start hsz hdf ((Below.refl _ _).drew)
  case step =>
    refine ⟨?_, ?_, ?_, ?_, ?_, ?_, ?_, ?_, ?_, ?_, trivial⟩
    · rintro L fa wx h hcl hL hw2
      exact rs_val h (by decide) rfl rfl rfl (by decide) (by decide) rfl (run_ldT (eval_G ((h.keep (s := 2) (by decide)).trans s2)) ((unhide XT).keep (h.old (Bool.eq_false_iff.2 fun hq => by have hz := (hcl 1 _ rfl (hcl 3 _ rfl (hcl 8 _ rfl (hcl 9 _ rfl hq ⟨8, .data⟩ (by simp) rfl) ⟨3, .data⟩ (by simp) rfl) ⟨1, .data⟩ (by simp) rfl) ⟨0, .data⟩ (by simp) rfl); rw [hL] at hz; cases hz)) (unhide XT).low)) rfl
    · rintro L fa wx h hcl hL hw2
      exact rs_call (R := fun v _ => v = .agg (boundV (if oa = true then 5 else 6) ka y1 c1 x1 t1 l1 n1 p1)) h (by decide) rfl rfl rfl (by decide) (by decide) (Bool.eq_false_iff.2 fun hq => by have hz := (hcl 3 _ rfl (hcl 8 _ rfl (hcl 9 _ rfl hq ⟨8, .data⟩ (by simp) rfl) ⟨3, .data⟩ (by simp) rfl) ⟨1, .data⟩ (by simp) rfl); rw [hL] at hz; cases hz) rfl (run_call1 (eval_G (show G fa 41 = .agg #[.int .i64 7, .int .i64 ka, .bool y1, .int .i64 c1, .int .i64 x1, .string t1, .slice l1 n1 p1, .int .i64 kb, .bool y2, .int .i64 c2, .int .i64 x2, .string t2, .slice l2 n2 p2, .bool oa, .bool ob, sl] from oks_lit (h.got 0 41 (hw2 ⟨0, .data⟩ (by simp) rfl) rfl) rfl)) callFrom) (unhide KF _ (bv (unhide NB) (h.old (Bool.eq_false_iff.2 fun hq => by have hz := (hcl 3 _ rfl (hcl 8 _ rfl (hcl 9 _ rfl hq ⟨8, .data⟩ (by simp) rfl) ⟨3, .data⟩ (by simp) rfl) ⟨1, .data⟩ (by simp) rfl); rw [hL] at hz; cases hz)))) (fun _ _ q => q)
    · rintro L fa wx h hcl hL hw2
      exact rs_val h (by decide) rfl rfl rfl (by decide) (by decide) rfl (run_ldX (eval_G ((h.keep (s := 3) (by decide)).trans s3)) ((unhide XV).keep (h.old (Bool.eq_false_iff.2 fun hq => by have hz := (hcl 3 _ rfl (hcl 8 _ rfl (hcl 9 _ rfl hq ⟨8, .data⟩ (by simp) rfl) ⟨3, .data⟩ (by simp) rfl) ⟨2, .data⟩ (by simp) rfl); rw [hL] at hz; cases hz)) (unhide XV).low)) rfl
    · rintro L fa wx h hcl hL hw2
      exact rs_call (R := fun v _ => v = told m1) h (by decide) rfl rfl rfl (by decide) (by decide) (Bool.eq_false_iff.2 fun hq => by have hz := (hcl 8 _ rfl (hcl 9 _ rfl hq ⟨8, .data⟩ (by simp) rfl) ⟨3, .data⟩ (by simp) rfl); rw [hL] at hz; cases hz) rfl (run_call2 (eval_G (show G fa 42 = .agg (boundV (if oa = true then 5 else 6) ka y1 c1 x1 t1 l1 n1 p1) from oks_lit (h.got 1 42 (hw2 ⟨1, .data⟩ (by simp) rfl) rfl) rfl)) (eval_G (show G fa 43 = .agg #[u0, u1, u2, u3, u4, u5] from oks_lit (h.got 2 43 (hw2 ⟨2, .data⟩ (by simp) rfl) rfl) rfl)) callDoes) (unhide KD1 _ (bv (unhide NB) (h.old (Bool.eq_false_iff.2 fun hq => by have hz := (hcl 8 _ rfl (hcl 9 _ rfl hq ⟨8, .data⟩ (by simp) rfl) ⟨3, .data⟩ (by simp) rfl); rw [hL] at hz; cases hz)))) (fun _ _ q => q)
    · rintro L fa wx h hcl hL hw2
      exact rs_val h (by decide) rfl rfl rfl (by decide) (by decide) rfl (run_ldT (eval_G ((h.keep (s := 2) (by decide)).trans s2)) ((unhide XT).keep (h.old (Bool.eq_false_iff.2 fun hq => by have hz := (hcl 5 _ rfl (hcl 7 _ rfl (hcl 8 _ rfl (hcl 9 _ rfl hq ⟨8, .data⟩ (by simp) rfl) ⟨7, .data⟩ (by simp) rfl) ⟨5, .data⟩ (by simp) rfl) ⟨4, .data⟩ (by simp) rfl); rw [hL] at hz; cases hz)) (unhide XT).low)) rfl
    · rintro L fa wx h hcl hL hw2
      exact rs_call (R := fun v _ => v = .agg (boundV (if ob = true then 3 else 4) kb y2 c2 x2 t2 l2 n2 p2)) h (by decide) rfl rfl rfl (by decide) (by decide) (Bool.eq_false_iff.2 fun hq => by have hz := (hcl 7 _ rfl (hcl 8 _ rfl (hcl 9 _ rfl hq ⟨8, .data⟩ (by simp) rfl) ⟨7, .data⟩ (by simp) rfl) ⟨5, .data⟩ (by simp) rfl); rw [hL] at hz; cases hz) rfl (run_call1 (eval_G (show G fa 45 = .agg #[.int .i64 7, .int .i64 ka, .bool y1, .int .i64 c1, .int .i64 x1, .string t1, .slice l1 n1 p1, .int .i64 kb, .bool y2, .int .i64 c2, .int .i64 x2, .string t2, .slice l2 n2 p2, .bool oa, .bool ob, sl] from oks_lit (h.got 4 45 (hw2 ⟨4, .data⟩ (by simp) rfl) rfl) rfl)) callUpTo) (unhide KU _ (bv (unhide NB) (h.old (Bool.eq_false_iff.2 fun hq => by have hz := (hcl 7 _ rfl (hcl 8 _ rfl (hcl 9 _ rfl hq ⟨8, .data⟩ (by simp) rfl) ⟨7, .data⟩ (by simp) rfl) ⟨5, .data⟩ (by simp) rfl); rw [hL] at hz; cases hz)))) (fun _ _ q => q)
    · rintro L fa wx h hcl hL hw2
      exact rs_val h (by decide) rfl rfl rfl (by decide) (by decide) rfl (run_ldX (eval_G ((h.keep (s := 3) (by decide)).trans s3)) ((unhide XV).keep (h.old (Bool.eq_false_iff.2 fun hq => by have hz := (hcl 7 _ rfl (hcl 8 _ rfl (hcl 9 _ rfl hq ⟨8, .data⟩ (by simp) rfl) ⟨7, .data⟩ (by simp) rfl) ⟨6, .data⟩ (by simp) rfl); rw [hL] at hz; cases hz)) (unhide XV).low)) rfl
    · rintro L fa wx h hcl hL hw2
      exact rs_call (R := fun v _ => v = told m2) h (by decide) rfl rfl rfl (by decide) (by decide) (Bool.eq_false_iff.2 fun hq => by have hz := (hcl 8 _ rfl (hcl 9 _ rfl hq ⟨8, .data⟩ (by simp) rfl) ⟨7, .data⟩ (by simp) rfl); rw [hL] at hz; cases hz) rfl (run_call2 (eval_G (show G fa 46 = .agg (boundV (if ob = true then 3 else 4) kb y2 c2 x2 t2 l2 n2 p2) from oks_lit (h.got 5 46 (hw2 ⟨5, .data⟩ (by simp) rfl) rfl) rfl)) (eval_G (show G fa 47 = .agg #[u0, u1, u2, u3, u4, u5] from oks_lit (h.got 6 47 (hw2 ⟨6, .data⟩ (by simp) rfl) rfl) rfl)) callDoes) (unhide KD2 _ (bv (unhide NB) (h.old (Bool.eq_false_iff.2 fun hq => by have hz := (hcl 8 _ rfl (hcl 9 _ rfl hq ⟨8, .data⟩ (by simp) rfl) ⟨7, .data⟩ (by simp) rfl); rw [hL] at hz; cases hz)))) (fun _ _ q => q)
    · rintro L fa wx h hcl hL hw2
      exact rs_call (R := fun v _ => v = told (min m1 m2)) h (by decide) rfl rfl rfl (by decide) (by decide) (Bool.eq_false_iff.2 fun hq => by have hz := (hcl 9 _ rfl hq ⟨8, .data⟩ (by simp) rfl); rw [hL] at hz; cases hz) rfl (run_call2 (eval_G (show G fa 44 = told m1 from oks_lit (h.got 3 44 (hw2 ⟨3, .data⟩ (by simp) rfl) rfl) rfl)) (eval_G (show G fa 48 = told m2 from oks_lit (h.got 7 48 (hw2 ⟨7, .data⟩ (by simp) rfl) rfl) rfl)) callAnd) (unhide KA _ (bv (unhide NB) (h.old (Bool.eq_false_iff.2 fun hq => by have hz := (hcl 9 _ rfl hq ⟨8, .data⟩ (by simp) rfl); rw [hL] at hz; cases hz)))) (fun _ _ q => q)
    · rintro L fa wx h hcl hL hw2
      exact rs_store h rfl hL rfl ((h.keep (s := 4) (by decide)).trans s4) (show G fa 49 = told (min m1 m2) from oks_lit (h.got 8 49 (hw2 ⟨8, .data⟩ (by simp) rfl) rfl) rfl) ((unhide XR).keep (h.old hL) (unhide XR).low) ⟨below_put6 (bv (unhide NB) (h.old hL)) (by omega), ((unhide XR).keep (h.old hL) (unhide XR).low).put _ _ _ _ _ _⟩
  case done =>
    rintro L f1 w3 h hall
    obtain ⟨hb, R⟩ := h.fin (hall 9 (by simp))
    replace s4 := (h.keep (s := 4) (by decide)).trans s4
    replace hsz := h.size
    replace hdf := h.defs
    clear h hall hf0 KF KU KD1 KD2 KA XT XV XR NB s2 s3
    obtain ⟨v0, v1, v2, v3, v4, v5, v6, v7, v8, v9, v10, v11, v12, v13, v14, v15, v16, v17, v18, v19, v20, v21, v22, v23, v24, v25, v26, v27, v28, v29, v30, v31, v32, v33, v34, v35, v36, v37, v38, v39, v40, v41, v42, v43, v44, v45, v46, v47, v48, v49, v50, v51, v52, v53, v54, v55, v56, v57, v58, v59, v60, v61, v62, v63, rfl, q4⟩ := frame_in hsz hdf
    rw [s4] at q4
    subst q4
    clear s4 hsz hdf
    obtain ⟨c0, c1, c2, c3, c4, c5⟩ := R.tell
    go_wp2
    exact bodyPost_ret (v := told (min m1 m2)) (by simp [results, Tryd.results16, go_sem, c0, c1, c2, c3, c4, c5]) rfl ⟨rfl, hb⟩
end Go.Proofs.YtbdgngfpofohpaaDoor
