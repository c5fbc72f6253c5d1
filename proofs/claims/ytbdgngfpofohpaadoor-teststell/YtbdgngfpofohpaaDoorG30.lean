/- The walk over TestsTell. (Written by gen_s14.py.) -/
import Derived.Test.YtbdgngfpofohpaaDoorG29
namespace Go.Proofs.YtbdgngfpofohpaaDoor
open Go.RowKit

theorem callT4 (zs : Array Value) (w : World) : Sem.run Tryd.prog (callFunc 4 zs) w = .ok (.enter 4 zs) w := by simp [go_sem]
theorem callT5 (zs : Array Value) (w : World) : Sem.run Tryd.prog (callFunc 5 zs) w = .ok (.enter 5 zs) w := by simp [go_sem]
theorem callT8 (zs : Array Value) (w : World) : Sem.run Tryd.prog (callFunc 8 zs) w = .ok (.enter 8 zs) w := by simp [go_sem]
theorem callT9 (zs : Array Value) (w : World) : Sem.run Tryd.prog (callFunc 9 zs) w = .ok (.enter 9 zs) w := by simp [go_sem]
theorem callT10 (zs : Array Value) (w : World) : Sem.run Tryd.prog (callFunc 10 zs) w = .ok (.enter 10 zs) w := by simp [go_sem]
theorem callT11 (zs : Array Value) (w : World) : Sem.run Tryd.prog (callFunc 11 zs) w = .ok (.enter 11 zs) w := by simp [go_sem]
theorem callT12 (zs : Array Value) (w : World) : Sem.run Tryd.prog (callFunc 12 zs) w = .ok (.enter 12 zs) w := by simp [go_sem]
abbrev zeroB : Array Value := #[.int .i64 0, .bool false, .int .i64 0, .int .i64 0, .string ⟨#[]⟩, .slice none 0 0]
theorem zr {n : Nat} {args : Array Value} {w : World} {v : Value} (h : Calls Tryd.prog n args w fun e w' => ∃ u, e = .returned u ∧ u = v ∧ Below w.heap.size w w') : Calls Tryd.prog n args w fun e w' => e = .returned v ∧ Below w.heap.size w w' :=
  h.mono fun _ _ ⟨_, q1, q2, q3⟩ => ⟨q2 ▸ q1, q3⟩
section
variable {a : Act} {w : World} {d : Option Nat} {t : TypeId} {p : String} {af : Array Edge} {g : Option (Nat × Bool)}
theorem run_ldTy {x : Operand} {b : Nat} {y0 y1 : Value} (h : a.eval x = .pointer (some ⟨b, 0, none⟩)) (B : B16 w b #[y0, y1]) : (execOp a.eval ⟨d, .load 32 x, t, p, af, g⟩).run Tryd.prog w = .ok (.value (.agg #[y0, y1])) w := by
  have c0 := B.cell 0 _ rfl
  have c1 := B.cell 1 _ rfl
  generalize a.eval = E at h ⊢
  simp [go_sem, h, c0, c1]
theorem run_eq0 {x : Operand} (hx : a.eval x = .int .i64 0) : (execOp a.eval ⟨d, .binOp .eql 33 x (.const (.int .i64 0)) 33, t, p, af, g⟩).run Tryd.prog w = .ok (.value (.bool true)) w := by
  have e1 : a.eval (.const (.int .i64 0)) = .int .i64 0 := rfl
  generalize a.eval = E at hx e1 ⊢
  simp [go_sem, hx, e1]
theorem run_eqBB {x y : Operand} {F : Bool} (hx : a.eval x = .bool F) (hy : a.eval y = .bool F) : (execOp a.eval ⟨d, .binOp .eql 4 x y 4, t, p, af, g⟩).run Tryd.prog w = .ok (.value (.bool true)) w := by
  generalize a.eval = E at hx hy ⊢
  simp [go_sem, hx, hy]
end

set_option maxRecDepth 100000 in
theorem frame_tt {a : Act} (hs : a.tmps.size = 65) (hd : a.defers = []) :
    ∃ f0 f1 f2 f3 f4 f5 f6 f7 f8 f9 f10 f11 f12 f13 f14 f15 f16 f17 f18 f19 f20 f21 f22 f23 f24 f25 f26 f27 f28 f29 f30 f31 f32 f33 f34 f35 f36 f37 f38 f39 f40 f41 f42 f43 f44 f45 f46 f47 f48 f49 f50 f51 f52 f53 f54 f55 f56 f57 f58 f59 f60 f61 f62 f63 f64 : Value, a = { tmps := #[f0, f1, f2, f3, f4, f5, f6, f7, f8, f9, f10, f11, f12, f13, f14, f15, f16, f17, f18, f19, f20, f21, f22, f23, f24, f25, f26, f27, f28, f29, f30, f31, f32, f33, f34, f35, f36, f37, f38, f39, f40, f41, f42, f43, f44, f45, f46, f47, f48, f49, f50, f51, f52, f53, f54, f55, f56, f57, f58, f59, f60, f61, f62, f63, f64], defers := [] } ∧ f3 = G a 3 ∧ f4 = G a 4 ∧ f5 = G a 5 ∧ f6 = G a 6 ∧ f15 = G a 15 := by
  have e : a = { tmps := #[G a 0, G a 1, G a 2, G a 3, G a 4, G a 5, G a 6, G a 7, G a 8, G a 9, G a 10, G a 11, G a 12, G a 13, G a 14, G a 15, G a 16, G a 17, G a 18, G a 19, G a 20, G a 21, G a 22, G a 23, G a 24, G a 25, G a 26, G a 27, G a 28, G a 29, G a 30, G a 31, G a 32, G a 33, G a 34, G a 35, G a 36, G a 37, G a 38, G a 39, G a 40, G a 41, G a 42, G a 43, G a 44, G a 45, G a 46, G a 47, G a 48, G a 49, G a 50, G a 51, G a 52, G a 53, G a 54, G a 55, G a 56, G a 57, G a 58, G a 59, G a 60, G a 61, G a 62, G a 63, G a 64], defers := [] } := frame_is hs hd
  exact ⟨_, _, _, _, _, _, _, _, _, _, _, _, _, _, _, _, _, _, _, _, _, _, _, _, _, _, _, _, _, _, _, _, _, _, _, _, _, _, _, _, _, _, _, _, _, _, _, _, _, _, _, _, _, _, _, _, _, _, _, _, _, _, _, _, _, e, rfl, rfl, rfl, rfl, rfl⟩

set_option maxRecDepth 100000 in
set_option maxHeartbeats 20000000 in
theorem tell_of (v0 v1 v2 v3 v4 v5 v6 v7 v8 v9 v10 v11 v12 v13 v14 v15 u0 u1 u2 u3 u4 u5 sv : Value) (ty W F2 : Int) (n : Nat) (F : Bool) (w : World)
    (K4 : Hid (∀ wx, Below w.heap.size w wx → Calls Tryd.prog 4 #[.agg #[v0, v1, v2, v3, v4, v5, v6, v7, v8, v9, v10, v11, v12, v13, v14, v15]] wx fun e w' => ∃ r, e = .returned r ∧ r = .int .i64 W ∧ Below wx.heap.size wx w'))
    (K5 : Hid (∀ wx, Below w.heap.size w wx → Calls Tryd.prog 5 #[.agg #[v0, v1, v2, v3, v4, v5, v6, v7, v8, v9, v10, v11, v12, v13, v14, v15]] wx fun e w' => ∃ r, e = .returned r ∧ r = .int .i64 W ∧ Below wx.heap.size wx w'))
    (KW : Hid (¬ W = 0 → ∀ wx, Below w.heap.size w wx → Calls Tryd.prog 6 #[.agg #[v0, v1, v2, v3, v4, v5, v6, v7, v8, v9, v10, v11, v12, v13, v14, v15], .agg #[u0, u1, u2, u3, u4, u5]] wx fun e w' => e = .returned (.tuple #[.agg zeroB, .int .i64 W]) ∧ Below wx.heap.size wx w'))
    (KV : Hid (W = 0 → ∀ wx, Below w.heap.size w wx → Calls Tryd.prog 6 #[.agg #[v0, v1, v2, v3, v4, v5, v6, v7, v8, v9, v10, v11, v12, v13, v14, v15], .agg #[u0, u1, u2, u3, u4, u5]] wx fun e w' => e = .returned (.tuple #[.agg (if F2 = 0 then #[.int .i64 (kd n), .bool (yd n), .int .i64 0, .int .i64 0, .string ⟨#[]⟩, .slice none 0 0] else zeroB), .int .i64 F2]) ∧ Below wx.heap.size wx w'))
    (K7 : Hid (∀ wx, Below w.heap.size w wx → Calls Tryd.prog 7 #[.agg #[u0, u1, u2, u3, u4, u5]] wx fun e w' => e = .returned (.int .i64 F2) ∧ Below wx.heap.size wx w'))
    (K10 : Hid (W = 0 → F2 = 0 → Hid (∀ wx, Below w.heap.size w wx → Calls Tryd.prog 10 #[.agg #[v0, v1, v2, v3, v4, v5, v6, v7, v8, v9, v10, v11, v12, v13, v14, v15], .agg #[u0, u1, u2, u3, u4, u5]] wx fun e w' => ∃ r, e = .returned r ∧ r = .int .i64 ((n : Nat) : Int) ∧ Below wx.heap.size wx w')))
    (K9 : Hid (∀ wx, Calls Tryd.prog 9 #[.int .i64 ((n : Nat) : Int)] wx fun e w' => ∃ r, e = .returned r ∧ r = told n ∧ Below wx.heap.size wx w'))
    (K8 : Hid (∀ wx, Calls Tryd.prog 8 #[told n, told n] wx fun e w' => ∃ r, e = .returned r ∧ r = .bool true ∧ Below wx.heap.size wx w'))
    (K11 : Hid (W = 0 → Hid (∀ wx, Below w.heap.size w wx → Calls Tryd.prog 11 #[.agg #[v0, v1, v2, v3, v4, v5, v6, v7, v8, v9, v10, v11, v12, v13, v14, v15], .agg #[.int .i64 ty, sv]] wx fun e w' => ∃ r, e = .returned r ∧ r = .bool F ∧ Below wx.heap.size wx w')))
    (K12 : Hid (W = 0 → Hid (∀ wx, Below w.heap.size w wx → Calls Tryd.prog 12 #[.agg #[v0, v1, v2, v3, v4, v5, v6, v7, v8, v9, v10, v11, v12, v13, v14, v15], .agg #[.int .i64 ty, sv]] wx fun e w' => ∃ r, e = .returned r ∧ r = .bool F ∧ Below wx.heap.size wx w'))) :
    Calls Tryd.prog 3 #[.agg #[v0, v1, v2, v3, v4, v5, v6, v7, v8, v9, v10, v11, v12, v13, v14, v15], .agg #[u0, u1, u2, u3, u4, u5], .agg #[.int .i64 ty, sv]] w fun e w' => e = .returned (.bool true) ∧ Below w.heap.size w w' := by
  obtain ⟨wB, hwB⟩ : ∃ wB, wB = ((w.alloc (.cells #[v0, v1, v2, v3, v4, v5, v6, v7, v8, v9, v10, v11, v12, v13, v14, v15] 29)).alloc (.cells #[u0, u1, u2, u3, u4, u5] 26)).alloc (.cells #[.int .i64 ty, sv] 32) := ⟨_, rfl⟩
  have NB : Hid (Below w.heap.size w wB) := hide (by rw [hwB]; exact below3 _ _ _ _)
  have XT : Hid (B16 wB w.heap.size #[v0, v1, v2, v3, v4, v5, v6, v7, v8, v9, v10, v11, v12, v13, v14, v15]) := hide (by rw [hwB]; exact B16.new.over.over)
  have XV : Hid (Box wB (w.heap.size + 1) #[u0, u1, u2, u3, u4, u5]) := hide (by
    rw [hwB]
    have := (Box.new (w := w.alloc (.cells #[v0, v1, v2, v3, v4, v5, v6, v7, v8, v9, v10, v11, v12, v13, v14, v15] 29)) (t := 26) (a0 := u0) (a1 := u1) (a2 := u2) (a3 := u3) (a4 := u4) (a5 := u5)).over (o := .cells #[.int .i64 ty, sv] 32)
    simpa using this)
  have XY : Hid (B16 wB (w.heap.size + 1 + 1) #[.int .i64 ty, sv]) := hide (by
    rw [hwB]
    have := B16.new (w := (w.alloc (.cells #[v0, v1, v2, v3, v4, v5, v6, v7, v8, v9, v10, v11, v12, v13, v14, v15] 29)).alloc (.cells #[u0, u1, u2, u3, u4, u5] 26)) (t := 32) (u := #[.int .i64 ty, sv])
    simpa using this)
  go_enter Tryd.func3, Tryd.ntmps3
  go_upto_region 1 with fail
  rw [← hwB]
  clear hwB
  refine frame_name ?_
  intro f0 hf0
  have s3 : G f0 3 = .pointer (some ⟨w.heap.size, 0, none⟩) := by rw [hf0]; rfl
  have s4 : G f0 4 = .pointer (some ⟨w.heap.size + 1, 0, none⟩) := by rw [hf0]; rfl
  have s5 : G f0 5 = .pointer (some ⟨w.heap.size + 1 + 1, 0, none⟩) := by rw [hf0]; rfl
  have hsz : f0.tmps.size = 65 := by rw [hf0]; rfl
  have hdf : f0.defers = [] := by rw [hf0]
  refine region_any (I := RL wB f0 65 [11, 12, 13, 14, 15] [.lit (.agg #[v0, v1, v2, v3, v4, v5, v6, v7, v8, v9, v10, v11, v12, v13, v14, v15]), .lit (.int .i64 W), .lit (.agg #[v0, v1, v2, v3, v4, v5, v6, v7, v8, v9, v10, v11, v12, v13, v14, v15]), .lit (.int .i64 W), .lit (.bool false)]) (by kernel_rfl) ?wait ?step ?done ?start
  case wait => exact ⟨by simp, by simp, by simp, by simp, by simp, trivial⟩
  case start => exact RI.start hsz hdf ((Below.refl _ _).drew)
  case step =>
    refine ⟨?_, ?_, ?_, ?_, ?_, trivial⟩
    · rintro L fa wx h hcl hL hw2
      exact rl_val h (by decide) rfl rfl rfl (by decide) rfl (run_ldT (eval_G ((h.keep (s := 3) (by decide)).trans s3)) ((unhide XT).keep h.old (unhide XT).low)) rfl
    · rintro L fa wx h hcl hL hw2
      exact rl_call (R := fun v _ => v = .int .i64 W) h (by decide) rfl rfl rfl (by decide) rfl (run_call1 (eval_G (show G fa 11 = .agg #[v0, v1, v2, v3, v4, v5, v6, v7, v8, v9, v10, v11, v12, v13, v14, v15] from (h.got 0 11 (hw2 ⟨0, .data⟩ (by simp) rfl) rfl))) callT4) (unhide K4 _ (bv (unhide NB) h.old)) (fun _ _ q => q)
    · rintro L fa wx h hcl hL hw2
      exact rl_val h (by decide) rfl rfl rfl (by decide) rfl (run_ldT (eval_G ((h.keep (s := 3) (by decide)).trans s3)) ((unhide XT).keep h.old (unhide XT).low)) rfl
    · rintro L fa wx h hcl hL hw2
      exact rl_call (R := fun v _ => v = .int .i64 W) h (by decide) rfl rfl rfl (by decide) rfl (run_call1 (eval_G (show G fa 13 = .agg #[v0, v1, v2, v3, v4, v5, v6, v7, v8, v9, v10, v11, v12, v13, v14, v15] from (h.got 2 13 (hw2 ⟨2, .data⟩ (by simp) rfl) rfl))) callT5) (unhide K5 _ (bv (unhide NB) h.old)) (fun _ _ q => q)
    · rintro L fa wx h hcl hL hw2
      exact rl_val h (by decide) rfl rfl rfl (by decide) rfl (run_neI (eval_G (show G fa 12 = .int .i64 W from (h.got 1 12 (hw2 ⟨1, .data⟩ (by simp) rfl) rfl))) (eval_G (show G fa 14 = .int .i64 W from (h.got 3 14 (hw2 ⟨3, .data⟩ (by simp) rfl) rfl))) (by simp)) rfl
  case done =>
  rintro L f1 w1 h hall
  have q15 : G f1 15 = .bool false := h.got 4 15 (hall 4 (by simp)) rfl
  have HB := hide (bv (unhide NB) h.old)
  replace XT := hide ((unhide XT).keep h.old (unhide XT).low)
  replace XV := hide ((unhide XV).keep h.old (unhide XV).low)
  replace XY := hide ((unhide XY).keep h.old (unhide XY).low)
  replace s3 := (h.keep (s := 3) (by decide)).trans s3
  replace s4 := (h.keep (s := 4) (by decide)).trans s4
  replace s5 := (h.keep (s := 5) (by decide)).trans s5
  replace hsz := h.size
  replace hdf := h.defs
  clear h hall hf0 K4 NB
  obtain ⟨b0, b1, b2, b3, b4, b5, b6, b7, b8, b9, b10, b11, b12, b13, b14, b15, b16, b17, b18, b19, b20, b21, b22, b23, b24, b25, b26, b27, b28, b29, b30, b31, b32, b33, b34, b35, b36, b37, b38, b39, b40, b41, b42, b43, b44, b45, b46, b47, b48, b49, b50, b51, b52, b53, b54, b55, b56, b57, b58, b59, b60, b61, b62, b63, b64, rfl, e3, e4, e5, e6, e15⟩ := frame_tt hsz hdf
  rw [s3] at e3
  rw [s4] at e4
  rw [s5] at e5
  rw [q15] at e15
  clear e6
  subst e3 e4 e5 e15
  clear s3 s4 s5 q15 hsz hdf f0
  obtain ⟨x0, x1, x2, x3, x4, x5, x6, x7, x8, x9, x10, x11, x12, x13, x14, x15⟩ := (unhide XT).tell
  obtain ⟨z0, z1, z2, z3, z4, z5⟩ := (unhide XV).tell
  by_cases hW : W = 0
  · have KV' := unhide KV hW
    have K10' := unhide K10 hW
    replace K11 := unhide K11 hW
    replace K12 := unhide K12 hW
    replace KV := hide KV'
    clear KW KV' K10
    subst hW
    by_cases hF : F2 = 0
    · subst hF
      replace K10 := K10' (by trivial)
      rw [if_pos (by trivial)] at KV
      clear K10'
      go_wp2_with fail
      refine (unhide KV _ (unhide HB)).mono ?_
      rintro e w2 ⟨rfl, hb⟩
      have HB2 := hide (bv (unhide HB) (bv hb (vbelow_new w2 (.cells #[.int .i64 (kd n), .bool (yd n), .int .i64 0, .int .i64 0, .string ⟨#[]⟩, .slice none 0 0] 26))))
      have hb' := bv hb (vbelow_new w2 (.cells #[.int .i64 (kd n), .bool (yd n), .int .i64 0, .int .i64 0, .string ⟨#[]⟩, .slice none 0 0] 26))
      have XT2 := hide ((unhide XT).keep hb' (unhide XT).low)
      have XV2 := hide ((unhide XV).keep hb' (unhide XV).low)
      have XY2 := hide ((unhide XY).keep hb' (unhide XY).low)
      have XA2 := hide (Box.new (w := w2) (t := 26) (a0 := .int .i64 (kd n)) (a1 := .bool (yd n)) (a2 := .int .i64 0) (a3 := .int .i64 0) (a4 := .string ⟨#[]⟩) (a5 := .slice none 0 0))
      obtain ⟨wC, hwC⟩ : ∃ wC, wC = w2.alloc (.cells #[.int .i64 (kd n), .bool (yd n), .int .i64 0, .int .i64 0, .string ⟨#[]⟩, .slice none 0 0] 26) := ⟨_, rfl⟩
      rw [← hwC] at HB2 XT2 XV2 XY2 XA2
      clear hb hb' KV HB XT XV XY x0 x1 x2 x3 x4 x5 x6 x7 x8 x9 x10 x11 x12 x13 x14 x15 z0 z1 z2 z3 z4 z5
      obtain ⟨x0, x1, x2, x3, x4, x5, x6, x7, x8, x9, x10, x11, x12, x13, x14, x15⟩ := (unhide XT2).tell
      obtain ⟨z0, z1, z2, z3, z4, z5⟩ := (unhide XV2).tell
      have C5 := hide (zr (unhide K5 _ (unhide HB2)))
      rw [hwC] at C5 x0 x1 x2 x3 x4 x5 x6 x7 x8 x9 x10 x11 x12 x13 x14 x15 z0 z1 z2 z3 z4 z5
      go_wp2_with fail
      refine (unhide C5).mono ?_
      rintro e w3 ⟨rfl, hb⟩
      rw [← hwC] at hb
      clear C5 x0 x1 x2 x3 x4 x5 x6 x7 x8 x9 x10 x11 x12 x13 x14 x15 z0 z1 z2 z3 z4 z5 hwC
      have HB3 := hide (bv (unhide HB2) hb)
      have XT3 := hide ((unhide XT2).keep hb (unhide XT2).low)
      have XV3 := hide ((unhide XV2).keep hb (unhide XV2).low)
      have XY3 := hide ((unhide XY2).keep hb (unhide XY2).low)
      have XA3 := hide ((unhide XA2).keep hb (unhide XA2).low)
      clear hb XT2 XV2 XY2 XA2 HB2 K5
      obtain ⟨z0, z1, z2, z3, z4, z5⟩ := (unhide XV3).tell
      go_wp2_with fail
      refine (unhide K7 _ (unhide HB3)).mono ?_
      rintro e w6 ⟨rfl, hb⟩
      have HB := hide (bv (unhide HB3) hb)
      have XT := hide ((unhide XT3).keep hb (unhide XT3).low)
      have XV := hide ((unhide XV3).keep hb (unhide XV3).low)
      have XY := hide ((unhide XY3).keep hb (unhide XY3).low)
      have XA := hide ((unhide XA3).keep hb (unhide XA3).low)
      clear hb XT3 XV3 XY3 XA3 HB3 K7 z0 z1 z2 z3 z4 z5
      go_upto_region 10 with fail
      refine frame_name ?_
      intro f0 hf0
      have s3 : G f0 3 = .pointer (some ⟨w.heap.size, 0, none⟩) := by rw [hf0]; rfl
      have s4 : G f0 4 = .pointer (some ⟨w.heap.size + 1, 0, none⟩) := by rw [hf0]; rfl
      have s5 : G f0 5 = .pointer (some ⟨w.heap.size + 1 + 1, 0, none⟩) := by rw [hf0]; rfl
      have s7 : G f0 7 = .pointer (some ⟨w2.heap.size, 0, none⟩) := by rw [hf0]; rfl
      have s8 : G f0 8 = .int .i64 0 := by rw [hf0]; rfl
      have hsz : f0.tmps.size = 65 := by rw [hf0]; rfl
      have hdf : f0.defers = [] := by rw [hf0]
      refine region_any (I := RL w6 f0 65 [46, 47, 48, 49, 50, 51, 52, 53, 54, 55, 56, 57, 58, 59, 60, 61, 62, 63, 64, 6] [.lit (.int .i64 0), .lit (.bool true), .lit (.bool true), .lit (told n), .lit (.agg #[v0, v1, v2, v3, v4, v5, v6, v7, v8, v9, v10, v11, v12, v13, v14, v15]), .lit (.agg #[u0, u1, u2, u3, u4, u5]), .lit (.int .i64 ((n : Nat) : Int)), .lit (told n), .lit (.bool true), .lit (.bool true), .lit (.bool true), .lit (.agg #[v0, v1, v2, v3, v4, v5, v6, v7, v8, v9, v10, v11, v12, v13, v14, v15]), .lit (.agg #[.int .i64 ty, sv]), .lit (.bool F), .lit (.agg #[v0, v1, v2, v3, v4, v5, v6, v7, v8, v9, v10, v11, v12, v13, v14, v15]), .lit (.agg #[.int .i64 ty, sv]), .lit (.bool F), .lit (.bool true), .lit (.bool true), .lit (.bool true)]) (by kernel_rfl) ?wait ?step ?done ?start
      case wait => exact ⟨by simp, by simp, by simp, by simp, by simp, by simp, by simp, by simp, by simp, by simp, by simp, by simp, by simp, by simp, by simp, by simp, by simp, by simp, by simp, by simp, trivial⟩
      case start => exact RI.start hsz hdf ((Below.refl _ _).drew)
      case step =>
        refine ⟨?_, ?_, ?_, ?_, ?_, ?_, ?_, ?_, ?_, ?_, ?_, ?_, ?_, ?_, ?_, ?_, ?_, ?_, ?_, ?_, trivial⟩
        · rintro L fa wx h hcl hL hw2
          exact rl_val h (by decide) rfl rfl rfl (by decide) rfl (run_mv (eval_G ((h.keep (s := 8) (by decide)).trans s8))) rfl
        · rintro L fa wx h hcl hL hw2
          exact rl_val h (by decide) rfl rfl rfl (by decide) rfl (run_eq0 (eval_G (show G fa 46 = .int .i64 0 from (h.got 0 46 (hw2 ⟨0, .data⟩ (by simp) rfl) rfl)))) rfl
        · rintro L fa wx h hcl hL hw2
          exact rl_val h (by decide) rfl rfl rfl (by decide) rfl (run_mv (eval_G (show G fa 47 = .bool true from (h.got 1 47 (hw2 ⟨1, .data⟩ (by simp) rfl) rfl)))) rfl
        · rintro L fa wx h hcl hL hw2
          exact rl_val h (by decide) rfl rfl rfl (by decide) ((wanted_is (j := 2) (dj := 48) (b := true) (c := true) rfl rfl (by rw [h.size]; decide) (show G fa 48 = .bool true from (h.got 2 48 (hw2 ⟨2, .guard⟩ (by simp) rfl) rfl))).trans rfl) (run_ldX (eval_G ((h.keep (s := 7) (by decide)).trans s7)) ((unhide XA).keep h.old (unhide XA).low)) rfl
        · rintro L fa wx h hcl hL hw2
          exact rl_val h (by decide) rfl rfl rfl (by decide) ((wanted_is (j := 2) (dj := 48) (b := true) (c := true) rfl rfl (by rw [h.size]; decide) (show G fa 48 = .bool true from (h.got 2 48 (hw2 ⟨2, .guard⟩ (by simp) rfl) rfl))).trans rfl) (run_ldT (eval_G ((h.keep (s := 3) (by decide)).trans s3)) ((unhide XT).keep h.old (unhide XT).low)) rfl
        · rintro L fa wx h hcl hL hw2
          exact rl_val h (by decide) rfl rfl rfl (by decide) ((wanted_is (j := 2) (dj := 48) (b := true) (c := true) rfl rfl (by rw [h.size]; decide) (show G fa 48 = .bool true from (h.got 2 48 (hw2 ⟨2, .guard⟩ (by simp) rfl) rfl))).trans rfl) (run_ldX (eval_G ((h.keep (s := 4) (by decide)).trans s4)) ((unhide XV).keep h.old (unhide XV).low)) rfl
        · rintro L fa wx h hcl hL hw2
          exact rl_call (R := fun v _ => v = .int .i64 ((n : Nat) : Int)) h (by decide) rfl rfl rfl (by decide) ((wanted_is (j := 2) (dj := 48) (b := true) (c := true) rfl rfl (by rw [h.size]; decide) (show G fa 48 = .bool true from (h.got 2 48 (hw2 ⟨2, .guard⟩ (by simp) rfl) rfl))).trans rfl) (run_call2 (eval_G (show G fa 50 = .agg #[v0, v1, v2, v3, v4, v5, v6, v7, v8, v9, v10, v11, v12, v13, v14, v15] from (h.got 4 50 (hw2 ⟨4, .data⟩ (by simp) rfl) rfl))) (eval_G (show G fa 51 = .agg #[u0, u1, u2, u3, u4, u5] from (h.got 5 51 (hw2 ⟨5, .data⟩ (by simp) rfl) rfl))) callT10) (unhide K10 _ (bv (unhide HB) h.old)) (fun _ _ q => q)
        · rintro L fa wx h hcl hL hw2
          exact rl_call (R := fun v _ => v = told n) h (by decide) rfl rfl rfl (by decide) ((wanted_is (j := 2) (dj := 48) (b := true) (c := true) rfl rfl (by rw [h.size]; decide) (show G fa 48 = .bool true from (h.got 2 48 (hw2 ⟨2, .guard⟩ (by simp) rfl) rfl))).trans rfl) (run_call1 (eval_G (show G fa 52 = .int .i64 ((n : Nat) : Int) from (h.got 6 52 (hw2 ⟨6, .data⟩ (by simp) rfl) rfl))) callT9) (unhide K9 _) (fun _ _ q => q)
        · rintro L fa wx h hcl hL hw2
          exact rl_call (R := fun v _ => v = .bool true) h (by decide) rfl rfl rfl (by decide) ((wanted_is (j := 2) (dj := 48) (b := true) (c := true) rfl rfl (by rw [h.size]; decide) (show G fa 48 = .bool true from (h.got 2 48 (hw2 ⟨2, .guard⟩ (by simp) rfl) rfl))).trans rfl) (run_call2 (eval_G (show G fa 49 = told n from (h.got 3 49 (hw2 ⟨3, .data⟩ (by simp) rfl) rfl))) (eval_G (show G fa 53 = told n from (h.got 7 53 (hw2 ⟨7, .data⟩ (by simp) rfl) rfl))) callT8) (unhide K8 _) (fun _ _ q => q)
        · rintro L fa wx h hcl hL hw2
          exact rl_val h (by decide) rfl rfl rfl (by decide) rfl (run_pickT (eval_G (show G fa 48 = .bool true from (h.got 2 48 (hw2 ⟨2, .data⟩ (by simp) rfl) rfl))) (eval_G (show G fa 54 = .bool true from (h.got 8 54 (hw2 ⟨8, .data⟩ (by simp) rfl) rfl)))) rfl
        · rintro L fa wx h hcl hL hw2
          exact rl_val h (by decide) rfl rfl rfl (by decide) rfl (run_mv (eval_G (show G fa 55 = .bool true from (h.got 9 55 (hw2 ⟨9, .data⟩ (by simp) rfl) rfl)))) rfl
        · rintro L fa wx h hcl hL hw2
          exact rl_val h (by decide) rfl rfl rfl (by decide) ((wanted_is (j := 10) (dj := 56) (b := true) (c := true) rfl rfl (by rw [h.size]; decide) (show G fa 56 = .bool true from (h.got 10 56 (hw2 ⟨10, .guard⟩ (by simp) rfl) rfl))).trans rfl) (run_ldT (eval_G ((h.keep (s := 3) (by decide)).trans s3)) ((unhide XT).keep h.old (unhide XT).low)) rfl
        · rintro L fa wx h hcl hL hw2
          exact rl_val h (by decide) rfl rfl rfl (by decide) ((wanted_is (j := 10) (dj := 56) (b := true) (c := true) rfl rfl (by rw [h.size]; decide) (show G fa 56 = .bool true from (h.got 10 56 (hw2 ⟨10, .guard⟩ (by simp) rfl) rfl))).trans rfl) (run_ldTy (eval_G ((h.keep (s := 5) (by decide)).trans s5)) ((unhide XY).keep h.old (unhide XY).low)) rfl
        · rintro L fa wx h hcl hL hw2
          exact rl_call (R := fun v _ => v = .bool F) h (by decide) rfl rfl rfl (by decide) ((wanted_is (j := 10) (dj := 56) (b := true) (c := true) rfl rfl (by rw [h.size]; decide) (show G fa 56 = .bool true from (h.got 10 56 (hw2 ⟨10, .guard⟩ (by simp) rfl) rfl))).trans rfl) (run_call2 (eval_G (show G fa 57 = .agg #[v0, v1, v2, v3, v4, v5, v6, v7, v8, v9, v10, v11, v12, v13, v14, v15] from (h.got 11 57 (hw2 ⟨11, .data⟩ (by simp) rfl) rfl))) (eval_G (show G fa 58 = .agg #[.int .i64 ty, sv] from (h.got 12 58 (hw2 ⟨12, .data⟩ (by simp) rfl) rfl))) callT11) (unhide K11 _ (bv (unhide HB) h.old)) (fun _ _ q => q)
        · rintro L fa wx h hcl hL hw2
          exact rl_val h (by decide) rfl rfl rfl (by decide) ((wanted_is (j := 10) (dj := 56) (b := true) (c := true) rfl rfl (by rw [h.size]; decide) (show G fa 56 = .bool true from (h.got 10 56 (hw2 ⟨10, .guard⟩ (by simp) rfl) rfl))).trans rfl) (run_ldT (eval_G ((h.keep (s := 3) (by decide)).trans s3)) ((unhide XT).keep h.old (unhide XT).low)) rfl
        · rintro L fa wx h hcl hL hw2
          exact rl_val h (by decide) rfl rfl rfl (by decide) ((wanted_is (j := 10) (dj := 56) (b := true) (c := true) rfl rfl (by rw [h.size]; decide) (show G fa 56 = .bool true from (h.got 10 56 (hw2 ⟨10, .guard⟩ (by simp) rfl) rfl))).trans rfl) (run_ldTy (eval_G ((h.keep (s := 5) (by decide)).trans s5)) ((unhide XY).keep h.old (unhide XY).low)) rfl
        · rintro L fa wx h hcl hL hw2
          exact rl_call (R := fun v _ => v = .bool F) h (by decide) rfl rfl rfl (by decide) ((wanted_is (j := 10) (dj := 56) (b := true) (c := true) rfl rfl (by rw [h.size]; decide) (show G fa 56 = .bool true from (h.got 10 56 (hw2 ⟨10, .guard⟩ (by simp) rfl) rfl))).trans rfl) (run_call2 (eval_G (show G fa 60 = .agg #[v0, v1, v2, v3, v4, v5, v6, v7, v8, v9, v10, v11, v12, v13, v14, v15] from (h.got 14 60 (hw2 ⟨14, .data⟩ (by simp) rfl) rfl))) (eval_G (show G fa 61 = .agg #[.int .i64 ty, sv] from (h.got 15 61 (hw2 ⟨15, .data⟩ (by simp) rfl) rfl))) callT12) (unhide K12 _ (bv (unhide HB) h.old)) (fun _ _ q => q)
        · rintro L fa wx h hcl hL hw2
          exact rl_val h (by decide) rfl rfl rfl (by decide) ((wanted_is (j := 10) (dj := 56) (b := true) (c := true) rfl rfl (by rw [h.size]; decide) (show G fa 56 = .bool true from (h.got 10 56 (hw2 ⟨10, .guard⟩ (by simp) rfl) rfl))).trans rfl) (run_eqBB (eval_G (show G fa 59 = .bool F from (h.got 13 59 (hw2 ⟨13, .data⟩ (by simp) rfl) rfl))) (eval_G (show G fa 62 = .bool F from (h.got 16 62 (hw2 ⟨16, .data⟩ (by simp) rfl) rfl)))) rfl
        · rintro L fa wx h hcl hL hw2
          exact rl_val h (by decide) rfl rfl rfl (by decide) rfl (run_pickT (eval_G (show G fa 56 = .bool true from (h.got 10 56 (hw2 ⟨10, .data⟩ (by simp) rfl) rfl))) (eval_G (show G fa 63 = .bool true from (h.got 17 63 (hw2 ⟨17, .data⟩ (by simp) rfl) rfl)))) rfl
        · rintro L fa wx h hcl hL hw2
          exact rl_val h (by decide) rfl rfl rfl (by decide) rfl (run_asg (eval_G (show G fa 64 = .bool true from (h.got 18 64 (hw2 ⟨18, .data⟩ (by simp) rfl) rfl)))) rfl
      case done =>
        rintro L f1 w7 h hall
        have q6 : G f1 6 = .bool true := h.got 19 6 (hall 19 (by simp)) rfl
        have HN := hide (bv (unhide HB) h.old)
        replace hsz := h.size
        replace hdf := h.defs
        clear h hall hf0 s3 s4 s5 s7 s8 XT XV XY XA K8 K9 K10 K11 K12
        obtain ⟨g0, g1, g2, g3, g4, g5, g6, g7, g8, g9, g10, g11, g12, g13, g14, g15, g16, g17, g18, g19, g20, g21, g22, g23, g24, g25, g26, g27, g28, g29, g30, g31, g32, g33, g34, g35, g36, g37, g38, g39, g40, g41, g42, g43, g44, g45, g46, g47, g48, g49, g50, g51, g52, g53, g54, g55, g56, g57, g58, g59, g60, g61, g62, g63, g64, rfl, e3, e4, e5, e6, e15⟩ := frame_tt hsz hdf
        rw [q6] at e6
        clear e3 e4 e5 e15
        subst e6
        clear q6 hsz hdf f0
        go_wp2
        go_ret
        exact ⟨rfl, unhide HN⟩
    · have hF' : (F2 != 0) = true := by simp [hF]
      rw [if_neg hF] at KV
      clear K10' K11 K12 K8 K9
      go_wp2_with fail
      refine (unhide KV _ (unhide HB)).mono ?_
      rintro e w2 ⟨rfl, hb⟩
      have hb' := bv hb (vbelow_new w2 (.cells zeroB 26))
      have HB2 := hide (bv (unhide HB) hb')
      have XT2 := hide ((unhide XT).keep hb' (unhide XT).low)
      have XV2 := hide ((unhide XV).keep hb' (unhide XV).low)
      have XA2 := hide (Box.new (w := w2) (t := 26) (a0 := .int .i64 0) (a1 := .bool false) (a2 := .int .i64 0) (a3 := .int .i64 0) (a4 := .string ⟨#[]⟩) (a5 := .slice none 0 0))
      clear hb hb' KV HB XT XV XY x0 x1 x2 x3 x4 x5 x6 x7 x8 x9 x10 x11 x12 x13 x14 x15 z0 z1 z2 z3 z4 z5 hF
      obtain ⟨x0, x1, x2, x3, x4, x5, x6, x7, x8, x9, x10, x11, x12, x13, x14, x15⟩ := (unhide XT2).tell
      have C5 := hide (zr (unhide K5 _ (unhide HB2)))
      go_wp2_with fail
      refine (unhide C5).mono ?_
      rintro e w3 ⟨rfl, hb⟩
      have HB3 := hide (bv (unhide HB2) hb)
      have XV3 := hide ((unhide XV2).keep hb (unhide XV2).low)
      have XA3 := hide ((unhide XA2).keep hb (unhide XA2).low)
      clear hb C5 x0 x1 x2 x3 x4 x5 x6 x7 x8 x9 x10 x11 x12 x13 x14 x15 XT2 XV2 XA2 HB2 K5
      obtain ⟨z0, z1, z2, z3, z4, z5⟩ := (unhide XV3).tell
      go_wp2_with fail
      refine (unhide K7 _ (unhide HB3)).mono ?_
      rintro e w6 ⟨rfl, hb⟩
      have HB := hide (bv (unhide HB3) hb)
      obtain ⟨y0, y1, y2, y3, y4, y5⟩ := ((unhide XA3).keep hb (unhide XA3).low).tell
      clear hb XV3 XA3 HB3 K7 z0 z1 z2 z3 z4 z5
      go_wp2
      go_ret
      exact ⟨rfl, unhide HB⟩
  · have hW' : (W != 0) = true := by simp [hW]
    replace KW := hide (unhide KW hW)
    clear K10 K11 K12 K8 K9 KV K7 hW
    go_wp2_with fail
    refine (unhide KW _ (unhide HB)).mono ?_
    rintro e w2 ⟨rfl, hb⟩
    have hb' := bv hb (vbelow_new w2 (.cells zeroB 26))
    have HB2 := hide (bv (unhide HB) hb')
    have XT2 := hide ((unhide XT).keep hb' (unhide XT).low)
    have XA2 := hide (Box.new (w := w2) (t := 26) (a0 := .int .i64 0) (a1 := .bool false) (a2 := .int .i64 0) (a3 := .int .i64 0) (a4 := .string ⟨#[]⟩) (a5 := .slice none 0 0))
    clear hb hb' KW HB XT XV XY x0 x1 x2 x3 x4 x5 x6 x7 x8 x9 x10 x11 x12 x13 x14 x15 z0 z1 z2 z3 z4 z5
    obtain ⟨x0, x1, x2, x3, x4, x5, x6, x7, x8, x9, x10, x11, x12, x13, x14, x15⟩ := (unhide XT2).tell
    have C5 := hide (zr (unhide K5 _ (unhide HB2)))
    go_wp2_with fail
    refine (unhide C5).mono ?_
    rintro e w3 ⟨rfl, hb⟩
    have HB3 := hide (bv (unhide HB2) hb)
    obtain ⟨y0, y1, y2, y3, y4, y5⟩ := ((unhide XA2).keep hb (unhide XA2).low).tell
    clear hb C5 x0 x1 x2 x3 x4 x5 x6 x7 x8 x9 x10 x11 x12 x13 x14 x15 XT2 XA2 HB2 K5
    go_wp2
    go_ret
    exact ⟨rfl, unhide HB3⟩
end Go.Proofs.YtbdgngfpofohpaaDoor
