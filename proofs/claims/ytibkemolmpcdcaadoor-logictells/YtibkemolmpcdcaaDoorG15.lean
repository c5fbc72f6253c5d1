/- The walk over LogicTells. (Written by gen_tw.py.) -/
import Derived.Test.YtibkemolmpcdcaaDoorG02
import Derived.Test.YtibkemolmpcdcaaDoorG12
import Derived.Test.YtibkemolmpcdcaaDoorG14
import Derived.Test.YtibkemolmpcdcaaDoorG13
import Derived.Test.YtibkemolmpcdcaaDoorG10
namespace Go.Proofs.YtibkemolmpcdcaaDoor
open Go.RowKit

theorem call4 (zs : Array Value) (w : World) : Sem.run Tryd.prog (callFunc 4 zs) w = .ok (.enter 4 zs) w := by simp [go_sem]
theorem call5 (zs : Array Value) (w : World) : Sem.run Tryd.prog (callFunc 5 zs) w = .ok (.enter 5 zs) w := by simp [go_sem]
theorem call6 (zs : Array Value) (w : World) : Sem.run Tryd.prog (callFunc 6 zs) w = .ok (.enter 6 zs) w := by simp [go_sem]
theorem call7 (zs : Array Value) (w : World) : Sem.run Tryd.prog (callFunc 7 zs) w = .ok (.enter 7 zs) w := by simp [go_sem]
theorem call8 (zs : Array Value) (w : World) : Sem.run Tryd.prog (callFunc 8 zs) w = .ok (.enter 8 zs) w := by simp [go_sem]
theorem call9 (zs : Array Value) (w : World) : Sem.run Tryd.prog (callFunc 9 zs) w = .ok (.enter 9 zs) w := by simp [go_sem]
theorem call10 (zs : Array Value) (w : World) : Sem.run Tryd.prog (callFunc 10 zs) w = .ok (.enter 10 zs) w := by simp [go_sem]
theorem call11 (zs : Array Value) (w : World) : Sem.run Tryd.prog (callFunc 11 zs) w = .ok (.enter 11 zs) w := by simp [go_sem]
theorem call12 (zs : Array Value) (w : World) : Sem.run Tryd.prog (callFunc 12 zs) w = .ok (.enter 12 zs) w := by simp [go_sem]
theorem call13 (zs : Array Value) (w : World) : Sem.run Tryd.prog (callFunc 13 zs) w = .ok (.enter 13 zs) w := by simp [go_sem]
theorem call14 (zs : Array Value) (w : World) : Sem.run Tryd.prog (callFunc 14 zs) w = .ok (.enter 14 zs) w := by simp [go_sem]
theorem call15 (zs : Array Value) (w : World) : Sem.run Tryd.prog (callFunc 15 zs) w = .ok (.enter 15 zs) w := by simp [go_sem]
theorem call16 (zs : Array Value) (w : World) : Sem.run Tryd.prog (callFunc 16 zs) w = .ok (.enter 16 zs) w := by simp [go_sem]
theorem call17 (zs : Array Value) (w : World) : Sem.run Tryd.prog (callFunc 17 zs) w = .ok (.enter 17 zs) w := by simp [go_sem]
theorem ex_r {n : Nat} {args : Array Value} {w : World} {v : Value} (h : Calls Tryd.prog n args w fun e w' => e = .returned v ∧ Below w.heap.size w w') : Calls Tryd.prog n args w fun e w' => ∃ u, e = .returned u ∧ u = v ∧ Below w.heap.size w w' :=
  h.mono fun _ _ q => ⟨v, q.1, rfl, q.2⟩
theorem un_r {n : Nat} {args : Array Value} {w : World} {v : Value} (h : Calls Tryd.prog n args w fun e w' => ∃ u, e = .returned u ∧ u = v ∧ Below w.heap.size w w') : Calls Tryd.prog n args w fun e w' => e = .returned v ∧ Below w.heap.size w w' :=
  h.mono fun _ _ ⟨_, q1, q2, q3⟩ => ⟨q2 ▸ q1, q3⟩

set_option maxRecDepth 100000 in
theorem frame_ex64 {a : Act} (hs : a.tmps.size = 64) (hd : a.defers = []) :
    ∃ u0 u1 u2 u3 u4 u5 u6 u7 u8 u9 u10 u11 u12 u13 u14 u15 u16 u17 u18 u19 u20 u21 u22 u23 u24 u25 u26 u27 u28 u29 u30 u31 u32 u33 u34 u35 u36 u37 u38 u39 u40 u41 u42 u43 u44 u45 u46 u47 u48 u49 u50 u51 u52 u53 u54 u55 u56 u57 u58 u59 u60 u61 u62 u63 : Value, a = { tmps := #[u0, u1, u2, u3, u4, u5, u6, u7, u8, u9, u10, u11, u12, u13, u14, u15, u16, u17, u18, u19, u20, u21, u22, u23, u24, u25, u26, u27, u28, u29, u30, u31, u32, u33, u34, u35, u36, u37, u38, u39, u40, u41, u42, u43, u44, u45, u46, u47, u48, u49, u50, u51, u52, u53, u54, u55, u56, u57, u58, u59, u60, u61, u62, u63], defers := [] } ∧ u2 = G a 2 ∧ u3 = G a 3 ∧ u4 = G a 4 ∧ u37 = G a 37 := by
  have e : a = { tmps := #[G a 0, G a 1, G a 2, G a 3, G a 4, G a 5, G a 6, G a 7, G a 8, G a 9, G a 10, G a 11, G a 12, G a 13, G a 14, G a 15, G a 16, G a 17, G a 18, G a 19, G a 20, G a 21, G a 22, G a 23, G a 24, G a 25, G a 26, G a 27, G a 28, G a 29, G a 30, G a 31, G a 32, G a 33, G a 34, G a 35, G a 36, G a 37, G a 38, G a 39, G a 40, G a 41, G a 42, G a 43, G a 44, G a 45, G a 46, G a 47, G a 48, G a 49, G a 50, G a 51, G a 52, G a 53, G a 54, G a 55, G a 56, G a 57, G a 58, G a 59, G a 60, G a 61, G a 62, G a 63], defers := [] } := frame_is hs hd
  exact ⟨_, _, _, _, _, _, _, _, _, _, _, _, _, _, _, _, _, _, _, _, _, _, _, _, _, _, _, _, _, _, _, _, _, _, _, _, _, _, _, _, _, _, _, _, _, _, _, _, _, _, _, _, _, _, _, _, _, _, _, _, _, _, _, _, e, rfl, rfl, rfl, rfl⟩

set_option maxRecDepth 100000 in
set_option maxHeartbeats 20000000 in
theorem tells_all (k1 : Int) (y1 : Bool) (c1 x1 : Int) (t1 : ByteArray) (l1 : Option Addr) (n1 p1 : Nat) (k2 : Int) (y2 : Bool) (c2 x2 : Int) (t2 : ByteArray) (l2 : Option Addr) (n2 p2 : Nat) (w wB : World) (hwB : (w.alloc (.cells #[.int .i64 k1, .bool y1, .int .i64 c1, .int .i64 x1, .string t1, .slice l1 n1 p1] 26)).alloc (.cells #[.int .i64 k2, .bool y2, .int .i64 c2, .int .i64 x2, .string t2, .slice l2 n2 p2] 26) = wB)
    (BA : Hid (Box wB w.heap.size #[.int .i64 k1, .bool y1, .int .i64 c1, .int .i64 x1, .string t1, .slice l1 n1 p1])) (BB : Hid (Box wB (w.heap.size + 1) #[.int .i64 k2, .bool y2, .int .i64 c2, .int .i64 x2, .string t2, .slice l2 n2 p2])) (NB : Hid (Below w.heap.size w wB)) (W1 W2 : Int) (mA mO mN mE mL : Nat) (KS : Hid (∀ (m : Nat) wx, Below wB.heap.size wB wx → Calls Tryd.prog 6 #[told m, told m] wx fun e w' => ∃ v, e = .returned v ∧ v = .bool true ∧ Below wx.heap.size wx w'))
    (K4 : Hid (∀ wx, Below wB.heap.size wB wx → Calls Tryd.prog 4 #[.agg #[.int .i64 k1, .bool y1, .int .i64 c1, .int .i64 x1, .string t1, .slice l1 n1 p1]] wx fun e w' => ∃ v, e = .returned v ∧ v = .int .i64 W1 ∧ Below wx.heap.size wx w'))
    (K5 : Hid (∀ wx, Below wB.heap.size wB wx → Calls Tryd.prog 5 #[.agg #[.int .i64 k1, .bool y1, .int .i64 c1, .int .i64 x1, .string t1, .slice l1 n1 p1]] wx fun e w' => ∃ v, e = .returned v ∧ v = .int .i64 W1 ∧ Below wx.heap.size wx w'))
    (K5b : Hid (∀ wx, Below wB.heap.size wB wx → Calls Tryd.prog 5 #[.agg #[.int .i64 k2, .bool y2, .int .i64 c2, .int .i64 x2, .string t2, .slice l2 n2 p2]] wx fun e w' => ∃ v, e = .returned v ∧ v = .int .i64 W2 ∧ Below wx.heap.size wx w'))
    (K7 : Hid (∀ wx, Below wB.heap.size wB wx → Calls Tryd.prog 7 #[.agg #[.int .i64 k1, .bool y1, .int .i64 c1, .int .i64 x1, .string t1, .slice l1 n1 p1], .agg #[.int .i64 k2, .bool y2, .int .i64 c2, .int .i64 x2, .string t2, .slice l2 n2 p2]] wx fun e w' => ∃ v, e = .returned v ∧ v = told mA ∧ Below wx.heap.size wx w'))
    (K8 : Hid (∀ wx, Below wB.heap.size wB wx → Calls Tryd.prog 8 #[.agg #[.int .i64 k1, .bool y1, .int .i64 c1, .int .i64 x1, .string t1, .slice l1 n1 p1], .agg #[.int .i64 k2, .bool y2, .int .i64 c2, .int .i64 x2, .string t2, .slice l2 n2 p2]] wx fun e w' => ∃ v, e = .returned v ∧ v = told mA ∧ Below wx.heap.size wx w'))
    (K9 : Hid (∀ wx, Below wB.heap.size wB wx → Calls Tryd.prog 9 #[.agg #[.int .i64 k1, .bool y1, .int .i64 c1, .int .i64 x1, .string t1, .slice l1 n1 p1], .agg #[.int .i64 k2, .bool y2, .int .i64 c2, .int .i64 x2, .string t2, .slice l2 n2 p2]] wx fun e w' => ∃ v, e = .returned v ∧ v = told mO ∧ Below wx.heap.size wx w'))
    (K10 : Hid (∀ wx, Below wB.heap.size wB wx → Calls Tryd.prog 10 #[.agg #[.int .i64 k1, .bool y1, .int .i64 c1, .int .i64 x1, .string t1, .slice l1 n1 p1], .agg #[.int .i64 k2, .bool y2, .int .i64 c2, .int .i64 x2, .string t2, .slice l2 n2 p2]] wx fun e w' => ∃ v, e = .returned v ∧ v = told mO ∧ Below wx.heap.size wx w'))
    (K11 : Hid (∀ wx, Below wB.heap.size wB wx → Calls Tryd.prog 11 #[.agg #[.int .i64 k1, .bool y1, .int .i64 c1, .int .i64 x1, .string t1, .slice l1 n1 p1]] wx fun e w' => ∃ v, e = .returned v ∧ v = told mN ∧ Below wx.heap.size wx w'))
    (K12 : Hid (∀ wx, Below wB.heap.size wB wx → Calls Tryd.prog 12 #[.agg #[.int .i64 k1, .bool y1, .int .i64 c1, .int .i64 x1, .string t1, .slice l1 n1 p1]] wx fun e w' => ∃ v, e = .returned v ∧ v = told mN ∧ Below wx.heap.size wx w'))
    (REST : Hid (W1 = 0 → W2 = 0 → (Hid (∀ wx, Below wB.heap.size wB wx → Calls Tryd.prog 13 #[.agg #[.int .i64 k1, .bool y1, .int .i64 c1, .int .i64 x1, .string t1, .slice l1 n1 p1], .agg #[.int .i64 k2, .bool y2, .int .i64 c2, .int .i64 x2, .string t2, .slice l2 n2 p2]] wx fun e w' => ∃ v, e = .returned v ∧ v = told mE ∧ Below wx.heap.size wx w')) ∧ (Hid (∀ wx, Below wB.heap.size wB wx → Calls Tryd.prog 15 #[.agg #[.int .i64 k1, .bool y1, .int .i64 c1, .int .i64 x1, .string t1, .slice l1 n1 p1], .agg #[.int .i64 k2, .bool y2, .int .i64 c2, .int .i64 x2, .string t2, .slice l2 n2 p2]] wx fun e w' => ∃ v, e = .returned v ∧ v = .int .i64 (mE : Int) ∧ Below wx.heap.size wx w')) ∧ (Hid (∀ wx, Below wB.heap.size wB wx → Calls Tryd.prog 16 #[.agg #[.int .i64 k1, .bool y1, .int .i64 c1, .int .i64 x1, .string t1, .slice l1 n1 p1], .agg #[.int .i64 k2, .bool y2, .int .i64 c2, .int .i64 x2, .string t2, .slice l2 n2 p2]] wx fun e w' => ∃ v, e = .returned v ∧ v = told mL ∧ Below wx.heap.size wx w')) ∧ (Hid (∀ wx, Below wB.heap.size wB wx → Calls Tryd.prog 17 #[.agg #[.int .i64 k1, .bool y1, .int .i64 c1, .int .i64 x1, .string t1, .slice l1 n1 p1], .agg #[.int .i64 k2, .bool y2, .int .i64 c2, .int .i64 x2, .string t2, .slice l2 n2 p2]] wx fun e w' => ∃ v, e = .returned v ∧ v = .int .i64 (mL : Int) ∧ Below wx.heap.size wx w'))))
    (KOE : Hid (∀ wx, Below wB.heap.size wB wx → Calls Tryd.prog 14 #[.int .i64 (mE : Int)] wx fun e w' => ∃ v, e = .returned v ∧ v = told mE ∧ Below wx.heap.size wx w'))
    (KOL : Hid (∀ wx, Below wB.heap.size wB wx → Calls Tryd.prog 14 #[.int .i64 (mL : Int)] wx fun e w' => ∃ v, e = .returned v ∧ v = told mL ∧ Below wx.heap.size wx w')) :
    Calls Tryd.prog 3 #[.agg #[.int .i64 k1, .bool y1, .int .i64 c1, .int .i64 x1, .string t1, .slice l1 n1 p1], .agg #[.int .i64 k2, .bool y2, .int .i64 c2, .int .i64 x2, .string t2, .slice l2 n2 p2]] w fun e w' => e = .returned (.bool true) ∧ Below w.heap.size w w' := by
  go_enter Tryd.func3, Tryd.ntmps3
  go_upto_region 1 with fail
  clear hwB
  refine frame_name ?_
  intro f0 hf0
  have s2 : G f0 2 = .pointer (some ⟨w.heap.size, 0, none⟩) := by rw [hf0]; rfl
  have s3 : G f0 3 = .pointer (some ⟨w.heap.size + 1, 0, none⟩) := by rw [hf0]; rfl
  have hsz : f0.tmps.size = 64 := by rw [hf0]; rfl
  have hdf : f0.defers = [] := by rw [hf0]
  refine region_any (I := RL wB f0 64 [5, 6, 7, 8, 9, 10, 11, 12, 13, 14, 15, 16, 17, 18, 19, 20, 21, 22, 23, 24, 25, 26, 27, 28, 29, 30, 31, 32, 33, 34, 35, 36, 37] [.lit (.agg #[.int .i64 k1, .bool y1, .int .i64 c1, .int .i64 x1, .string t1, .slice l1 n1 p1]), .lit (.int .i64 W1), .lit (.agg #[.int .i64 k1, .bool y1, .int .i64 c1, .int .i64 x1, .string t1, .slice l1 n1 p1]), .lit (.int .i64 W1), .lit (.bool false), .lit (.bool false), .lit (.agg #[.int .i64 k1, .bool y1, .int .i64 c1, .int .i64 x1, .string t1, .slice l1 n1 p1]), .lit (.agg #[.int .i64 k2, .bool y2, .int .i64 c2, .int .i64 x2, .string t2, .slice l2 n2 p2]), .lit (told mA), .lit (.agg #[.int .i64 k1, .bool y1, .int .i64 c1, .int .i64 x1, .string t1, .slice l1 n1 p1]), .lit (.agg #[.int .i64 k2, .bool y2, .int .i64 c2, .int .i64 x2, .string t2, .slice l2 n2 p2]), .lit (told mA), .lit (.bool true), .lit (.bool false), .lit (.bool false), .lit (.bool false), .lit (.agg #[.int .i64 k1, .bool y1, .int .i64 c1, .int .i64 x1, .string t1, .slice l1 n1 p1]), .lit (.agg #[.int .i64 k2, .bool y2, .int .i64 c2, .int .i64 x2, .string t2, .slice l2 n2 p2]), .lit (told mO), .lit (.agg #[.int .i64 k1, .bool y1, .int .i64 c1, .int .i64 x1, .string t1, .slice l1 n1 p1]), .lit (.agg #[.int .i64 k2, .bool y2, .int .i64 c2, .int .i64 x2, .string t2, .slice l2 n2 p2]), .lit (told mO), .lit (.bool true), .lit (.bool false), .lit (.bool false), .lit (.bool false), .lit (.agg #[.int .i64 k1, .bool y1, .int .i64 c1, .int .i64 x1, .string t1, .slice l1 n1 p1]), .lit (told mN), .lit (.agg #[.int .i64 k1, .bool y1, .int .i64 c1, .int .i64 x1, .string t1, .slice l1 n1 p1]), .lit (told mN), .lit (.bool true), .lit (.bool false), .lit (.bool false)]) (by kernel_rfl) ?wait ?step ?done ?start
  case wait => exact ⟨by simp, by simp, by simp, by simp, by simp, by simp, by simp, by simp, by simp, by simp, by simp, by simp, by simp, by simp, by simp, by simp, by simp, by simp, by simp, by simp, by simp, by simp, by simp, by simp, by simp, by simp, by simp, by simp, by simp, by simp, by simp, by simp, by simp, trivial⟩
  case start => exact RI.start hsz hdf ((Below.refl _ _).drew)
  case step =>
    refine ⟨?_, ?_, ?_, ?_, ?_, ?_, ?_, ?_, ?_, ?_, ?_, ?_, ?_, ?_, ?_, ?_, ?_, ?_, ?_, ?_, ?_, ?_, ?_, ?_, ?_, ?_, ?_, ?_, ?_, ?_, ?_, ?_, ?_, trivial⟩
    · rintro L fa wx h hcl hL hw2
      exact rl_val h (by decide) rfl rfl rfl (by decide) rfl (run_ldX (eval_G ((h.keep (s := 2) (by decide)).trans s2)) ((unhide BA).keep h.old (unhide BA).low)) rfl
    · rintro L fa wx h hcl hL hw2
      exact rl_call (R := fun v _ => v = .int .i64 W1) h (by decide) rfl rfl rfl (by decide) rfl (run_call1 (eval_G (show G fa 5 = .agg #[.int .i64 k1, .bool y1, .int .i64 c1, .int .i64 x1, .string t1, .slice l1 n1 p1] from (h.got 0 5 (hw2 ⟨0, .data⟩ (by simp) rfl) rfl))) call4) (unhide K4 wx h.old) (fun _ _ q => q)
    · rintro L fa wx h hcl hL hw2
      exact rl_val h (by decide) rfl rfl rfl (by decide) rfl (run_ldX (eval_G ((h.keep (s := 2) (by decide)).trans s2)) ((unhide BA).keep h.old (unhide BA).low)) rfl
    · rintro L fa wx h hcl hL hw2
      exact rl_call (R := fun v _ => v = .int .i64 W1) h (by decide) rfl rfl rfl (by decide) rfl (run_call1 (eval_G (show G fa 7 = .agg #[.int .i64 k1, .bool y1, .int .i64 c1, .int .i64 x1, .string t1, .slice l1 n1 p1] from (h.got 2 7 (hw2 ⟨2, .data⟩ (by simp) rfl) rfl))) call5) (unhide K5 wx h.old) (fun _ _ q => q)
    · rintro L fa wx h hcl hL hw2
      exact rl_val h (by decide) rfl rfl rfl (by decide) rfl (run_neI (eval_G (show G fa 6 = .int .i64 W1 from (h.got 1 6 (hw2 ⟨1, .data⟩ (by simp) rfl) rfl))) (eval_G (show G fa 8 = .int .i64 W1 from (h.got 3 8 (hw2 ⟨3, .data⟩ (by simp) rfl) rfl))) (by simp)) rfl
    · rintro L fa wx h hcl hL hw2
      exact rl_val h (by decide) rfl rfl rfl (by decide) rfl (run_mv (eval_G (show G fa 9 = .bool false from (h.got 4 9 (hw2 ⟨4, .data⟩ (by simp) rfl) rfl)))) rfl
    · rintro L fa wx h hcl hL hw2
      exact rl_val h (by decide) rfl rfl rfl (by decide) ((wanted_is (j := 5) (dj := 10) (b := false) (c := false) rfl rfl (by rw [h.size]; decide) (show G fa 10 = .bool false from (h.got 5 10 (hw2 ⟨5, .guard⟩ (by simp) rfl) rfl))).trans rfl) (run_ldX (eval_G ((h.keep (s := 2) (by decide)).trans s2)) ((unhide BA).keep h.old (unhide BA).low)) rfl
    · rintro L fa wx h hcl hL hw2
      exact rl_val h (by decide) rfl rfl rfl (by decide) ((wanted_is (j := 5) (dj := 10) (b := false) (c := false) rfl rfl (by rw [h.size]; decide) (show G fa 10 = .bool false from (h.got 5 10 (hw2 ⟨5, .guard⟩ (by simp) rfl) rfl))).trans rfl) (run_ldX (eval_G ((h.keep (s := 3) (by decide)).trans s3)) ((unhide BB).keep h.old (unhide BB).low)) rfl
    · rintro L fa wx h hcl hL hw2
      exact rl_call (R := fun v _ => v = told mA) h (by decide) rfl rfl rfl (by decide) ((wanted_is (j := 5) (dj := 10) (b := false) (c := false) rfl rfl (by rw [h.size]; decide) (show G fa 10 = .bool false from (h.got 5 10 (hw2 ⟨5, .guard⟩ (by simp) rfl) rfl))).trans rfl) (run_call2 (eval_G (show G fa 11 = .agg #[.int .i64 k1, .bool y1, .int .i64 c1, .int .i64 x1, .string t1, .slice l1 n1 p1] from (h.got 6 11 (hw2 ⟨6, .data⟩ (by simp) rfl) rfl))) (eval_G (show G fa 12 = .agg #[.int .i64 k2, .bool y2, .int .i64 c2, .int .i64 x2, .string t2, .slice l2 n2 p2] from (h.got 7 12 (hw2 ⟨7, .data⟩ (by simp) rfl) rfl))) call7) (unhide K7 wx h.old) (fun _ _ q => q)
    · rintro L fa wx h hcl hL hw2
      exact rl_val h (by decide) rfl rfl rfl (by decide) ((wanted_is (j := 5) (dj := 10) (b := false) (c := false) rfl rfl (by rw [h.size]; decide) (show G fa 10 = .bool false from (h.got 5 10 (hw2 ⟨5, .guard⟩ (by simp) rfl) rfl))).trans rfl) (run_ldX (eval_G ((h.keep (s := 2) (by decide)).trans s2)) ((unhide BA).keep h.old (unhide BA).low)) rfl
    · rintro L fa wx h hcl hL hw2
      exact rl_val h (by decide) rfl rfl rfl (by decide) ((wanted_is (j := 5) (dj := 10) (b := false) (c := false) rfl rfl (by rw [h.size]; decide) (show G fa 10 = .bool false from (h.got 5 10 (hw2 ⟨5, .guard⟩ (by simp) rfl) rfl))).trans rfl) (run_ldX (eval_G ((h.keep (s := 3) (by decide)).trans s3)) ((unhide BB).keep h.old (unhide BB).low)) rfl
    · rintro L fa wx h hcl hL hw2
      exact rl_call (R := fun v _ => v = told mA) h (by decide) rfl rfl rfl (by decide) ((wanted_is (j := 5) (dj := 10) (b := false) (c := false) rfl rfl (by rw [h.size]; decide) (show G fa 10 = .bool false from (h.got 5 10 (hw2 ⟨5, .guard⟩ (by simp) rfl) rfl))).trans rfl) (run_call2 (eval_G (show G fa 14 = .agg #[.int .i64 k1, .bool y1, .int .i64 c1, .int .i64 x1, .string t1, .slice l1 n1 p1] from (h.got 9 14 (hw2 ⟨9, .data⟩ (by simp) rfl) rfl))) (eval_G (show G fa 15 = .agg #[.int .i64 k2, .bool y2, .int .i64 c2, .int .i64 x2, .string t2, .slice l2 n2 p2] from (h.got 10 15 (hw2 ⟨10, .data⟩ (by simp) rfl) rfl))) call8) (unhide K8 wx h.old) (fun _ _ q => q)
    · rintro L fa wx h hcl hL hw2
      exact rl_call (R := fun v _ => v = .bool true) h (by decide) rfl rfl rfl (by decide) ((wanted_is (j := 5) (dj := 10) (b := false) (c := false) rfl rfl (by rw [h.size]; decide) (show G fa 10 = .bool false from (h.got 5 10 (hw2 ⟨5, .guard⟩ (by simp) rfl) rfl))).trans rfl) (run_call2 (eval_G (show G fa 13 = told mA from (h.got 8 13 (hw2 ⟨8, .data⟩ (by simp) rfl) rfl))) (eval_G (show G fa 16 = told mA from (h.got 11 16 (hw2 ⟨11, .data⟩ (by simp) rfl) rfl))) call6) (unhide KS mA wx h.old) (fun _ _ q => q)
    · rintro L fa wx h hcl hL hw2
      exact rl_val h (by decide) rfl rfl rfl (by decide) ((wanted_is (j := 5) (dj := 10) (b := false) (c := false) rfl rfl (by rw [h.size]; decide) (show G fa 10 = .bool false from (h.got 5 10 (hw2 ⟨5, .guard⟩ (by simp) rfl) rfl))).trans rfl) (run_not (eval_G (show G fa 17 = .bool true from (h.got 12 17 (hw2 ⟨12, .data⟩ (by simp) rfl) rfl)))) rfl
    · rintro L fa wx h hcl hL hw2
      exact rl_val h (by decide) rfl rfl rfl (by decide) rfl (run_pickF (eval_G (show G fa 10 = .bool false from (h.got 5 10 (hw2 ⟨5, .data⟩ (by simp) rfl) rfl))) (eval_G (show G fa 18 = .bool false from (h.got 13 18 (hw2 ⟨13, .data⟩ (by simp) rfl) rfl)))) rfl
    · rintro L fa wx h hcl hL hw2
      exact rl_val h (by decide) rfl rfl rfl (by decide) rfl (run_mv (eval_G (show G fa 19 = .bool false from (h.got 14 19 (hw2 ⟨14, .data⟩ (by simp) rfl) rfl)))) rfl
    · rintro L fa wx h hcl hL hw2
      exact rl_val h (by decide) rfl rfl rfl (by decide) ((wanted_is (j := 15) (dj := 20) (b := false) (c := false) rfl rfl (by rw [h.size]; decide) (show G fa 20 = .bool false from (h.got 15 20 (hw2 ⟨15, .guard⟩ (by simp) rfl) rfl))).trans rfl) (run_ldX (eval_G ((h.keep (s := 2) (by decide)).trans s2)) ((unhide BA).keep h.old (unhide BA).low)) rfl
    · rintro L fa wx h hcl hL hw2
      exact rl_val h (by decide) rfl rfl rfl (by decide) ((wanted_is (j := 15) (dj := 20) (b := false) (c := false) rfl rfl (by rw [h.size]; decide) (show G fa 20 = .bool false from (h.got 15 20 (hw2 ⟨15, .guard⟩ (by simp) rfl) rfl))).trans rfl) (run_ldX (eval_G ((h.keep (s := 3) (by decide)).trans s3)) ((unhide BB).keep h.old (unhide BB).low)) rfl
    · rintro L fa wx h hcl hL hw2
      exact rl_call (R := fun v _ => v = told mO) h (by decide) rfl rfl rfl (by decide) ((wanted_is (j := 15) (dj := 20) (b := false) (c := false) rfl rfl (by rw [h.size]; decide) (show G fa 20 = .bool false from (h.got 15 20 (hw2 ⟨15, .guard⟩ (by simp) rfl) rfl))).trans rfl) (run_call2 (eval_G (show G fa 21 = .agg #[.int .i64 k1, .bool y1, .int .i64 c1, .int .i64 x1, .string t1, .slice l1 n1 p1] from (h.got 16 21 (hw2 ⟨16, .data⟩ (by simp) rfl) rfl))) (eval_G (show G fa 22 = .agg #[.int .i64 k2, .bool y2, .int .i64 c2, .int .i64 x2, .string t2, .slice l2 n2 p2] from (h.got 17 22 (hw2 ⟨17, .data⟩ (by simp) rfl) rfl))) call9) (unhide K9 wx h.old) (fun _ _ q => q)
    · rintro L fa wx h hcl hL hw2
      exact rl_val h (by decide) rfl rfl rfl (by decide) ((wanted_is (j := 15) (dj := 20) (b := false) (c := false) rfl rfl (by rw [h.size]; decide) (show G fa 20 = .bool false from (h.got 15 20 (hw2 ⟨15, .guard⟩ (by simp) rfl) rfl))).trans rfl) (run_ldX (eval_G ((h.keep (s := 2) (by decide)).trans s2)) ((unhide BA).keep h.old (unhide BA).low)) rfl
    · rintro L fa wx h hcl hL hw2
      exact rl_val h (by decide) rfl rfl rfl (by decide) ((wanted_is (j := 15) (dj := 20) (b := false) (c := false) rfl rfl (by rw [h.size]; decide) (show G fa 20 = .bool false from (h.got 15 20 (hw2 ⟨15, .guard⟩ (by simp) rfl) rfl))).trans rfl) (run_ldX (eval_G ((h.keep (s := 3) (by decide)).trans s3)) ((unhide BB).keep h.old (unhide BB).low)) rfl
    · rintro L fa wx h hcl hL hw2
      exact rl_call (R := fun v _ => v = told mO) h (by decide) rfl rfl rfl (by decide) ((wanted_is (j := 15) (dj := 20) (b := false) (c := false) rfl rfl (by rw [h.size]; decide) (show G fa 20 = .bool false from (h.got 15 20 (hw2 ⟨15, .guard⟩ (by simp) rfl) rfl))).trans rfl) (run_call2 (eval_G (show G fa 24 = .agg #[.int .i64 k1, .bool y1, .int .i64 c1, .int .i64 x1, .string t1, .slice l1 n1 p1] from (h.got 19 24 (hw2 ⟨19, .data⟩ (by simp) rfl) rfl))) (eval_G (show G fa 25 = .agg #[.int .i64 k2, .bool y2, .int .i64 c2, .int .i64 x2, .string t2, .slice l2 n2 p2] from (h.got 20 25 (hw2 ⟨20, .data⟩ (by simp) rfl) rfl))) call10) (unhide K10 wx h.old) (fun _ _ q => q)
    · rintro L fa wx h hcl hL hw2
      exact rl_call (R := fun v _ => v = .bool true) h (by decide) rfl rfl rfl (by decide) ((wanted_is (j := 15) (dj := 20) (b := false) (c := false) rfl rfl (by rw [h.size]; decide) (show G fa 20 = .bool false from (h.got 15 20 (hw2 ⟨15, .guard⟩ (by simp) rfl) rfl))).trans rfl) (run_call2 (eval_G (show G fa 23 = told mO from (h.got 18 23 (hw2 ⟨18, .data⟩ (by simp) rfl) rfl))) (eval_G (show G fa 26 = told mO from (h.got 21 26 (hw2 ⟨21, .data⟩ (by simp) rfl) rfl))) call6) (unhide KS mO wx h.old) (fun _ _ q => q)
    · rintro L fa wx h hcl hL hw2
      exact rl_val h (by decide) rfl rfl rfl (by decide) ((wanted_is (j := 15) (dj := 20) (b := false) (c := false) rfl rfl (by rw [h.size]; decide) (show G fa 20 = .bool false from (h.got 15 20 (hw2 ⟨15, .guard⟩ (by simp) rfl) rfl))).trans rfl) (run_not (eval_G (show G fa 27 = .bool true from (h.got 22 27 (hw2 ⟨22, .data⟩ (by simp) rfl) rfl)))) rfl
    · rintro L fa wx h hcl hL hw2
      exact rl_val h (by decide) rfl rfl rfl (by decide) rfl (run_pickF (eval_G (show G fa 20 = .bool false from (h.got 15 20 (hw2 ⟨15, .data⟩ (by simp) rfl) rfl))) (eval_G (show G fa 28 = .bool false from (h.got 23 28 (hw2 ⟨23, .data⟩ (by simp) rfl) rfl)))) rfl
    · rintro L fa wx h hcl hL hw2
      exact rl_val h (by decide) rfl rfl rfl (by decide) rfl (run_mv (eval_G (show G fa 29 = .bool false from (h.got 24 29 (hw2 ⟨24, .data⟩ (by simp) rfl) rfl)))) rfl
    · rintro L fa wx h hcl hL hw2
      exact rl_val h (by decide) rfl rfl rfl (by decide) ((wanted_is (j := 25) (dj := 30) (b := false) (c := false) rfl rfl (by rw [h.size]; decide) (show G fa 30 = .bool false from (h.got 25 30 (hw2 ⟨25, .guard⟩ (by simp) rfl) rfl))).trans rfl) (run_ldX (eval_G ((h.keep (s := 2) (by decide)).trans s2)) ((unhide BA).keep h.old (unhide BA).low)) rfl
    · rintro L fa wx h hcl hL hw2
      exact rl_call (R := fun v _ => v = told mN) h (by decide) rfl rfl rfl (by decide) ((wanted_is (j := 25) (dj := 30) (b := false) (c := false) rfl rfl (by rw [h.size]; decide) (show G fa 30 = .bool false from (h.got 25 30 (hw2 ⟨25, .guard⟩ (by simp) rfl) rfl))).trans rfl) (run_call1 (eval_G (show G fa 31 = .agg #[.int .i64 k1, .bool y1, .int .i64 c1, .int .i64 x1, .string t1, .slice l1 n1 p1] from (h.got 26 31 (hw2 ⟨26, .data⟩ (by simp) rfl) rfl))) call11) (unhide K11 wx h.old) (fun _ _ q => q)
    · rintro L fa wx h hcl hL hw2
      exact rl_val h (by decide) rfl rfl rfl (by decide) ((wanted_is (j := 25) (dj := 30) (b := false) (c := false) rfl rfl (by rw [h.size]; decide) (show G fa 30 = .bool false from (h.got 25 30 (hw2 ⟨25, .guard⟩ (by simp) rfl) rfl))).trans rfl) (run_ldX (eval_G ((h.keep (s := 2) (by decide)).trans s2)) ((unhide BA).keep h.old (unhide BA).low)) rfl
    · rintro L fa wx h hcl hL hw2
      exact rl_call (R := fun v _ => v = told mN) h (by decide) rfl rfl rfl (by decide) ((wanted_is (j := 25) (dj := 30) (b := false) (c := false) rfl rfl (by rw [h.size]; decide) (show G fa 30 = .bool false from (h.got 25 30 (hw2 ⟨25, .guard⟩ (by simp) rfl) rfl))).trans rfl) (run_call1 (eval_G (show G fa 33 = .agg #[.int .i64 k1, .bool y1, .int .i64 c1, .int .i64 x1, .string t1, .slice l1 n1 p1] from (h.got 28 33 (hw2 ⟨28, .data⟩ (by simp) rfl) rfl))) call12) (unhide K12 wx h.old) (fun _ _ q => q)
    · rintro L fa wx h hcl hL hw2
      exact rl_call (R := fun v _ => v = .bool true) h (by decide) rfl rfl rfl (by decide) ((wanted_is (j := 25) (dj := 30) (b := false) (c := false) rfl rfl (by rw [h.size]; decide) (show G fa 30 = .bool false from (h.got 25 30 (hw2 ⟨25, .guard⟩ (by simp) rfl) rfl))).trans rfl) (run_call2 (eval_G (show G fa 32 = told mN from (h.got 27 32 (hw2 ⟨27, .data⟩ (by simp) rfl) rfl))) (eval_G (show G fa 34 = told mN from (h.got 29 34 (hw2 ⟨29, .data⟩ (by simp) rfl) rfl))) call6) (unhide KS mN wx h.old) (fun _ _ q => q)
    · rintro L fa wx h hcl hL hw2
      exact rl_val h (by decide) rfl rfl rfl (by decide) ((wanted_is (j := 25) (dj := 30) (b := false) (c := false) rfl rfl (by rw [h.size]; decide) (show G fa 30 = .bool false from (h.got 25 30 (hw2 ⟨25, .guard⟩ (by simp) rfl) rfl))).trans rfl) (run_not (eval_G (show G fa 35 = .bool true from (h.got 30 35 (hw2 ⟨30, .data⟩ (by simp) rfl) rfl)))) rfl
    · rintro L fa wx h hcl hL hw2
      exact rl_val h (by decide) rfl rfl rfl (by decide) rfl (run_pickF (eval_G (show G fa 30 = .bool false from (h.got 25 30 (hw2 ⟨25, .data⟩ (by simp) rfl) rfl))) (eval_G (show G fa 36 = .bool false from (h.got 31 36 (hw2 ⟨31, .data⟩ (by simp) rfl) rfl)))) rfl
  case done =>
    rintro L f1 wC h hall
    have q37 : G f1 37 = .bool false := h.got 32 37 (hall 32 (by simp)) rfl
    have HB := hide h.old
    replace s2 := (h.keep (s := 2) (by decide)).trans s2
    replace s3 := (h.keep (s := 3) (by decide)).trans s3
    replace hsz := h.size
    replace hdf := h.defs
    clear h hall hf0 K4 K7 K8 K9 K10 K11 K12
    obtain ⟨u0, u1, u2, u3, u4, u5, u6, u7, u8, u9, u10, u11, u12, u13, u14, u15, u16, u17, u18, u19, u20, u21, u22, u23, u24, u25, u26, u27, u28, u29, u30, u31, u32, u33, u34, u35, u36, u37, u38, u39, u40, u41, u42, u43, u44, u45, u46, u47, u48, u49, u50, u51, u52, u53, u54, u55, u56, u57, u58, u59, u60, u61, u62, u63, rfl, q2, q3, qx, q37'⟩ := frame_ex64 hsz hdf
    clear qx
    rw [s2] at q2
    rw [s3] at q3
    rw [q37] at q37'
    subst q2 q3 q37'
    clear s2 s3 q37 hsz hdf f0
    have B1 := hide ((unhide BA).keep (unhide HB) (unhide BA).low)
    have B2 := hide ((unhide BB).keep (unhide HB) (unhide BB).low)
    obtain ⟨e0, e1, e2, e3, e4, e5⟩ := (unhide B1).tell
    by_cases hw1 : W1 = 0
    · subst hw1
      go_wp2_with fail
      refine (un_r (unhide K5 _ (unhide HB))).mono ?_
      rintro e w2 ⟨rfl, hb⟩
      replace HB := hide (below_via (unhide HB) hb)
      clear hb e0 e1 e2 e3 e4 e5 B1
      obtain ⟨e0, e1, e2, e3, e4, e5⟩ := ((unhide BB).keep (unhide HB) (unhide BB).low).tell
      go_wp2_with fail
      refine (un_r (unhide K5b _ (unhide HB))).mono ?_
      rintro e w3 ⟨rfl, hb⟩
      replace HB := hide (below_via (unhide HB) hb)
      clear hb e0 e1 e2 e3 e4 e5 B2
      by_cases hw2 : W2 = 0
      · subst hw2
        have R4 := unhide REST (by trivial) (by trivial)
        obtain ⟨K13, K15, K16, K17⟩ := R4
        clear REST K5 K5b
        go_upto_region 5 with fail
        refine frame_name ?_
        intro f0 hf0
        have s2 : G f0 2 = .pointer (some ⟨w.heap.size, 0, none⟩) := by rw [hf0]; rfl
        have s3 : G f0 3 = .pointer (some ⟨w.heap.size + 1, 0, none⟩) := by rw [hf0]; rfl
        have hsz : f0.tmps.size = 64 := by rw [hf0]; rfl
        have hdf : f0.defers = [] := by rw [hf0]
        have BA := hide ((unhide BA).keep (unhide HB) (unhide BA).low)
        have BB := hide ((unhide BB).keep (unhide HB) (unhide BB).low)
        refine region_any (I := RL w3 f0 64 [46, 47, 48, 49, 50, 51, 52, 53, 54, 55, 56, 57, 58, 59, 60, 61, 62, 63, 4] [.lit (.agg #[.int .i64 k1, .bool y1, .int .i64 c1, .int .i64 x1, .string t1, .slice l1 n1 p1]), .lit (.agg #[.int .i64 k2, .bool y2, .int .i64 c2, .int .i64 x2, .string t2, .slice l2 n2 p2]), .lit (told mE), .lit (.agg #[.int .i64 k1, .bool y1, .int .i64 c1, .int .i64 x1, .string t1, .slice l1 n1 p1]), .lit (.agg #[.int .i64 k2, .bool y2, .int .i64 c2, .int .i64 x2, .string t2, .slice l2 n2 p2]), .lit (.int .i64 (mE : Int)), .lit (told mE), .lit (.bool true), .lit (.bool true), .lit (.agg #[.int .i64 k1, .bool y1, .int .i64 c1, .int .i64 x1, .string t1, .slice l1 n1 p1]), .lit (.agg #[.int .i64 k2, .bool y2, .int .i64 c2, .int .i64 x2, .string t2, .slice l2 n2 p2]), .lit (told mL), .lit (.agg #[.int .i64 k1, .bool y1, .int .i64 c1, .int .i64 x1, .string t1, .slice l1 n1 p1]), .lit (.agg #[.int .i64 k2, .bool y2, .int .i64 c2, .int .i64 x2, .string t2, .slice l2 n2 p2]), .lit (.int .i64 (mL : Int)), .lit (told mL), .lit (.bool true), .lit (.bool true), .lit (.bool true)]) (by kernel_rfl) ?wait ?step ?done ?start
        case wait => exact ⟨by simp, by simp, by simp, by simp, by simp, by simp, by simp, by simp, by simp, by simp, by simp, by simp, by simp, by simp, by simp, by simp, by simp, by simp, by simp, trivial⟩
        case start => exact RI.start hsz hdf ((Below.refl _ _).drew)
        case step =>
          refine ⟨?_, ?_, ?_, ?_, ?_, ?_, ?_, ?_, ?_, ?_, ?_, ?_, ?_, ?_, ?_, ?_, ?_, ?_, ?_, trivial⟩
          · rintro L fa wx h hcl hL hw2
            exact rl_val h (by decide) rfl rfl rfl (by decide) rfl (run_ldX (eval_G ((h.keep (s := 2) (by decide)).trans s2)) ((unhide BA).keep h.old (unhide BA).low)) rfl
          · rintro L fa wx h hcl hL hw2
            exact rl_val h (by decide) rfl rfl rfl (by decide) rfl (run_ldX (eval_G ((h.keep (s := 3) (by decide)).trans s3)) ((unhide BB).keep h.old (unhide BB).low)) rfl
          · rintro L fa wx h hcl hL hw2
            exact rl_call (R := fun v _ => v = told mE) h (by decide) rfl rfl rfl (by decide) rfl (run_call2 (eval_G (show G fa 46 = .agg #[.int .i64 k1, .bool y1, .int .i64 c1, .int .i64 x1, .string t1, .slice l1 n1 p1] from (h.got 0 46 (hw2 ⟨0, .data⟩ (by simp) rfl) rfl))) (eval_G (show G fa 47 = .agg #[.int .i64 k2, .bool y2, .int .i64 c2, .int .i64 x2, .string t2, .slice l2 n2 p2] from (h.got 1 47 (hw2 ⟨1, .data⟩ (by simp) rfl) rfl))) call13) (unhide K13 wx (below_via (unhide HB) h.old)) (fun _ _ q => q)
          · rintro L fa wx h hcl hL hw2
            exact rl_val h (by decide) rfl rfl rfl (by decide) rfl (run_ldX (eval_G ((h.keep (s := 2) (by decide)).trans s2)) ((unhide BA).keep h.old (unhide BA).low)) rfl
          · rintro L fa wx h hcl hL hw2
            exact rl_val h (by decide) rfl rfl rfl (by decide) rfl (run_ldX (eval_G ((h.keep (s := 3) (by decide)).trans s3)) ((unhide BB).keep h.old (unhide BB).low)) rfl
          · rintro L fa wx h hcl hL hw2
            exact rl_call (R := fun v _ => v = .int .i64 (mE : Int)) h (by decide) rfl rfl rfl (by decide) rfl (run_call2 (eval_G (show G fa 49 = .agg #[.int .i64 k1, .bool y1, .int .i64 c1, .int .i64 x1, .string t1, .slice l1 n1 p1] from (h.got 3 49 (hw2 ⟨3, .data⟩ (by simp) rfl) rfl))) (eval_G (show G fa 50 = .agg #[.int .i64 k2, .bool y2, .int .i64 c2, .int .i64 x2, .string t2, .slice l2 n2 p2] from (h.got 4 50 (hw2 ⟨4, .data⟩ (by simp) rfl) rfl))) call15) (unhide K15 wx (below_via (unhide HB) h.old)) (fun _ _ q => q)
          · rintro L fa wx h hcl hL hw2
            exact rl_call (R := fun v _ => v = told mE) h (by decide) rfl rfl rfl (by decide) rfl (run_call1 (eval_G (show G fa 51 = .int .i64 (mE : Int) from (h.got 5 51 (hw2 ⟨5, .data⟩ (by simp) rfl) rfl))) call14) (unhide KOE wx (below_via (unhide HB) h.old)) (fun _ _ q => q)
          · rintro L fa wx h hcl hL hw2
            exact rl_call (R := fun v _ => v = .bool true) h (by decide) rfl rfl rfl (by decide) rfl (run_call2 (eval_G (show G fa 48 = told mE from (h.got 2 48 (hw2 ⟨2, .data⟩ (by simp) rfl) rfl))) (eval_G (show G fa 52 = told mE from (h.got 6 52 (hw2 ⟨6, .data⟩ (by simp) rfl) rfl))) call6) (unhide KS mE wx (below_via (unhide HB) h.old)) (fun _ _ q => q)
          · rintro L fa wx h hcl hL hw2
            exact rl_val h (by decide) rfl rfl rfl (by decide) rfl (run_mv (eval_G (show G fa 53 = .bool true from (h.got 7 53 (hw2 ⟨7, .data⟩ (by simp) rfl) rfl)))) rfl
          · rintro L fa wx h hcl hL hw2
            exact rl_val h (by decide) rfl rfl rfl (by decide) ((wanted_is (j := 8) (dj := 54) (b := true) (c := true) rfl rfl (by rw [h.size]; decide) (show G fa 54 = .bool true from (h.got 8 54 (hw2 ⟨8, .guard⟩ (by simp) rfl) rfl))).trans rfl) (run_ldX (eval_G ((h.keep (s := 2) (by decide)).trans s2)) ((unhide BA).keep h.old (unhide BA).low)) rfl
          · rintro L fa wx h hcl hL hw2
            exact rl_val h (by decide) rfl rfl rfl (by decide) ((wanted_is (j := 8) (dj := 54) (b := true) (c := true) rfl rfl (by rw [h.size]; decide) (show G fa 54 = .bool true from (h.got 8 54 (hw2 ⟨8, .guard⟩ (by simp) rfl) rfl))).trans rfl) (run_ldX (eval_G ((h.keep (s := 3) (by decide)).trans s3)) ((unhide BB).keep h.old (unhide BB).low)) rfl
          · rintro L fa wx h hcl hL hw2
            exact rl_call (R := fun v _ => v = told mL) h (by decide) rfl rfl rfl (by decide) ((wanted_is (j := 8) (dj := 54) (b := true) (c := true) rfl rfl (by rw [h.size]; decide) (show G fa 54 = .bool true from (h.got 8 54 (hw2 ⟨8, .guard⟩ (by simp) rfl) rfl))).trans rfl) (run_call2 (eval_G (show G fa 55 = .agg #[.int .i64 k1, .bool y1, .int .i64 c1, .int .i64 x1, .string t1, .slice l1 n1 p1] from (h.got 9 55 (hw2 ⟨9, .data⟩ (by simp) rfl) rfl))) (eval_G (show G fa 56 = .agg #[.int .i64 k2, .bool y2, .int .i64 c2, .int .i64 x2, .string t2, .slice l2 n2 p2] from (h.got 10 56 (hw2 ⟨10, .data⟩ (by simp) rfl) rfl))) call16) (unhide K16 wx (below_via (unhide HB) h.old)) (fun _ _ q => q)
          · rintro L fa wx h hcl hL hw2
            exact rl_val h (by decide) rfl rfl rfl (by decide) ((wanted_is (j := 8) (dj := 54) (b := true) (c := true) rfl rfl (by rw [h.size]; decide) (show G fa 54 = .bool true from (h.got 8 54 (hw2 ⟨8, .guard⟩ (by simp) rfl) rfl))).trans rfl) (run_ldX (eval_G ((h.keep (s := 2) (by decide)).trans s2)) ((unhide BA).keep h.old (unhide BA).low)) rfl
          · rintro L fa wx h hcl hL hw2
            exact rl_val h (by decide) rfl rfl rfl (by decide) ((wanted_is (j := 8) (dj := 54) (b := true) (c := true) rfl rfl (by rw [h.size]; decide) (show G fa 54 = .bool true from (h.got 8 54 (hw2 ⟨8, .guard⟩ (by simp) rfl) rfl))).trans rfl) (run_ldX (eval_G ((h.keep (s := 3) (by decide)).trans s3)) ((unhide BB).keep h.old (unhide BB).low)) rfl
          · rintro L fa wx h hcl hL hw2
            exact rl_call (R := fun v _ => v = .int .i64 (mL : Int)) h (by decide) rfl rfl rfl (by decide) ((wanted_is (j := 8) (dj := 54) (b := true) (c := true) rfl rfl (by rw [h.size]; decide) (show G fa 54 = .bool true from (h.got 8 54 (hw2 ⟨8, .guard⟩ (by simp) rfl) rfl))).trans rfl) (run_call2 (eval_G (show G fa 58 = .agg #[.int .i64 k1, .bool y1, .int .i64 c1, .int .i64 x1, .string t1, .slice l1 n1 p1] from (h.got 12 58 (hw2 ⟨12, .data⟩ (by simp) rfl) rfl))) (eval_G (show G fa 59 = .agg #[.int .i64 k2, .bool y2, .int .i64 c2, .int .i64 x2, .string t2, .slice l2 n2 p2] from (h.got 13 59 (hw2 ⟨13, .data⟩ (by simp) rfl) rfl))) call17) (unhide K17 wx (below_via (unhide HB) h.old)) (fun _ _ q => q)
          · rintro L fa wx h hcl hL hw2
            exact rl_call (R := fun v _ => v = told mL) h (by decide) rfl rfl rfl (by decide) ((wanted_is (j := 8) (dj := 54) (b := true) (c := true) rfl rfl (by rw [h.size]; decide) (show G fa 54 = .bool true from (h.got 8 54 (hw2 ⟨8, .guard⟩ (by simp) rfl) rfl))).trans rfl) (run_call1 (eval_G (show G fa 60 = .int .i64 (mL : Int) from (h.got 14 60 (hw2 ⟨14, .data⟩ (by simp) rfl) rfl))) call14) (unhide KOL wx (below_via (unhide HB) h.old)) (fun _ _ q => q)
          · rintro L fa wx h hcl hL hw2
            exact rl_call (R := fun v _ => v = .bool true) h (by decide) rfl rfl rfl (by decide) ((wanted_is (j := 8) (dj := 54) (b := true) (c := true) rfl rfl (by rw [h.size]; decide) (show G fa 54 = .bool true from (h.got 8 54 (hw2 ⟨8, .guard⟩ (by simp) rfl) rfl))).trans rfl) (run_call2 (eval_G (show G fa 57 = told mL from (h.got 11 57 (hw2 ⟨11, .data⟩ (by simp) rfl) rfl))) (eval_G (show G fa 61 = told mL from (h.got 15 61 (hw2 ⟨15, .data⟩ (by simp) rfl) rfl))) call6) (unhide KS mL wx (below_via (unhide HB) h.old)) (fun _ _ q => q)
          · rintro L fa wx h hcl hL hw2
            exact rl_val h (by decide) rfl rfl rfl (by decide) rfl (run_pickT (eval_G (show G fa 54 = .bool true from (h.got 8 54 (hw2 ⟨8, .data⟩ (by simp) rfl) rfl))) (eval_G (show G fa 62 = .bool true from (h.got 16 62 (hw2 ⟨16, .data⟩ (by simp) rfl) rfl)))) rfl
          · rintro L fa wx h hcl hL hw2
            exact rl_val h (by decide) rfl rfl rfl (by decide) rfl (run_asg (eval_G (show G fa 63 = .bool true from (h.got 17 63 (hw2 ⟨17, .data⟩ (by simp) rfl) rfl)))) rfl
        case done =>
          rintro L f1 w4 h hall
          have q4 : G f1 4 = .bool true := h.got 18 4 (hall 18 (by simp)) rfl
          have HN := hide (below_via (below_via (unhide NB) (unhide HB)) h.old)
          replace hsz := h.size
          replace hdf := h.defs
          clear h hall hf0 s2 s3
          obtain ⟨u0, u1, u2, u3, u4, u5, u6, u7, u8, u9, u10, u11, u12, u13, u14, u15, u16, u17, u18, u19, u20, u21, u22, u23, u24, u25, u26, u27, u28, u29, u30, u31, u32, u33, u34, u35, u36, u37, u38, u39, u40, u41, u42, u43, u44, u45, u46, u47, u48, u49, u50, u51, u52, u53, u54, u55, u56, u57, u58, u59, u60, u61, u62, u63, rfl, qx, qy, q4', qz⟩ := frame_ex64 hsz hdf
          clear qx qy qz
          rw [q4] at q4'
          subst q4'
          clear q4 hsz hdf f0
          go_wp2
          go_ret
          exact ⟨rfl, unhide HN⟩
      · have hw2' : (W2 != 0) = true := by simp [hw2]
        have HN := hide (below_via (unhide NB) (unhide HB))
        go_wp2
        go_ret
        exact ⟨rfl, unhide HN⟩
    · have hw1' : (W1 != 0) = true := by simp [hw1]
      go_wp2_with fail
      refine (un_r (unhide K5 _ (unhide HB))).mono ?_
      rintro e w2 ⟨rfl, hb⟩
      replace HB := hide (below_via (unhide HB) hb)
      have HN := hide (below_via (unhide NB) (unhide HB))
      clear hb e0 e1 e2 e3 e4 e5
      go_wp2
      go_ret
      exact ⟨rfl, unhide HN⟩
end Go.Proofs.YtibkemolmpcdcaaDoor

/- The walk over LogicTells, out of what each call tells. -/
namespace Go.Proofs.YtibkemolmpcdcaaDoor
open Go.RowKit

set_option maxHeartbeats 2000000 in
theorem tells_walk (T1 T2 : Tree) (u1 u2 : Array Value) (w : World) (M1 : Mem w.heap.size w T1 u1) (M2 : Mem w.heap.size w T2 u2) (hT : TabsIn w.heap.size w) :
    Calls Tryd.prog 3 #[.agg u1, .agg u2] w fun e w' => e = .returned (.bool true) ∧ Below w.heap.size w w' := by
  have N1 : ∀ wx, Below w.heap.size w wx → Mem wx.heap.size wx T1 u1 := fun wx hb => Mem.mono hb.size (Mem.below hb M1)
  have N2 : ∀ wx, Below w.heap.size w wx → Mem wx.heap.size wx T2 u2 := fun wx hb => Mem.mono hb.size (Mem.below hb M2)
  have K4 := fun wx (hb : Below w.heap.size w wx) => ex_r (logicWrong_any T1 u1 w.heap.size wx hb.size (Mem.below hb M1) (hT.below hb))
  have K5 := fun wx (hb : Below w.heap.size w wx) => ex_r (dwrong_any T1 u1 wx (N1 wx hb))
  have K5b := fun wx (hb : Below w.heap.size w wx) => ex_r (dwrong_any T2 u2 wx (N2 wx hb))
  have K13 := fun wx (hb : Below w.heap.size w wx) => ex_r (equal_any T1 T2 wx u1 u2 (N1 wx hb) (N2 wx hb))
  have EE : (wrongF T1 0 1).1 = 0 → eqT T1 T2 = eqP T1 T2 := fun hA => eqp_same T1 T2 0 0 1 (Nat.le_refl _) (by omega) hA
  have K15 := fun wx (hb : Below w.heap.size w wx) => ex_r (dequal_all T1 T2 wx u1 u2 (N1 wx hb) (N2 wx hb))
  have K16 := fun (hA : (wrongF T1 0 1).1 = 0) (hB : (wrongF T2 0 1).1 = 0) wx (hb : Below w.heap.size w wx) => ex_r (less_any T1 T2 u1 u2 _ _ wx (N1 wx hb) (N2 wx hb) hA hB)
  have K17 := fun (hA : (wrongF T1 0 1).1 = 0) (hB : (wrongF T2 0 1).1 = 0) wx (hb : Below w.heap.size w wx) => ex_r (dless_any T1 T2 u1 u2 _ _ wx (N1 wx hb) (N2 wx hb) hA hB)
  have OE := of_any (eqP T1 T2) (eqP_le T1 T2)
  have OL := of_any (lessH T1 T2) (lessH_le T1 T2)
  clear N1 N2 hT
  generalize (wrongF T1 0 1).1 = W1 at *
  generalize (wrongF T2 0 1).1 = W2 at *
  generalize eqP T1 T2 = mE at *
  generalize lessH T1 T2 = mL at *
  generalize eqT T1 T2 = mE' at *
  obtain ⟨k1, y1, c1, x1, t1, ks1⟩ := T1
  obtain ⟨k2, y2, c2, x2, t2, ks2⟩ := T2
  rw [Mem] at M1 M2
  obtain ⟨_, _, l1, p1, rfl, _⟩ := M1
  obtain ⟨_, _, l2, p2, rfl, _⟩ := M2
  have NB : Below w.heap.size w ((w.alloc (.cells #[.int .i64 k1, .bool y1, .int .i64 c1, .int .i64 x1, .string t1, .slice l1 ks1.length p1] 26)).alloc (.cells #[.int .i64 k2, .bool y2, .int .i64 c2, .int .i64 x2, .string t2, .slice l2 ks2.length p2] 26)) := ((Below.refl _ _).alloc (Nat.le_refl _) _).alloc (by simp) _
  have BA : Box ((w.alloc (.cells #[.int .i64 k1, .bool y1, .int .i64 c1, .int .i64 x1, .string t1, .slice l1 ks1.length p1] 26)).alloc (.cells #[.int .i64 k2, .bool y2, .int .i64 c2, .int .i64 x2, .string t2, .slice l2 ks2.length p2] 26)) w.heap.size #[.int .i64 k1, .bool y1, .int .i64 c1, .int .i64 x1, .string t1, .slice l1 ks1.length p1] := Box.new.over
  have BB : Box ((w.alloc (.cells #[.int .i64 k1, .bool y1, .int .i64 c1, .int .i64 x1, .string t1, .slice l1 ks1.length p1] 26)).alloc (.cells #[.int .i64 k2, .bool y2, .int .i64 c2, .int .i64 x2, .string t2, .slice l2 ks2.length p2] 26)) (w.heap.size + 1) #[.int .i64 k2, .bool y2, .int .i64 c2, .int .i64 x2, .string t2, .slice l2 ks2.length p2] := by
    have := Box.new (w := w.alloc (.cells #[.int .i64 k1, .bool y1, .int .i64 c1, .int .i64 x1, .string t1, .slice l1 ks1.length p1] 26)) (t := 26) (a0 := .int .i64 k2) (a1 := .bool y2) (a2 := .int .i64 c2) (a3 := .int .i64 x2) (a4 := .string t2) (a5 := .slice l2 ks2.length p2)
    simpa using this
  refine tells_all k1 y1 c1 x1 t1 l1 ks1.length p1 k2 y2 c2 x2 t2 l2 ks2.length p2 w _ rfl (hide BA) (hide BB) (hide NB) W1 W2 (min (tv k1 y1) (tv k2 y2)) (max (tv k1 y1) (tv k2 y2)) (2 - tv k1 y1) mE mL
    (hide fun m wx _ => ex_r (same_nil (kd m) (yd m) 0 0 ⟨#[]⟩ none none 0 0 wx.heap.size wx (Nat.le_refl _)))
    (hide fun wx hb => K4 wx (below_via NB hb)) (hide fun wx hb => K5 wx (below_via NB hb)) (hide fun wx hb => K5b wx (below_via NB hb))
    (hide fun wx _ => ex_r (and_any k1 y1 c1 x1 _ _ k2 y2 c2 x2 _ _ wx)) (hide fun wx _ => ex_r (rand_any k1 y1 c1 x1 _ _ k2 y2 c2 x2 _ _ wx))
    (hide fun wx _ => ex_r (or_any k1 y1 c1 x1 _ _ k2 y2 c2 x2 _ _ wx)) (hide fun wx _ => ex_r (ror_any k1 y1 c1 x1 _ _ k2 y2 c2 x2 _ _ wx))
    (hide fun wx _ => ex_r (not_any k1 y1 c1 x1 _ _ wx)) (hide fun wx _ => ex_r (rnot_any k1 y1 c1 x1 _ _ wx))
    (hide fun hA hB => ⟨hide fun wx hb => ?_, hide fun wx hb => K15 wx (below_via NB hb), hide fun wx hb => K16 hA hB wx (below_via NB hb), hide fun wx hb => K17 hA hB wx (below_via NB hb)⟩)
    (hide fun wx _ => ex_r (OE wx)) (hide fun wx _ => ex_r (OL wx))
  have q := K13 wx (below_via NB hb)
  rw [EE hA] at q
  exact q
end Go.Proofs.YtibkemolmpcdcaaDoor

/- A value that came in is a tree in memory. -/
namespace Go.Proofs.YtibkemolmpcdcaaDoor
open Go.ChangeShapes Go.WideShapes Go.ChangeAt Go.RowKit Go.Joins

theorem cell_spot {w : World} {a : Addr} {v : Value} (h : w.cell? a = some v) : a.spot = none := by
  unfold World.cell? at h
  split at h
  · by_cases e : a.spot.isSome = true
    · rw [if_pos e] at h; cases h
    · simpa using e
  · cases h
theorem cells6 {w : World} {base : Nat} {a : Addr} {cs : List Value} (h : w.cells? base a 6 = some cs) : a.spot = none ∧ a.block < w.heap.size ∧ Six w a.block a.off cs.toArray := by
  unfold World.cells? at h
  split at h
  case isFalse => cases h
  simp only [show List.range 6 = [0, 1, 2, 3, 4, 5] from rfl, List.mapM_cons, List.mapM_nil, Option.bind_eq_bind, Option.pure_def, Option.bind_eq_some_iff] at h
  obtain ⟨c0, h0, r1, ⟨c1, h1, r2, ⟨c2, h2, r3, ⟨c3, h3, r4, ⟨c4, h4, r5, ⟨c5, h5, r6, q6, q5⟩, q4⟩, q3⟩, q2⟩, q1⟩, hcs⟩ := h
  cases q6
  cases q5
  cases q4
  cases q3
  cases q2
  cases q1
  have hs : a.spot = none := by
    have := cell_spot h0
    simpa [Addr.add] using this
  have hb : a.block < w.heap.size := by
    have := World.block_lt_of_cell? w _ h0
    simpa [Addr.add] using this
  obtain ⟨b, o, sp⟩ := a
  simp only at hs
  subst hs
  simp only [Option.some.injEq] at hcs
  subst hcs
  refine ⟨rfl, hb, c0, c1, c2, c3, c4, c5, rfl, ?_, ?_, ?_, ?_, ?_, ?_⟩
  · simpa [Addr.add] using h0
  · simpa [Addr.add] using h1
  · simpa [Addr.add] using h2
  · simpa [Addr.add] using h3
  · simpa [Addr.add] using h4
  · simpa [Addr.add] using h5

theorem choose_list {α : Type} {P : Nat → α → Prop} : ∀ (n : Nat), (∀ i, i < n → ∃ x, P i x) → ∃ l : List α, l.length = n ∧ ∀ i x, l[i]? = some x → P i x := by
  intro n
  induction n with
  | zero => intro _; exact ⟨[], rfl, fun i x h => by simp at h⟩
  | succ n ih =>
    intro h
    obtain ⟨l, hl, hp⟩ := ih (fun i hi => h i (by omega))
    obtain ⟨x, hx⟩ := h n (by omega)
    refine ⟨l ++ [x], by simp [hl], fun i y hy => ?_⟩
    rcases Nat.lt_or_ge i n with hi | hi
    · rw [List.getElem?_append_left (by omega)] at hy
      exact hp i y hy
    · rw [List.getElem?_append_right (by omega)] at hy
      have : i = n := by
        rcases Nat.eq_or_lt_of_le hi with e | e
        · exact e.symm
        · rw [List.getElem?_eq_none (by simp; omega)] at hy; cases hy
      subst this
      simp [hl] at hy
      rw [← hy]; exact hx
theorem memL_of {B : Nat} {w : World} {b : Nat} : ∀ (ks : List Tree) (off : Nat), (∀ i u, ks[i]? = some u → ∃ cs, Six w b (off + i * 6) cs ∧ Mem B w u cs) → MemL B w ks b off
  | [], off, _ => by rw [MemL]; trivial
  | u :: us, off, h => by
    rw [MemL]
    refine ⟨by simpa using h 0 u rfl, memL_of us (off + 6) fun i v hv => ?_⟩
    have := h (i + 1) v (by simpa using hv)
    rwa [show off + (i + 1) * 6 = off + 6 + i * 6 by omega] at this

section
variable {H : Type} {enc : TypeId × Value → H} {w : World} {base : Nat} {spare : Nat → Bool} {held : Bool}
set_option maxRecDepth 100000 in
theorem tree_of : ∀ (fuel : Nat) (cs : List Value) (x : DataW H × List MemPlace), DataW.trod enc Tryd.prog w base spare held fuel 26 cs = some x → ∃ T, Mem w.heap.size w T cs.toArray := by
  intro fuel
  induction fuel using Nat.strongRecOn with
  | _ fuel ih =>
    intro cs x hf
    obtain ⟨xs, n, hn, hx, hl, hlen, hf⟩ := DataW.trod_struct Tryd.underlying26 hf
    rw [cellsVal] at hl
    obtain ⟨c0, c1, c2, c3, c4, c5, hcs⟩ := array6 (cs := cs.toArray) (by simpa using hl)
    obtain rfl : cs = [c0, c1, c2, c3, c4, c5] := by simpa using congrArg Array.toList hcs
    clear hcs
    have h0 := hf 0 _ rfl
    have h1 := hf 1 _ rfl
    have h2 := hf 2 _ rfl
    have h3 := hf 3 _ rfl
    have h4 := hf 4 _ rfl
    simp [cellsInt, cellsBool, cellsDec, cellsStr, cellsList] at h0 h1 h2 h3 h4
    obtain ⟨y0, y1, y2, y3, y4, rfl⟩ := list5 hlen
    simp at h0 h1 h2 h3 h4
    obtain ⟨k, e0, _⟩ := DataW.trod_int Tryd.underlying3 h0
    obtain ⟨y, e1, _⟩ := DataW.trod_bool Tryd.underlying4 h1
    obtain ⟨z0, z1, n2, _, _, g0, g1⟩ := trod_struct2 Tryd.underlying23 h2
    simp [cellsI64, cellsInt] at g0 g1
    obtain ⟨c, e2, _⟩ := DataW.trod_int Tryd.underlying2 g0
    obtain ⟨x', e3, _⟩ := DataW.trod_int Tryd.underlying3 g1
    obtain ⟨t, e4, _, ht⟩ := DataW.trod_string Tryd.underlying9 h3
    simp at e0 e1 e2 e3 e4
    subst e0 e1 e2 e3 e4
    have ht' : t.size ≤ 9223372036854775807 := by unfold maxLen at ht; omega
    rcases DataW.trod_slice Tryd.underlying24 h4 with ⟨e5, _⟩ | ⟨a, len, cap, elems, rest, n', hn', e5, _, _, hlc, hm, hel, hat, _⟩
    · simp at e5
      subst e5
      refine ⟨.mk k y c x' t [], ?_⟩
      rw [Mem]
      exact ⟨ht', by simp, none, 0, rfl, fun h => absurd rfl h⟩
    · simp at e5
      subst e5
      have each : ∀ i, i < len → ∃ T, ∃ cs', w.cells? base (a.add (i * 6)) 6 = some cs' ∧ Mem w.heap.size w T cs'.toArray := by
        intro i hi
        have := hat i hi
        rw [cellsVal, List.getElem?_eq_getElem (by omega), Option.bind_eq_some_iff] at this
        obtain ⟨cs', hc, ht2⟩ := this
        obtain ⟨T, hT⟩ := ih n' (by omega) cs' _ ht2
        exact ⟨T, cs', hc, hT⟩
      obtain ⟨ks, hks, hp⟩ := choose_list len each
      have hm' : cap ≤ 9223372036854775807 := by unfold maxLen at hm; omega
      refine ⟨.mk k y c x' t ks, ?_⟩
      rw [Mem]
      refine ⟨ht', by omega, some a, cap, by rw [hks], fun hne => ?_⟩
      have hpos : 0 < len := by
        rcases Nat.eq_zero_or_pos len with e | e
        · rw [e] at hks; exact absurd (List.length_eq_zero_iff.1 hks) hne
        · exact e
      obtain ⟨_, cs0, hc0, _⟩ := each 0 hpos
      simp only [Nat.zero_mul] at hc0
      have h00 : a.add 0 = a := rfl
      rw [h00] at hc0
      obtain ⟨hsp, hblk, _⟩ := cells6 hc0
      obtain ⟨b, off, sp⟩ := a
      simp only at hsp hblk
      subst hsp
      refine ⟨b, off, rfl, hblk, memL_of ks off fun i u hu => ?_⟩
      obtain ⟨cs', hc, hM⟩ := hp i u hu
      have h6 := (cells6 hc).2.2
      refine ⟨cs'.toArray, ?_, hM⟩
      by_cases hi0 : i = 0
      · subst hi0
        simpa [Addr.add] using h6
      · have hi6 : ¬ i * 6 = 0 := by omega
        rw [show (⟨b, off, none⟩ : Addr).add (i * 6) = ⟨b, off + i * 6, none⟩ by simp only [Addr.add, if_neg hi6]] at h6
        exact h6
set_option maxRecDepth 100000 in
theorem tree_value {r : Reach} {b0 : Nat} {v : Value} {d : DataW H} {p : List MemPlace}
    (hv : Value.okWide Tryd.prog w r b0 26 v) (h : DataW.Trod enc Tryd.prog w base spare held 26 v d p) :
    ∃ (T : Tree) (u : Array Value), v = .agg u ∧ Mem w.heap.size w T u := by
  obtain ⟨cs, rfl, hsz⟩ := okWide_struct Tryd.underlying26 hv
  obtain ⟨fuel, hf⟩ := h
  obtain ⟨T, hT⟩ := tree_of fuel _ _ hf
  exact ⟨T, cs, rfl, by simpa [Value.cells] using hT⟩
end
end Go.Proofs.YtibkemolmpcdcaaDoor
