/- Walks: what a right test of a kind without kids says of a right value, as the program tells. -/
import Derived.Test.YtcidbhegnnedoaaGreatDoorG21
import Derived.Test.YtcidbhegnnedoaaGreatDoorG22
import Derived.Test.YtcidbhegnnedoaaGreatDoorG08
import Derived.Test.YtcidbhegnnedoaaGreatDoorG09
namespace Go.Proofs.YtcidbhegnnedoaaGreatDoor
open Go.RowKit

theorem box3g {w w1 : World} {s t u : TypeId} {a b : Array Value} {c0 c1 c2 c3 c4 c5 : Value} (hb : Below (((w.alloc (.cells a s)).alloc (.cells b t)).alloc (.cells #[c0, c1, c2, c3, c4, c5] u)).heap.size (((w.alloc (.cells a s)).alloc (.cells b t)).alloc (.cells #[c0, c1, c2, c3, c4, c5] u)) w1) :
    Box w1 (w.heap.size + 1 + 1) #[c0, c1, c2, c3, c4, c5] ∧ Below w.heap.size w w1 := by
  have C := (Box.new (w := (w.alloc (.cells a s)).alloc (.cells b t)) (t := u) (a0 := c0) (a1 := c1) (a2 := c2) (a3 := c3) (a4 := c4) (a5 := c5)).keep hb (by simp)
  exact ⟨by simpa using C, bv (bv (bv (vbelow_new w _) (vbelow_new _ _)) (vbelow_new _ _)) hb⟩
theorem below3 (w : World) (o1 o2 o3 : Obj) : Below w.heap.size w (((w.alloc o1).alloc o2).alloc o3) := bv (bv (vbelow_new w _) (vbelow_new _ _)) (vbelow_new _ _)
theorem Mem.arr {B : Nat} {w : World} {T : Tree} {u : Array Value} (h : Mem B w T u) : ∃ u0 u1 u2 u3 u4 u5, u = #[u0, u1, u2, u3, u4, u5] := by
  obtain ⟨k, y, c, x, t, ks⟩ := T
  rw [Mem] at h
  obtain ⟨_, _, a, cap, e, _⟩ := h
  exact ⟨_, _, _, _, _, _, e⟩
theorem valW0 {a : Tree} (h : valW a = 0) : (wrongF a 0 1).1 = 0 := by
  obtain ⟨k, y, c, x, t, ks⟩ := a
  rw [valW] at h
  split at h
  · assumption
  · exact h
theorem valW_kd {a : Tree} (h : valW a = 0) : a.kd = 1 ∨ a.kd = 2 ∨ a.kd = 3 ∨ a.kd = 4 := by
  have h0 := valW0 h
  obtain ⟨k, y, c, x, t, ks⟩ := a
  rw [valW, if_pos h0] at h
  show k = 1 ∨ k = 2 ∨ k = 3 ∨ k = 4
  by_cases k5 : k = 5
  · rw [if_pos k5] at h; cases h
  by_cases k1 : k = 1
  · exact .inl k1
  by_cases k2 : k = 2
  · exact .inr (.inl k2)
  by_cases k3 : k = 3
  · exact .inr (.inr (.inl k3))
  by_cases k4 : k = 4
  · exact .inr (.inr (.inr k4))
  rw [wf_else (by omega) k1 k2 k3 k4 k5] at h0
  cases h0
theorem oneW0 {a : Tree} (h : oneW a = 0) : valW a = 0 := by
  unfold oneW at h
  split at h
  · assumption
  · exact h
theorem twoW0 {a b : Tree} (h : twoW a b = 0) : valW a = 0 ∧ valW b = 0 := by
  unfold twoW at h
  by_cases ha : valW a = 0
  · by_cases hb : valW b = 0
    · exact ⟨ha, hb⟩
    · rw [if_pos ha, if_neg hb] at h; exact absurd h hb
  · rw [if_neg ha] at h; exact absurd h ha
theorem wrongSL0 : ∀ {ks : List TS} {d : Nat}, wrongSL ks d = 0 → ∀ u ∈ ks, wrongS u d = 0
  | [], _, _, u, hu => by cases hu
  | v :: vs, d, h, u, hu => by
    by_cases hv : wrongS v d = 0
    · rw [wrongSL_ok hv] at h
      by_cases e : u = v
      · rw [e]; exact hv
      · exact wrongSL0 h u ((List.mem_cons.1 hu).resolve_left e)
    · rw [wrongSL_no hv] at h
      exact absurd h hv

def leafH (k : Int) (a v : Tree) : Nat := if k = 3 then lessH v a else if k = 4 then 2 - lessH a v else if k = 5 then lessH a v else 2 - lessH v a
theorem leafH_le (k : Int) (a v : Tree) : leafH k a v ≤ 2 := by
  unfold leafH
  have h1 := lessH_le v a
  have h2 := lessH_le a v
  (repeat' split) <;> omega

set_option maxHeartbeats 4000000 in
theorem does_leaf (k : Int) (hk : k = 3 ∨ k = 4 ∨ k = 5 ∨ k = 6) (a v : Tree) (a0 a1 a2 a3 a4 a5 r7 r8 r9 r10 r11 r12 r13 r14 r15 : Value) (u : Array Value) (w : World) (Ma : Mem w.heap.size w a #[a0, a1, a2, a3, a4, a5]) (Mv : Mem w.heap.size w v u) (ha : (wrongF a 0 1).1 = 0) (hv : (wrongF v 0 1).1 = 0) :
    Calls Tryz.prog 24 #[.agg #[.int .i64 k, a0, a1, a2, a3, a4, a5, r7, r8, r9, r10, r11, r12, r13, r14, r15], .agg u] w fun e w' => e = .returned (told (leafH k a v)) ∧ Below w.heap.size w w' := by
  have L1 := hide (fun wx (hx : Below w.heap.size w wx) => less_any v a u _ _ _ wx (Mem.below hx Mv) (Mem.below hx Ma) hv ha)
  have L2 := hide (fun wx (hx : Below w.heap.size w wx) => less_any a v _ u _ _ wx (Mem.below hx Ma) (Mem.below hx Mv) ha hv)
  obtain ⟨u0, u1, u2, u3, u4, u5, rfl⟩ := Mv.arr
  have l1 := lessH_le v a
  have l2 := lessH_le a v
  have e3 : leafH 3 a v = lessH v a := rfl
  have e4 : leafH 4 a v = 2 - lessH a v := rfl
  have e5 : leafH 5 a v = lessH a v := rfl
  have e6 : leafH 6 a v = 2 - lessH v a := rfl
  clear Ma Mv ha hv
  generalize lessH v a = m1 at *
  generalize lessH a v = m2 at *
  rcases hk with rfl | rfl | rfl | rfl
  · rw [e3]
    clear e3 e4 e5 e6
    go_enter Tryz.func24, Tryz.ntmps24
    go_wp2_with fail
    refine (unhide L1 _ (below3 _ _ _ _)).mono ?_
    rintro e w1 ⟨rfl, hb⟩
    obtain ⟨R, hw⟩ := box3g hb
    clear hb L1 L2
    obtain ⟨c0, c1, c2, c3, c4, c5⟩ := R.tell
    obtain ⟨f0, f1, f2, f3, f4, f5⟩ := R.thaw
    have lb := R.low
    go_wp2
    exact bodyPost_ret (v := told m1) (by simp [results, Tryz.results24, go_sem, c0, c1, c2, c3, c4, c5]) rfl ⟨rfl, below_put6 hw (by omega)⟩
  · rw [e4]
    clear e3 e4 e5 e6
    go_enter Tryz.func24, Tryz.ntmps24
    go_wp2_with fail
    refine (unhide L2 _ (below3 _ _ _ _)).mono ?_
    rintro e w1 ⟨rfl, hb⟩
    have HB := hide hb
    clear hb L1 L2
    go_wp2_with fail
    refine (not_told m2 l2 _).mono ?_
    rintro e w2 ⟨rfl, hb⟩
    obtain ⟨R, hw⟩ := box3g ((unhide HB).trans (hb.mono (unhide HB).size))
    clear hb HB
    obtain ⟨c0, c1, c2, c3, c4, c5⟩ := R.tell
    obtain ⟨f0, f1, f2, f3, f4, f5⟩ := R.thaw
    have lb := R.low
    go_wp2
    exact bodyPost_ret (v := told (2 - m2)) (by simp [results, Tryz.results24, go_sem, c0, c1, c2, c3, c4, c5]) rfl ⟨rfl, below_put6 hw (by omega)⟩
  · rw [e5]
    clear e3 e4 e5 e6
    go_enter Tryz.func24, Tryz.ntmps24
    go_wp2_with fail
    refine (unhide L2 _ (below3 _ _ _ _)).mono ?_
    rintro e w1 ⟨rfl, hb⟩
    obtain ⟨R, hw⟩ := box3g hb
    clear hb L1 L2
    obtain ⟨c0, c1, c2, c3, c4, c5⟩ := R.tell
    obtain ⟨f0, f1, f2, f3, f4, f5⟩ := R.thaw
    have lb := R.low
    go_wp2
    exact bodyPost_ret (v := told m2) (by simp [results, Tryz.results24, go_sem, c0, c1, c2, c3, c4, c5]) rfl ⟨rfl, below_put6 hw (by omega)⟩
  · rw [e6]
    clear e3 e4 e5 e6
    go_enter Tryz.func24, Tryz.ntmps24
    go_wp2_with fail
    refine (unhide L1 _ (below3 _ _ _ _)).mono ?_
    rintro e w1 ⟨rfl, hb⟩
    have HB := hide hb
    clear hb L1 L2
    go_wp2_with fail
    refine (not_told m1 l1 _).mono ?_
    rintro e w2 ⟨rfl, hb⟩
    obtain ⟨R, hw⟩ := box3g ((unhide HB).trans (hb.mono (unhide HB).size))
    clear hb HB
    obtain ⟨c0, c1, c2, c3, c4, c5⟩ := R.tell
    obtain ⟨f0, f1, f2, f3, f4, f5⟩ := R.thaw
    have lb := R.low
    go_wp2
    exact bodyPost_ret (v := told (2 - m1)) (by simp [results, Tryz.results24, go_sem, c0, c1, c2, c3, c4, c5]) rfl ⟨rfl, below_put6 hw (by omega)⟩

set_option maxHeartbeats 2000000 in
theorem does_is (a v : Tree) (a0 a1 a2 a3 a4 a5 r7 r8 r9 r10 r11 r12 r13 r14 r15 : Value) (u : Array Value) (w : World) (Ma : Mem w.heap.size w a #[a0, a1, a2, a3, a4, a5]) (Mv : Mem w.heap.size w v u) (hv : (wrongF v 0 1).1 = 0) :
    Calls Tryz.prog 24 #[.agg #[.int .i64 2, a0, a1, a2, a3, a4, a5, r7, r8, r9, r10, r11, r12, r13, r14, r15], .agg u] w fun e w' => e = .returned (told (eqP v a)) ∧ Below w.heap.size w w' := by
  have L1 := hide (fun wx (hx : Below w.heap.size w wx) => equal_any v a wx u _ (Mem.mono hx.size (Mem.below hx Mv)) (Mem.mono hx.size (Mem.below hx Ma)))
  rw [show eqT v a = eqP v a from eqp_same v a 0 0 1 (Nat.le_refl _) (by omega) hv] at L1
  obtain ⟨u0, u1, u2, u3, u4, u5, rfl⟩ := Mv.arr
  clear Ma Mv hv
  generalize eqP v a = m1 at *
  go_enter Tryz.func24, Tryz.ntmps24
  go_wp2_with fail
  refine (unhide L1 _ (below3 _ _ _ _)).mono ?_
  rintro e w1 ⟨rfl, hb⟩
  obtain ⟨R, hw⟩ := box3g hb
  clear hb L1
  obtain ⟨c0, c1, c2, c3, c4, c5⟩ := R.tell
  obtain ⟨f0, f1, f2, f3, f4, f5⟩ := R.thaw
  have lb := R.low
  go_wp2
  exact bodyPost_ret (v := told m1) (by simp [results, Tryz.results24, go_sem, c0, c1, c2, c3, c4, c5]) rfl ⟨rfl, below_put6 hw (by omega)⟩

set_option maxHeartbeats 1000000 in
theorem ttruth_any (y : Bool) (w : World) :
    Calls Tryz.prog 43 #[.bool y] w fun e w' => e = .returned (told (if y = true then 2 else 0)) ∧ Below w.heap.size w w' := by
  cases y
  · go_enter Tryz.func43, Tryz.ntmps43
    go_wp2
    exact bodyPost_ret (v := told 0) (by simp [results, Tryz.results43, go_sem, kd, yd]) rfl ⟨rfl, vbelow_new _ _⟩
  · go_enter Tryz.func43, Tryz.ntmps43
    go_wp2
    exact bodyPost_ret (v := told 2) (by simp [results, Tryz.results43, go_sem, kd, yd]) rfl ⟨rfl, vbelow_new _ _⟩

set_option maxHeartbeats 2000000 in
theorem does_any1 (k : Int) (hk : k < 2 ∨ 9 < k) (u0 u1 u2 u3 u4 u5 a0 a1 a2 a3 a4 a5 r7 r8 r9 r10 r11 r12 r13 r14 r15 : Value) (w : World) :
    Calls Tryz.prog 24 #[.agg #[.int .i64 k, a0, a1, a2, a3, a4, a5, r7, r8, r9, r10, r11, r12, r13, r14, r15], .agg #[u0, u1, u2, u3, u4, u5]] w fun e w' => e = .returned (told 2) ∧ Below w.heap.size w w' := by
  have n2 : (k == 2) = false := by rw [beq_eq_false_iff_ne]; omega
  have n3 : (k == 3) = false := by rw [beq_eq_false_iff_ne]; omega
  have n4 : (k == 4) = false := by rw [beq_eq_false_iff_ne]; omega
  have n5 : (k == 5) = false := by rw [beq_eq_false_iff_ne]; omega
  have n6 : (k == 6) = false := by rw [beq_eq_false_iff_ne]; omega
  have n7 : (k == 7) = false := by rw [beq_eq_false_iff_ne]; omega
  have n8 : (k == 8) = false := by rw [beq_eq_false_iff_ne]; omega
  have n9 : (k == 9) = false := by rw [beq_eq_false_iff_ne]; omega
  go_enter Tryz.func24, Tryz.ntmps24
  go_wp2_with fail
  refine (ttruth_any true _).mono ?_
  rintro e w1 ⟨rfl, hb⟩
  obtain ⟨R, hw⟩ := box3g hb
  clear hb
  obtain ⟨c0, c1, c2, c3, c4, c5⟩ := R.tell
  obtain ⟨f0, f1, f2, f3, f4, f5⟩ := R.thaw
  have lb := R.low
  go_wp2
  exact bodyPost_ret (v := told 2) (by simp [results, Tryz.results24, go_sem, c0, c1, c2, c3, c4, c5]) rfl ⟨rfl, below_put6 hw (by omega)⟩
end Go.Proofs.YtcidbhegnnedoaaGreatDoor

/- Walks: what a right test from one value to another one says of a right value, as the program tells. (Written by gen_s8.py.) -/
namespace Go.Proofs.YtcidbhegnnedoaaGreatDoor
open Go.RowKit

theorem callFrom (zs : Array Value) (w : World) : Sem.run Tryz.prog (callFunc 40 zs) w = .ok (.enter 40 zs) w := by simp [go_sem]
theorem callUpTo (zs : Array Value) (w : World) : Sem.run Tryz.prog (callFunc 41 zs) w = .ok (.enter 41 zs) w := by simp [go_sem]
theorem callDoes (zs : Array Value) (w : World) : Sem.run Tryz.prog (callFunc 24 zs) w = .ok (.enter 24 zs) w := by simp [go_sem]
theorem callAnd (zs : Array Value) (w : World) : Sem.run Tryz.prog (callFunc 12 zs) w = .ok (.enter 12 zs) w := by simp [go_sem]
theorem xr {n : Nat} {args : Array Value} {w : World} {v : Value} (h : Calls Tryz.prog n args w fun e w' => e = .returned v ∧ Below w.heap.size w w') : Calls Tryz.prog n args w fun e w' => ∃ u, e = .returned u ∧ u = v ∧ Below w.heap.size w w' :=
  h.mono fun _ _ q => ⟨v, q.1, rfl, q.2⟩

/-- a test that is made of a value alone -/
abbrev boundV (k ka : Int) (y : Bool) (c x : Int) (t : ByteArray) (l : Option Addr) (n m : Nat) : Array Value := #[.int .i64 k, .int .i64 ka, .bool y, .int .i64 c, .int .i64 x, .string t, .slice l n m, .int .i64 0, .bool false, .int .i64 0, .int .i64 0, .string ⟨#[]⟩, .slice none 0 0, .bool false, .bool false, .slice none 0 0]

set_option maxHeartbeats 2000000 in
theorem from_any (oa : Bool) (k ka : Int) (y : Bool) (c x : Int) (t : ByteArray) (l : Option Addr) (n m : Nat) (b0 b1 b2 b3 b4 b5 ob s : Value) (w : World) :
    Calls Tryz.prog 40 #[.agg #[.int .i64 k, .int .i64 ka, .bool y, .int .i64 c, .int .i64 x, .string t, .slice l n m, b0, b1, b2, b3, b4, b5, .bool oa, ob, s]] w fun e w' => e = .returned (.agg (boundV (if oa = true then 5 else 6) ka y c x t l n m)) ∧ Below w.heap.size w w' := by
  cases oa
  · go_enter Tryz.func40, Tryz.ntmps40
    go_wp2
    exact bodyPost_ret (v := .agg (boundV 6 ka y c x t l n m)) (by simp [results, Tryz.results40, go_sem]) rfl ⟨rfl, bv (vbelow_new _ _) (vbelow_new _ _)⟩
  · go_enter Tryz.func40, Tryz.ntmps40
    go_wp2
    exact bodyPost_ret (v := .agg (boundV 5 ka y c x t l n m)) (by simp [results, Tryz.results40, go_sem]) rfl ⟨rfl, bv (vbelow_new _ _) (vbelow_new _ _)⟩

set_option maxHeartbeats 2000000 in
theorem upTo_any (ob : Bool) (k ka : Int) (y : Bool) (c x : Int) (t : ByteArray) (l : Option Addr) (n m : Nat) (b0 b1 b2 b3 b4 b5 oa s : Value) (w : World) :
    Calls Tryz.prog 41 #[.agg #[.int .i64 k, b0, b1, b2, b3, b4, b5, .int .i64 ka, .bool y, .int .i64 c, .int .i64 x, .string t, .slice l n m, oa, .bool ob, s]] w fun e w' => e = .returned (.agg (boundV (if ob = true then 3 else 4) ka y c x t l n m)) ∧ Below w.heap.size w w' := by
  cases ob
  · go_enter Tryz.func41, Tryz.ntmps41
    go_wp2
    exact bodyPost_ret (v := .agg (boundV 4 ka y c x t l n m)) (by simp [results, Tryz.results41, go_sem]) rfl ⟨rfl, bv (vbelow_new _ _) (vbelow_new _ _)⟩
  · go_enter Tryz.func41, Tryz.ntmps41
    go_wp2
    exact bodyPost_ret (v := .agg (boundV 3 ka y c x t l n m)) (by simp [results, Tryz.results41, go_sem]) rfl ⟨rfl, bv (vbelow_new _ _) (vbelow_new _ _)⟩

set_option maxRecDepth 100000 in
theorem frame_in {a : Act} (hs : a.tmps.size = 64) (hd : a.defers = []) :
    ∃ v0 v1 v2 v3 v4 v5 v6 v7 v8 v9 v10 v11 v12 v13 v14 v15 v16 v17 v18 v19 v20 v21 v22 v23 v24 v25 v26 v27 v28 v29 v30 v31 v32 v33 v34 v35 v36 v37 v38 v39 v40 v41 v42 v43 v44 v45 v46 v47 v48 v49 v50 v51 v52 v53 v54 v55 v56 v57 v58 v59 v60 v61 v62 v63 : Value, a = { tmps := #[v0, v1, v2, v3, v4, v5, v6, v7, v8, v9, v10, v11, v12, v13, v14, v15, v16, v17, v18, v19, v20, v21, v22, v23, v24, v25, v26, v27, v28, v29, v30, v31, v32, v33, v34, v35, v36, v37, v38, v39, v40, v41, v42, v43, v44, v45, v46, v47, v48, v49, v50, v51, v52, v53, v54, v55, v56, v57, v58, v59, v60, v61, v62, v63], defers := [] } ∧ v4 = G a 4 := by
  have e : a = { tmps := #[G a 0, G a 1, G a 2, G a 3, G a 4, G a 5, G a 6, G a 7, G a 8, G a 9, G a 10, G a 11, G a 12, G a 13, G a 14, G a 15, G a 16, G a 17, G a 18, G a 19, G a 20, G a 21, G a 22, G a 23, G a 24, G a 25, G a 26, G a 27, G a 28, G a 29, G a 30, G a 31, G a 32, G a 33, G a 34, G a 35, G a 36, G a 37, G a 38, G a 39, G a 40, G a 41, G a 42, G a 43, G a 44, G a 45, G a 46, G a 47, G a 48, G a 49, G a 50, G a 51, G a 52, G a 53, G a 54, G a 55, G a 56, G a 57, G a 58, G a 59, G a 60, G a 61, G a 62, G a 63], defers := [] } := frame_is hs hd
  exact ⟨_, _, _, _, _, _, _, _, _, _, _, _, _, _, _, _, _, _, _, _, _, _, _, _, _, _, _, _, _, _, _, _, _, _, _, _, _, _, _, _, _, _, _, _, _, _, _, _, _, _, _, _, _, _, _, _, _, _, _, _, _, _, _, _, e, rfl⟩

set_option maxRecDepth 100000 in
set_option maxHeartbeats 8000000 in
theorem does_in_of (oa ob : Bool) (ka : Int) (y1 : Bool) (c1 x1 : Int) (t1 : ByteArray) (l1 : Option Addr) (n1 p1 : Nat) (kb : Int) (y2 : Bool) (c2 x2 : Int) (t2 : ByteArray) (l2 : Option Addr) (n2 p2 : Nat) (u0 u1 u2 u3 u4 u5 sl : Value) (m1 m2 : Nat) (w : World)
    (KF : Hid (∀ wx, Below w.heap.size w wx → Calls Tryz.prog 40 #[.agg #[.int .i64 7, .int .i64 ka, .bool y1, .int .i64 c1, .int .i64 x1, .string t1, .slice l1 n1 p1, .int .i64 kb, .bool y2, .int .i64 c2, .int .i64 x2, .string t2, .slice l2 n2 p2, .bool oa, .bool ob, sl]] wx fun e w' => ∃ r, e = .returned r ∧ r = .agg (boundV (if oa = true then 5 else 6) ka y1 c1 x1 t1 l1 n1 p1) ∧ Below wx.heap.size wx w'))
    (KU : Hid (∀ wx, Below w.heap.size w wx → Calls Tryz.prog 41 #[.agg #[.int .i64 7, .int .i64 ka, .bool y1, .int .i64 c1, .int .i64 x1, .string t1, .slice l1 n1 p1, .int .i64 kb, .bool y2, .int .i64 c2, .int .i64 x2, .string t2, .slice l2 n2 p2, .bool oa, .bool ob, sl]] wx fun e w' => ∃ r, e = .returned r ∧ r = .agg (boundV (if ob = true then 3 else 4) kb y2 c2 x2 t2 l2 n2 p2) ∧ Below wx.heap.size wx w'))
    (KD1 : Hid (∀ wx, Below w.heap.size w wx → Calls Tryz.prog 24 #[.agg (boundV (if oa = true then 5 else 6) ka y1 c1 x1 t1 l1 n1 p1), .agg #[u0, u1, u2, u3, u4, u5]] wx fun e w' => ∃ r, e = .returned r ∧ r = told m1 ∧ Below wx.heap.size wx w'))
    (KD2 : Hid (∀ wx, Below w.heap.size w wx → Calls Tryz.prog 24 #[.agg (boundV (if ob = true then 3 else 4) kb y2 c2 x2 t2 l2 n2 p2), .agg #[u0, u1, u2, u3, u4, u5]] wx fun e w' => ∃ r, e = .returned r ∧ r = told m2 ∧ Below wx.heap.size wx w'))
    (KA : Hid (∀ wx, Below w.heap.size w wx → Calls Tryz.prog 12 #[told m1, told m2] wx fun e w' => ∃ r, e = .returned r ∧ r = told (min m1 m2) ∧ Below wx.heap.size wx w')) :
    Calls Tryz.prog 24 #[.agg #[.int .i64 7, .int .i64 ka, .bool y1, .int .i64 c1, .int .i64 x1, .string t1, .slice l1 n1 p1, .int .i64 kb, .bool y2, .int .i64 c2, .int .i64 x2, .string t2, .slice l2 n2 p2, .bool oa, .bool ob, sl], .agg #[u0, u1, u2, u3, u4, u5]] w fun e w' => e = .returned (told (min m1 m2)) ∧ Below w.heap.size w w' := by
  obtain ⟨wB, hwB⟩ : ∃ wB, wB = ((w.alloc (.cells #[.int .i64 7, .int .i64 ka, .bool y1, .int .i64 c1, .int .i64 x1, .string t1, .slice l1 n1 p1, .int .i64 kb, .bool y2, .int .i64 c2, .int .i64 x2, .string t2, .slice l2 n2 p2, .bool oa, .bool ob, sl] 29)).alloc (.cells #[u0, u1, u2, u3, u4, u5] 26)).alloc (.cells #[.int .i64 0, .bool false, .int .i64 0, .int .i64 0, .string ⟨#[]⟩, .slice none 0 0] 26) := ⟨_, rfl⟩
  have NB : Hid (Below w.heap.size w wB) := hide (by rw [hwB]; exact below3 _ _ _ _)
  have XT : Hid (B16 wB w.heap.size #[.int .i64 7, .int .i64 ka, .bool y1, .int .i64 c1, .int .i64 x1, .string t1, .slice l1 n1 p1, .int .i64 kb, .bool y2, .int .i64 c2, .int .i64 x2, .string t2, .slice l2 n2 p2, .bool oa, .bool ob, sl]) := hide (by rw [hwB]; exact B16.new.over.over)
  have XV : Hid (Box wB (w.heap.size + 1) #[u0, u1, u2, u3, u4, u5]) := hide (by
    rw [hwB]
    have := (Box.new (w := w.alloc (.cells #[.int .i64 7, .int .i64 ka, .bool y1, .int .i64 c1, .int .i64 x1, .string t1, .slice l1 n1 p1, .int .i64 kb, .bool y2, .int .i64 c2, .int .i64 x2, .string t2, .slice l2 n2 p2, .bool oa, .bool ob, sl] 29)) (t := 26) (a0 := u0) (a1 := u1) (a2 := u2) (a3 := u3) (a4 := u4) (a5 := u5)).over (o := .cells #[.int .i64 0, .bool false, .int .i64 0, .int .i64 0, .string ⟨#[]⟩, .slice none 0 0] 26)
    simpa using this)
  have XR : Hid (Box wB (w.heap.size + 1 + 1) #[.int .i64 0, .bool false, .int .i64 0, .int .i64 0, .string ⟨#[]⟩, .slice none 0 0]) := hide (by
    rw [hwB]
    have := Box.new (w := (w.alloc (.cells #[.int .i64 7, .int .i64 ka, .bool y1, .int .i64 c1, .int .i64 x1, .string t1, .slice l1 n1 p1, .int .i64 kb, .bool y2, .int .i64 c2, .int .i64 x2, .string t2, .slice l2 n2 p2, .bool oa, .bool ob, sl] 29)).alloc (.cells #[u0, u1, u2, u3, u4, u5] 26)) (t := 26) (a0 := .int .i64 0) (a1 := .bool false) (a2 := .int .i64 0) (a3 := .int .i64 0) (a4 := .string ⟨#[]⟩) (a5 := .slice none 0 0)
    simpa using this)
  go_enter Tryz.func24, Tryz.ntmps24
  go_upto_region 13 with fail
  rw [← hwB]
  clear hwB
  refine frame_name ?_
  intro f0 hf0
  have s2 : G f0 2 = .pointer (some ⟨w.heap.size, 0, none⟩) := by rw [hf0]; rfl
  have s3 : G f0 3 = .pointer (some ⟨w.heap.size + 1, 0, none⟩) := by rw [hf0]; rfl
  have s4 : G f0 4 = .pointer (some ⟨w.heap.size + 1 + 1, 0, none⟩) := by rw [hf0]; rfl
  have hsz : f0.tmps.size = 64 := by rw [hf0]; rfl
  have hdf : f0.defers = [] := by rw [hf0]
  refine region_any (I := RS wB f0 64 [41, 42, 43, 44, 45, 46, 47, 48, 49] 9 (fun w' => Below w.heap.size w w' ∧ Box w' (w.heap.size + 1 + 1) #[.int .i64 (kd (min m1 m2)), .bool (yd (min m1 m2)), .int .i64 0, .int .i64 0, .string ⟨#[]⟩, .slice none 0 0]) [.lit (.agg #[.int .i64 7, .int .i64 ka, .bool y1, .int .i64 c1, .int .i64 x1, .string t1, .slice l1 n1 p1, .int .i64 kb, .bool y2, .int .i64 c2, .int .i64 x2, .string t2, .slice l2 n2 p2, .bool oa, .bool ob, sl]), .lit (.agg (boundV (if oa = true then 5 else 6) ka y1 c1 x1 t1 l1 n1 p1)), .lit (.agg #[u0, u1, u2, u3, u4, u5]), .lit (told m1), .lit (.agg #[.int .i64 7, .int .i64 ka, .bool y1, .int .i64 c1, .int .i64 x1, .string t1, .slice l1 n1 p1, .int .i64 kb, .bool y2, .int .i64 c2, .int .i64 x2, .string t2, .slice l2 n2 p2, .bool oa, .bool ob, sl]), .lit (.agg (boundV (if ob = true then 3 else 4) kb y2 c2 x2 t2 l2 n2 p2)), .lit (.agg #[u0, u1, u2, u3, u4, u5]), .lit (told m2), .lit (told (min m1 m2))]) (by kernel_rfl) ?wait ?step ?done ?start
  case wait => exact ⟨by simp, by simp, by simp, by simp, by simp, by simp, by simp, by simp, by simp, by simp, trivial⟩
  case start => exact RS.start hsz hdf ((Below.refl _ _).drew)
  case step =>
    refine ⟨?_, ?_, ?_, ?_, ?_, ?_, ?_, ?_, ?_, ?_, trivial⟩
    · rintro L fa wx h hcl hL hw2
      exact rs_val h (by decide) rfl rfl rfl (by decide) (by decide) rfl (run_ldT (eval_G ((h.keep (s := 2) (by decide)).trans s2)) ((unhide XT).keep (h.old (Bool.eq_false_iff.2 fun hq => by have hz := (hcl 1 _ rfl (hcl 3 _ rfl (hcl 8 _ rfl (hcl 9 _ rfl hq ⟨8, .data⟩ (by simp) rfl) ⟨3, .data⟩ (by simp) rfl) ⟨1, .data⟩ (by simp) rfl) ⟨0, .data⟩ (by simp) rfl); rw [hL] at hz; cases hz)) (unhide XT).low)) rfl
    · rintro L fa wx h hcl hL hw2
      exact rs_call (R := fun v _ => v = .agg (boundV (if oa = true then 5 else 6) ka y1 c1 x1 t1 l1 n1 p1)) h (by decide) rfl rfl rfl (by decide) (by decide) (Bool.eq_false_iff.2 fun hq => by have hz := (hcl 3 _ rfl (hcl 8 _ rfl (hcl 9 _ rfl hq ⟨8, .data⟩ (by simp) rfl) ⟨3, .data⟩ (by simp) rfl) ⟨1, .data⟩ (by simp) rfl); rw [hL] at hz; cases hz) rfl (run_call1 (eval_G (show G fa 41 = .agg #[.int .i64 7, .int .i64 ka, .bool y1, .int .i64 c1, .int .i64 x1, .string t1, .slice l1 n1 p1, .int .i64 kb, .bool y2, .int .i64 c2, .int .i64 x2, .string t2, .slice l2 n2 p2, .bool oa, .bool ob, sl] from oks_lit (h.got 0 41 (hw2 ⟨0, .data⟩ (by simp) rfl) rfl) rfl)) callFrom) (unhide KF _ (bv (unhide NB) (h.old (Bool.eq_false_iff.2 fun hq => by have hz := (hcl 3 _ rfl (hcl 8 _ rfl (hcl 9 _ rfl hq ⟨8, .data⟩ (by simp) rfl) ⟨3, .data⟩ (by simp) rfl) ⟨1, .data⟩ (by simp) rfl); rw [hL] at hz; cases hz)))) (fun _ _ q => q)
    · rintro L fa wx h hcl hL hw2
      exact rs_val h (by decide) rfl rfl rfl (by decide) (by decide) rfl (run_ldX (eval_G ((h.keep (s := 3) (by decide)).trans s3)) ((unhide XV).keep (h.old (Bool.eq_false_iff.2 fun hq => by have hz := (hcl 3 _ rfl (hcl 8 _ rfl (hcl 9 _ rfl hq ⟨8, .data⟩ (by simp) rfl) ⟨3, .data⟩ (by simp) rfl) ⟨2, .data⟩ (by simp) rfl); rw [hL] at hz; cases hz)) (unhide XV).low)) rfl
    · rintro L fa wx h hcl hL hw2
      exact rs_call (R := fun v _ => v = told m1) h (by decide) rfl rfl rfl (by decide) (by decide) (Bool.eq_false_iff.2 fun hq => by have hz := (hcl 8 _ rfl (hcl 9 _ rfl hq ⟨8, .data⟩ (by simp) rfl) ⟨3, .data⟩ (by simp) rfl); rw [hL] at hz; cases hz) rfl (run_call2 (eval_G (show G fa 42 = .agg (boundV (if oa = true then 5 else 6) ka y1 c1 x1 t1 l1 n1 p1) from oks_lit (h.got 1 42 (hw2 ⟨1, .data⟩ (by simp) rfl) rfl) rfl)) (eval_G (show G fa 43 = .agg #[u0, u1, u2, u3, u4, u5] from oks_lit (h.got 2 43 (hw2 ⟨2, .data⟩ (by simp) rfl) rfl) rfl)) callDoes) (unhide KD1 _ (bv (unhide NB) (h.old (Bool.eq_false_iff.2 fun hq => by have hz := (hcl 8 _ rfl (hcl 9 _ rfl hq ⟨8, .data⟩ (by simp) rfl) ⟨3, .data⟩ (by simp) rfl); rw [hL] at hz; cases hz)))) (fun _ _ q => q)
    · rintro L fa wx h hcl hL hw2
      exact rs_val h (by decide) rfl rfl rfl (by decide) (by decide) rfl (run_ldT (eval_G ((h.keep (s := 2) (by decide)).trans s2)) ((unhide XT).keep (h.old (Bool.eq_false_iff.2 fun hq => by have hz := (hcl 5 _ rfl (hcl 7 _ rfl (hcl 8 _ rfl (hcl 9 _ rfl hq ⟨8, .data⟩ (by simp) rfl) ⟨7, .data⟩ (by simp) rfl) ⟨5, .data⟩ (by simp) rfl) ⟨4, .data⟩ (by simp) rfl); rw [hL] at hz; cases hz)) (unhide XT).low)) rfl
    · rintro L fa wx h hcl hL hw2
      exact rs_call (R := fun v _ => v = .agg (boundV (if ob = true then 3 else 4) kb y2 c2 x2 t2 l2 n2 p2)) h (by decide) rfl rfl rfl (by decide) (by decide) (Bool.eq_false_iff.2 fun hq => by have hz := (hcl 7 _ rfl (hcl 8 _ rfl (hcl 9 _ rfl hq ⟨8, .data⟩ (by simp) rfl) ⟨7, .data⟩ (by simp) rfl) ⟨5, .data⟩ (by simp) rfl); rw [hL] at hz; cases hz) rfl (run_call1 (eval_G (show G fa 45 = .agg #[.int .i64 7, .int .i64 ka, .bool y1, .int .i64 c1, .int .i64 x1, .string t1, .slice l1 n1 p1, .int .i64 kb, .bool y2, .int .i64 c2, .int .i64 x2, .string t2, .slice l2 n2 p2, .bool oa, .bool ob, sl] from oks_lit (h.got 4 45 (hw2 ⟨4, .data⟩ (by simp) rfl) rfl) rfl)) callUpTo) (unhide KU _ (bv (unhide NB) (h.old (Bool.eq_false_iff.2 fun hq => by have hz := (hcl 7 _ rfl (hcl 8 _ rfl (hcl 9 _ rfl hq ⟨8, .data⟩ (by simp) rfl) ⟨7, .data⟩ (by simp) rfl) ⟨5, .data⟩ (by simp) rfl); rw [hL] at hz; cases hz)))) (fun _ _ q => q)
    · rintro L fa wx h hcl hL hw2
      exact rs_val h (by decide) rfl rfl rfl (by decide) (by decide) rfl (run_ldX (eval_G ((h.keep (s := 3) (by decide)).trans s3)) ((unhide XV).keep (h.old (Bool.eq_false_iff.2 fun hq => by have hz := (hcl 7 _ rfl (hcl 8 _ rfl (hcl 9 _ rfl hq ⟨8, .data⟩ (by simp) rfl) ⟨7, .data⟩ (by simp) rfl) ⟨6, .data⟩ (by simp) rfl); rw [hL] at hz; cases hz)) (unhide XV).low)) rfl
    · rintro L fa wx h hcl hL hw2
      exact rs_call (R := fun v _ => v = told m2) h (by decide) rfl rfl rfl (by decide) (by decide) (Bool.eq_false_iff.2 fun hq => by have hz := (hcl 8 _ rfl (hcl 9 _ rfl hq ⟨8, .data⟩ (by simp) rfl) ⟨7, .data⟩ (by simp) rfl); rw [hL] at hz; cases hz) rfl (run_call2 (eval_G (show G fa 46 = .agg (boundV (if ob = true then 3 else 4) kb y2 c2 x2 t2 l2 n2 p2) from oks_lit (h.got 5 46 (hw2 ⟨5, .data⟩ (by simp) rfl) rfl) rfl)) (eval_G (show G fa 47 = .agg #[u0, u1, u2, u3, u4, u5] from oks_lit (h.got 6 47 (hw2 ⟨6, .data⟩ (by simp) rfl) rfl) rfl)) callDoes) (unhide KD2 _ (bv (unhide NB) (h.old (Bool.eq_false_iff.2 fun hq => by have hz := (hcl 8 _ rfl (hcl 9 _ rfl hq ⟨8, .data⟩ (by simp) rfl) ⟨7, .data⟩ (by simp) rfl); rw [hL] at hz; cases hz)))) (fun _ _ q => q)
    · rintro L fa wx h hcl hL hw2
      exact rs_call (R := fun v _ => v = told (min m1 m2)) h (by decide) rfl rfl rfl (by decide) (by decide) (Bool.eq_false_iff.2 fun hq => by have hz := (hcl 9 _ rfl hq ⟨8, .data⟩ (by simp) rfl); rw [hL] at hz; cases hz) rfl (run_call2 (eval_G (show G fa 44 = told m1 from oks_lit (h.got 3 44 (hw2 ⟨3, .data⟩ (by simp) rfl) rfl) rfl)) (eval_G (show G fa 48 = told m2 from oks_lit (h.got 7 48 (hw2 ⟨7, .data⟩ (by simp) rfl) rfl) rfl)) callAnd) (unhide KA _ (bv (unhide NB) (h.old (Bool.eq_false_iff.2 fun hq => by have hz := (hcl 9 _ rfl hq ⟨8, .data⟩ (by simp) rfl); rw [hL] at hz; cases hz)))) (fun _ _ q => q)
    · rintro L fa wx h hcl hL hw2
      exact rs_store h rfl hL rfl ((h.keep (s := 4) (by decide)).trans s4) (show G fa 49 = told (min m1 m2) from oks_lit (h.got 8 49 (hw2 ⟨8, .data⟩ (by simp) rfl) rfl) rfl) ((unhide XR).keep (h.old hL) (unhide XR).low) ⟨below_put6 (bv (unhide NB) (h.old hL)) (by omega), ((unhide XR).keep (h.old hL) (unhide XR).low).put _ _ _ _ _ _⟩
  case done =>
    rintro L f1 w3 h hall
    obtain ⟨hb, R⟩ := h.fin (hall 9 (by simp))
    replace s4 := (h.keep (s := 4) (by decide)).trans s4
    replace hsz := h.size
    replace hdf := h.defs
    clear h hall hf0 KF KU KD1 KD2 KA XT XV XR NB s2 s3
    obtain ⟨v0, v1, v2, v3, v4, v5, v6, v7, v8, v9, v10, v11, v12, v13, v14, v15, v16, v17, v18, v19, v20, v21, v22, v23, v24, v25, v26, v27, v28, v29, v30, v31, v32, v33, v34, v35, v36, v37, v38, v39, v40, v41, v42, v43, v44, v45, v46, v47, v48, v49, v50, v51, v52, v53, v54, v55, v56, v57, v58, v59, v60, v61, v62, v63, rfl, q4⟩ := frame_in hsz hdf
    rw [s4] at q4
    subst q4
    clear s4 hsz hdf
    obtain ⟨c0, c1, c2, c3, c4, c5⟩ := R.tell
    go_wp2
    exact bodyPost_ret (v := told (min m1 m2)) (by simp [results, Tryz.results24, go_sem, c0, c1, c2, c3, c4, c5]) rfl ⟨rfl, hb⟩
end Go.Proofs.YtcidbhegnnedoaaGreatDoor
