/- TestsParts: two tests in a list; the early ways. (Written by gen_wq.py.) -/
import Derived.Test.YtcidbhegnnedoaaGreatDoorG25
namespace Go.Proofs.YtcidbhegnnedoaaGreatDoor
open Go.RowKit

/-- a test, cell by cell -/
abbrev tF (k : Int) (ka : Int) (ya : Bool) (ca xa : Int) (sa : ByteArray) (la : Option Addr) (na ma : Nat) (kb : Int) (yb : Bool) (cb xb : Int) (sb : ByteArray) (lb : Option Addr) (nb mb : Nat) (oa ob : Bool) (L1 : Option Addr) (N1 M1 : Nat) : Array Value :=
  #[.int .i64 k, .int .i64 ka, .bool ya, .int .i64 ca, .int .i64 xa, .string sa, .slice la na ma, .int .i64 kb, .bool yb, .int .i64 cb, .int .i64 xb, .string sb, .slice lb nb mb, .bool oa, .bool ob, .slice L1 N1 M1]
abbrev t32 (k : Int) (ka : Int) (ya : Bool) (ca xa : Int) (sa : ByteArray) (la : Option Addr) (na ma : Nat) (kb : Int) (yb : Bool) (cb xb : Int) (sb : ByteArray) (lb : Option Addr) (nb mb : Nat) (oa ob : Bool) (L1 : Option Addr) (N1 M1 : Nat) (k2 : Int) (kp : Int) (yp : Bool) (cp xp : Int) (sp : ByteArray) (lp : Option Addr) (np mp : Nat) (kq : Int) (yq : Bool) (cq xq : Int) (sq : ByteArray) (lq : Option Addr) (nq mq : Nat) (od oe : Bool) (L2 : Option Addr) (N2 M2 : Nat) : Array Value :=
  #[.int .i64 k, .int .i64 ka, .bool ya, .int .i64 ca, .int .i64 xa, .string sa, .slice la na ma, .int .i64 kb, .bool yb, .int .i64 cb, .int .i64 xb, .string sb, .slice lb nb mb, .bool oa, .bool ob, .slice L1 N1 M1,
    .int .i64 k2, .int .i64 kp, .bool yp, .int .i64 cp, .int .i64 xp, .string sp, .slice lp np mp, .int .i64 kq, .bool yq, .int .i64 cq, .int .i64 xq, .string sq, .slice lq nq mq, .bool od, .bool oe, .slice L2 N2 M2]
/-- a test that has two kids, in the block P -/
abbrev eA (k : Int) (P : Nat) : Array Value :=
  #[.int .i64 k, .int .i64 0, .bool false, .int .i64 0, .int .i64 0, .string ⟨#[]⟩, .slice none 0 0, .int .i64 0, .bool false, .int .i64 0, .int .i64 0, .string ⟨#[]⟩, .slice none 0 0, .bool false, .bool false, .slice (some ⟨P, 0, none⟩) 2 2]
section
variable {a : Act} {w : World} {d : Option Nat} {t : TypeId} {p : String} {af : Array Edge} {g : Option (Nat × Bool)}
theorem run_fldTB {x : Operand} {b : Nat} (h : a.eval x = .pointer (some ⟨b, 0, none⟩)) : (execOp a.eval ⟨d, .fieldAddr 29 x 2, t, p, af, g⟩).run Tryz.prog w = .ok (.value (.pointer (some ⟨b, 7, none⟩))) w := by
  generalize a.eval = E at h ⊢
  simp [go_sem, h]
/-- a test's B is read -/
theorem run_ldTB {x : Operand} {b : Nat} {v0 v1 v2 v3 v4 v5 v6 v7 v8 v9 v10 v11 v12 v13 v14 v15 : Value} (h : a.eval x = .pointer (some ⟨b, 7, none⟩)) (B : B16 w b #[v0, v1, v2, v3, v4, v5, v6, v7, v8, v9, v10, v11, v12, v13, v14, v15]) :
    (execOp a.eval ⟨d, .load 26 x, t, p, af, g⟩).run Tryz.prog w = .ok (.value (.agg #[v7, v8, v9, v10, v11, v12])) w := by
  obtain ⟨c0, c1, c2, c3, c4, c5, c6, c7, c8, c9, c10, c11, c12, c13, c14, c15⟩ := B.tell
  clear c0 c1 c2 c3 c4 c5 c6 c13 c14 c15
  generalize a.eval = E at h ⊢
  simp [go_sem, h, c7, c8, c9, c10, c11, c12]
abbrev zT16 : Array Value := #[.int .i64 0, .int .i64 0, .bool false, .int .i64 0, .int .i64 0, .string ⟨#[]⟩, .slice none 0 0, .int .i64 0, .bool false, .int .i64 0, .int .i64 0, .string ⟨#[]⟩, .slice none 0 0, .bool false, .bool false, .slice none 0 0]
theorem run_newT : (execOp a.eval ⟨d, .alloc 29, t, p, af, g⟩).run Tryz.prog w = .ok (.value (.pointer (some ⟨w.heap.size, 0, none⟩))) (w.alloc (.cells zT16 29)) := by
  generalize a.eval = E
  simp [go_sem]
theorem But.put16 {b : Nat} {v0 v1 v2 v3 v4 v5 v6 v7 v8 v9 v10 v11 v12 v13 v14 v15 : Value} : But b w (put16 w b v0 v1 v2 v3 v4 v5 v6 v7 v8 v9 v10 v11 v12 v13 v14 v15) :=
  (((((((((((((((But.set.trans But.set).trans But.set).trans But.set).trans But.set).trans But.set).trans But.set).trans But.set).trans But.set).trans But.set).trans But.set).trans But.set).trans But.set).trans But.set).trans But.set).trans But.set)
set_option maxHeartbeats 4000000 in
theorem store_one {s q b : Nat} {k ka c x : Int} {y : Bool} {z : ByteArray} {l : Option Addr} {n m : Nat} (g0 : G a s = .pointer (some ⟨b, 0, none⟩)) (g1 : G a q = .agg (tA k ka y c x z l n m)) (B : BkA w b zT16) :
    ∃ w', (execOp a.eval ⟨none, .store 29 (.tmp s) (.tmp q), t, p, af, none⟩).run Tryz.prog w = .ok .skip w' ∧ But b w w' ∧ BkA w' b (tA k ka y c x z l n m) := by
  refine ⟨put16 w b (.int .i64 k) (.int .i64 ka) (.bool y) (.int .i64 c) (.int .i64 x) (.string z) (.slice l n m) (.int .i64 0) (.bool false) (.int .i64 0) (.int .i64 0) (.string ⟨#[]⟩) (.slice none 0 0) (.bool false) (.bool false) (.slice none 0 0), ?_, But.put16, ?_⟩
  · obtain ⟨c0, c1, c2, c3, c4, c5, c6, c7, c8, c9, c10, c11, c12, c13, c14, c15⟩ := B.tell
    have fr := B.free
    have e0 := eval_G g0
    have e1 := eval_G g1
    generalize a.eval = E at e0 e1 ⊢
    simp [go_sem, e0, e1, c0, c1, c2, c3, c4, c5, c6, c7, c8, c9, c10, c11, c12, c13, c14, c15, fr]
  · have := ((((((((((((((((B.set 0 (.int .i64 k) (by simp)).set 1 (.int .i64 ka) (by simp)).set 2 (.bool y) (by simp)).set 3 (.int .i64 c) (by simp)).set 4 (.int .i64 x) (by simp)).set 5 (.string z) (by simp)).set 6 (.slice l n m) (by simp)).set 7 (.int .i64 0) (by simp)).set 8 (.bool false) (by simp)).set 9 (.int .i64 0) (by simp)).set 10 (.int .i64 0) (by simp)).set 11 (.string ⟨#[]⟩) (by simp)).set 12 (.slice none 0 0) (by simp)).set 13 (.bool false) (by simp)).set 14 (.bool false) (by simp)).set 15 (.slice none 0 0) (by simp))
    simpa using this
end
theorem BkA.b16 {w : World} {b : Nat} {u : Array Value} (h : BkA w b u) : B16 w b u := ⟨h.low, h.cell⟩

set_option maxRecDepth 100000 in
set_option maxHeartbeats 20000000 in
theorem parts_early (K1 : Int) (ka : Int) (ya : Bool) (ca xa : Int) (sa : ByteArray) (la : Option Addr) (na ma : Nat) (kb : Int) (yb : Bool) (cb xb : Int) (sb : ByteArray) (lb : Option Addr) (nb mb : Nat) (oa ob : Bool) (L1 : Option Addr) (N1 M1 : Nat) (K2 : Int) (kp : Int) (yp : Bool) (cp xp : Int) (sp : ByteArray) (lp : Option Addr) (np mp : Nat) (kq : Int) (yq : Bool) (cq xq : Int) (sq : ByteArray) (lq : Option Addr) (nq mq : Nat) (od oe : Bool) (L2 : Option Addr) (N2 M2 : Nat) (kv : Int) (yv : Bool) (cv xv : Int) (sv : ByteArray) (lv : Option Addr) (nv mv : Nat) (W F : Int) (w : World)
    (KA : Hid (∀ wx, Below w.heap.size w wx → Calls Tryz.prog 5 #[] wx fun r w' => r = .returned (.bool true) ∧ Below wx.heap.size wx w'))
    (KW : Hid (∀ wx P, Below w.heap.size w wx → BkA wx P (t32 K1 ka ya ca xa sa la na ma kb yb cb xb sb lb nb mb oa ob L1 N1 M1 K2 kp yp cp xp sp lp np mp kq yq cq xq sq lq nq mq od oe L2 N2 M2) → Calls Tryz.prog 6 #[.agg (eA 8 P)] wx fun r w' => r = .returned (.int .i64 W) ∧ Below wx.heap.size wx w'))
    (KL : Hid (∀ wx, Below w.heap.size w wx → Calls Tryz.prog 7 #[.agg (vA kv yv cv xv sv lv nv mv)] wx fun r w' => r = .returned (.int .i64 F) ∧ Below wx.heap.size wx w'))
    (hE : (W != 0) = true ∨ (W = 0 ∧ (F != 0) = true)) :
    Calls Tryz.prog 3 #[.agg (tF K1 ka ya ca xa sa la na ma kb yb cb xb sb lb nb mb oa ob L1 N1 M1), .agg (tF K2 kp yp cp xp sp lp np mp kq yq cq xq sq lq nq mq od oe L2 N2 M2), .agg (vA kv yv cv xv sv lv nv mv)] w fun e w' => e = .returned (.bool true) ∧ Below w.heap.size w w' := by
  go_enter Tryz.func3, Tryz.ntmps3
  go_wp2_with fail
  refine (unhide KA _ (below3 _ _ _ _)).mono ?_
  rintro r w1 ⟨rfl, hb⟩
  have XA := (B16.new (w := w) (t := 29) (u := (tF K1 ka ya ca xa sa la na ma kb yb cb xb sb lb nb mb oa ob L1 N1 M1))).over.over.keep hb (by simp; omega)
  have XB : B16 w1 (w.heap.size + 1) (tF K2 kp yp cp xp sp lp np mp kq yq cq xq sq lq nq mq od oe L2 N2 M2) := by
    have q := ((B16.new (w := w.alloc (.cells (tF K1 ka ya ca xa sa la na ma kb yb cb xb sb lb nb mb oa ob L1 N1 M1) 29)) (t := 29) (u := (tF K2 kp yp cp xp sp lp np mp kq yq cq xq sq lq nq mq od oe L2 N2 M2))).over (o := .cells (vA kv yv cv xv sv lv nv mv) 26)).keep hb (by simp)
    simpa using q
  have XV : Box w1 (w.heap.size + 1 + 1) (vA kv yv cv xv sv lv nv mv) := (box3g hb).1
  have hw := (below3 w (.cells (tF K1 ka ya ca xa sa la na ma kb yb cb xb sb lb nb mb oa ob L1 N1 M1) 29) (.cells (tF K2 kp yp cp xp sp lp np mp kq yq cq xq sq lq nq mq od oe L2 N2 M2) 29) (.cells (vA kv yv cv xv sv lv nv mv) 26)).trans (hb.mono (by simp; omega))
  clear hb KA
  have HB := hide (bv (bv hw (vbelow_new w1 (.cells (t32 K1 ka ya ca xa sa la na ma kb yb cb xb sb lb nb mb oa ob L1 N1 M1 K2 kp yp cp xp sp lp np mp kq yq cq xq sq lq nq mq od oe L2 N2 M2) 29))) (vbelow_new _ (.cells (eA 8 w1.heap.size) 29)))
  have YA := hide ((XA.over (o := (.cells (t32 K1 ka ya ca xa sa la na ma kb yb cb xb sb lb nb mb oa ob L1 N1 M1 K2 kp yp cp xp sp lp np mp kq yq cq xq sq lq nq mq od oe L2 N2 M2) 29))).over (o := (.cells (eA 8 w1.heap.size) 29)))
  have YB := hide ((XB.over (o := (.cells (t32 K1 ka ya ca xa sa la na ma kb yb cb xb sb lb nb mb oa ob L1 N1 M1 K2 kp yp cp xp sp lp np mp kq yq cq xq sq lq nq mq od oe L2 N2 M2) 29))).over (o := (.cells (eA 8 w1.heap.size) 29)))
  have YV := hide ((XV.over (o := (.cells (t32 K1 ka ya ca xa sa la na ma kb yb cb xb sb lb nb mb oa ob L1 N1 M1 K2 kp yp cp xp sp lp np mp kq yq cq xq sq lq nq mq od oe L2 N2 M2) 29))).over (o := (.cells (eA 8 w1.heap.size) 29)))
  have Y8 : Hid (B16 ((w1.alloc (.cells (t32 K1 ka ya ca xa sa la na ma kb yb cb xb sb lb nb mb oa ob L1 N1 M1 K2 kp yp cp xp sp lp np mp kq yq cq xq sq lq nq mq od oe L2 N2 M2) 29)).alloc (.cells (eA 8 w1.heap.size) 29)) (w1.heap.size + 1) (eA 8 w1.heap.size)) := hide (by
    have q := B16.new (w := w1.alloc (.cells (t32 K1 ka ya ca xa sa la na ma kb yb cb xb sb lb nb mb oa ob L1 N1 M1 K2 kp yp cp xp sp lp np mp kq yq cq xq sq lq nq mq od oe L2 N2 M2) 29)) (t := 29) (u := eA 8 w1.heap.size)
    simpa using q)
  have YK := hide ((BkA.new (w := w1) (t := 29) (u := (t32 K1 ka ya ca xa sa la na ma kb yb cb xb sb lb nb mb oa ob L1 N1 M1 K2 kp yp cp xp sp lp np mp kq yq cq xq sq lq nq mq od oe L2 N2 M2))).over (o := (.cells (eA 8 w1.heap.size) 29)))
  obtain ⟨a0, a1, a2, a3, a4, a5, a6, a7, a8, a9, a10, a11, a12, a13, a14, a15⟩ := XA.tell
  obtain ⟨b0, b1, b2, b3, b4, b5, b6, b7, b8, b9, b10, b11, b12, b13, b14, b15⟩ := XB.tell
  have la := XA.low
  have lb := XB.low
  clear XA XB XV hw
  go_wp2_with fail
  refine (unhide KW _ _ (unhide HB) (unhide YK)).mono ?_
  rintro r w2 ⟨rfl, hb⟩
  have HB2 := hide (bv (unhide HB) hb)
  replace YA := hide ((unhide YA).keep hb (unhide YA).low)
  replace YB := hide ((unhide YB).keep hb (unhide YB).low)
  replace YV := hide ((unhide YV).keep hb (unhide YV).low)
  replace Y8 := hide ((unhide Y8).keep hb (unhide Y8).low)
  replace YK := hide ((unhide YK).keep hb (unhide YK).low)
  clear hb KW HB la lb a0 a1 a2 a3 a4 a5 a6 a7 a8 a9 a10 a11 a12 a13 a14 a15 b0 b1 b2 b3 b4 b5 b6 b7 b8 b9 b10 b11 b12 b13 b14 b15
  rcases hE with hW | ⟨rfl, hF⟩
  · go_wp2
    go_ret
    exact ⟨rfl, unhide HB2⟩
  · obtain ⟨a0, a1, a2, a3, a4, a5⟩ := (unhide YV).tell
    have la := (unhide YV).low
    go_wp2_with fail
    refine (unhide KL _ (unhide HB2)).mono ?_
    rintro r w3 ⟨rfl, hb⟩
    have HB3 := hide (bv (unhide HB2) hb)
    clear hb KL HB2 a0 a1 a2 a3 a4 a5 la
    go_wp2
    go_ret
    exact ⟨rfl, unhide HB3⟩
end Go.Proofs.YtcidbhegnnedoaaGreatDoor

/- TestsParts: the statement that makes a test of two kids. (Written by gen_wq.py.) -/
namespace Go.Proofs.YtcidbhegnnedoaaGreatDoor
open Go.RowKit

section
variable {a : Act} {w : World} {d : Option Nat} {t : TypeId} {p : String} {af : Array Edge} {g : Option (Nat × Bool)}
set_option maxHeartbeats 4000000 in
theorem run_bs2 (K1 : Int) (ka : Int) (ya : Bool) (ca xa : Int) (sa : ByteArray) (la : Option Addr) (na ma : Nat) (kb : Int) (yb : Bool) (cb xb : Int) (sb : ByteArray) (lb : Option Addr) (nb mb : Nat) (oa ob : Bool) (L1 : Option Addr) (N1 M1 : Nat) (K2 : Int) (kp : Int) (yp : Bool) (cp xp : Int) (sp : ByteArray) (lp : Option Addr) (np mp : Nat) (kq : Int) (yq : Bool) (cq xq : Int) (sq : ByteArray) (lq : Option Addr) (nq mq : Nat) (od oe : Bool) (L2 : Option Addr) (N2 M2 : Nat) {x y : Operand} (hx : a.eval x = .agg (tF K1 ka ya ca xa sa la na ma kb yb cb xb sb lb nb mb oa ob L1 N1 M1)) (hy : a.eval y = .agg (tF K2 kp yp cp xp sp lp np mp kq yq cq xq sq lq nq mq od oe L2 N2 M2)) :
    (execOp a.eval ⟨d, .buildSlice 27 2 #[(0, x), (1, y)], t, p, af, g⟩).run Tryz.prog w = .ok (.value (.slice (some ⟨w.heap.size, 0, none⟩) 2 2)) (w.alloc (.cells (t32 K1 ka ya ca xa sa la na ma kb yb cb xb sb lb nb mb oa ob L1 N1 M1 K2 kp yp cp xp sp lp np mp kq yq cq xq sq lq nq mq od oe L2 N2 M2) 29)) := by
  generalize a.eval = E at hx hy ⊢
  simp [go_sem, hx, hy]
theorem run_bldE {x : Operand} {k : Int} {P : Nat} (hx : a.eval x = .slice (some ⟨P, 0, none⟩) 2 2) :
    (execOp a.eval ⟨d, .build 29 #[(0, .const (.int .i64 k)), (5, x)], t, p, af, g⟩).run Tryz.prog w = .ok (.value (.agg (eA k P))) w := by
  have e1 : a.eval (.const (.int .i64 k)) = .int .i64 k := rfl
  generalize a.eval = E at hx e1 ⊢
  simp [go_sem, hx, e1]
set_option maxHeartbeats 4000000 in
theorem store_two {s q b P : Nat} {k : Int} (g0 : G a s = .pointer (some ⟨b, 0, none⟩)) (g1 : G a q = .agg (eA k P)) (B : BkA w b zT16) :
    ∃ w', (execOp a.eval ⟨none, .store 29 (.tmp s) (.tmp q), t, p, af, none⟩).run Tryz.prog w = .ok .skip w' ∧ But b w w' ∧ BkA w' b (eA k P) := by
  refine ⟨put16 w b (.int .i64 k) (.int .i64 0) (.bool false) (.int .i64 0) (.int .i64 0) (.string ⟨#[]⟩) (.slice none 0 0) (.int .i64 0) (.bool false) (.int .i64 0) (.int .i64 0) (.string ⟨#[]⟩) (.slice none 0 0) (.bool false) (.bool false) (.slice (some ⟨P, 0, none⟩) 2 2), ?_, But.put16, ?_⟩
  · obtain ⟨c0, c1, c2, c3, c4, c5, c6, c7, c8, c9, c10, c11, c12, c13, c14, c15⟩ := B.tell
    have fr := B.free
    have e0 := eval_G g0
    have e1 := eval_G g1
    generalize a.eval = E at e0 e1 ⊢
    simp [go_sem, e0, e1, c0, c1, c2, c3, c4, c5, c6, c7, c8, c9, c10, c11, c12, c13, c14, c15, fr]
  · have := ((((((((((((((((B.set 0 (.int .i64 k) (by simp)).set 1 (.int .i64 0) (by simp)).set 2 (.bool false) (by simp)).set 3 (.int .i64 0) (by simp)).set 4 (.int .i64 0) (by simp)).set 5 (.string ⟨#[]⟩) (by simp)).set 6 (.slice none 0 0) (by simp)).set 7 (.int .i64 0) (by simp)).set 8 (.bool false) (by simp)).set 9 (.int .i64 0) (by simp)).set 10 (.int .i64 0) (by simp)).set 11 (.string ⟨#[]⟩) (by simp)).set 12 (.slice none 0 0) (by simp)).set 13 (.bool false) (by simp)).set 14 (.bool false) (by simp)).set 15 (.slice (some ⟨P, 0, none⟩) 2 2) (by simp))
    simpa using this
end

theorem two_kids (K1 : Int) (ka : Int) (ya : Bool) (ca xa : Int) (sa : ByteArray) (la : Option Addr) (na ma : Nat) (kb : Int) (yb : Bool) (cb xb : Int) (sb : ByteArray) (lb : Option Addr) (nb mb : Nat) (oa ob : Bool) (L1 : Option Addr) (N1 M1 : Nat) (K2 : Int) (kp : Int) (yp : Bool) (cp xp : Int) (sp : ByteArray) (lp : Option Addr) (np mp : Nat) (kq : Int) (yq : Bool) (cq xq : Int) (sq : ByteArray) (lq : Option Addr) (nq mq : Nat) (od oe : Bool) (L2 : Option Addr) (N2 M2 : Nat) (k : Int) {ops : Array Oper} {Q : Exit → Act → World → Prop} {a : Act} {w : World} {s3 s4 d0 d1 d2 d3 d4 b3 b4 N : Nat} {t0 t1 t2 t3 t4 t5 : TypeId} {p0 p1 p2 p3 p4 p5 : String} {e0 e1 e2 e3 e4 e5 : Array Edge}
    (h0 : ops[0]? = some ⟨some d0, .load 29 (.tmp s3), t0, p0, e0, none⟩) (h1 : ops[1]? = some ⟨some d1, .load 29 (.tmp s4), t1, p1, e1, none⟩) (h2 : ops[2]? = some ⟨some d2, .buildSlice 27 2 #[(0, .tmp d0), (1, .tmp d1)], t2, p2, e2, none⟩)
    (h3 : ops[3]? = some ⟨some d3, .build 29 #[(0, .const (.int .i64 k)), (5, .tmp d2)], t3, p3, e3, none⟩) (h4 : ops[4]? = some ⟨some d4, .alloc 29, t4, p4, e4, none⟩) (h5 : ops[5]? = some ⟨none, .store 29 (.tmp d4) (.tmp d3), t5, p5, e5, none⟩) (hn : ops.size = 6)
    (g3 : G a s3 = .pointer (some ⟨b3, 0, none⟩)) (g4 : G a s4 = .pointer (some ⟨b4, 0, none⟩)) (B3 : B16 w b3 (tF K1 ka ya ca xa sa la na ma kb yb cb xb sb lb nb mb oa ob L1 N1 M1)) (B4 : B16 w b4 (tF K2 kp yp cp xp sp lp np mp kq yq cq xq sq lq nq mq od oe L2 N2 M2)) (hs : a.tmps.size = N) (l0 : d0 < N) (l1 : d1 < N) (l2 : d2 < N) (l3 : d3 < N) (l4 : d4 < N)
    (n0 : s4 ≠ d0) (n1 : d0 ≠ d1) (n3 : d4 ≠ d3)
    (K : ∀ a' w', (∀ i, i ≠ d0 → i ≠ d1 → i ≠ d2 → i ≠ d3 → i ≠ d4 → G a' i = G a i) → G a' d4 = .pointer (some ⟨w.heap.size + 1, 0, none⟩) → a'.tmps.size = N → a'.defers = a.defers → Below w.heap.size w w' → BkA w' w.heap.size (t32 K1 ka ya ca xa sa la na ma kb yb cb xb sb lb nb mb oa ob L1 N1 M1 K2 kp yp cp xp sp lp np mp kq yq cq xq sq lq nq mq od oe L2 N2 M2) → B16 w' (w.heap.size + 1) (eA k w.heap.size) → Q .normal a' w') :
    wpOps Tryz.prog ops Q (List.range ops.size) a w := by
  rw [hn]
  show wpOps Tryz.prog ops Q [0, 1, 2, 3, 4, 5] a w
  rw [wpOps_cons]
  refine o_val h0 rfl rfl (by rw [hs]; exact l0) (run_ldT (eval_G g3) B3) fun a0 U0 D0 => ?_
  rw [wpOps_cons]
  refine o_val h1 rfl rfl (by rw [U0.size, hs]; exact l1) (run_ldT (eval_G ((U0.rest s4 n0).trans g4)) B4) fun a1 U1 D1 => ?_
  rw [wpOps_cons]
  refine o_val h2 rfl rfl (by rw [U1.size, U0.size, hs]; exact l2) (run_bs2 K1 ka ya ca xa sa la na ma kb yb cb xb sb lb nb mb oa ob L1 N1 M1 K2 kp yp cp xp sp lp np mp kq yq cq xq sq lq nq mq od oe L2 N2 M2 (eval_G ((U1.rest d0 n1).trans U0.got)) (eval_G U1.got)) fun a2 U2 D2 => ?_
  rw [wpOps_cons]
  refine o_val h3 rfl rfl (by rw [U2.size, U1.size, U0.size, hs]; exact l3) (run_bldE (eval_G U2.got)) fun a3 U3 D3 => ?_
  rw [wpOps_cons]
  refine o_val h4 rfl rfl (by rw [U3.size, U2.size, U1.size, U0.size, hs]; exact l4) run_newT fun a4 U4 D4 => ?_
  rw [wpOps_cons]
  have KB := (BkA.new (w := w) (t := 29) (u := (t32 K1 ka ya ca xa sa la na ma kb yb cb xb sb lb nb mb oa ob L1 N1 M1 K2 kp yp cp xp sp lp np mp kq yq cq xq sq lq nq mq od oe L2 N2 M2))).over (o := .cells zT16 29)
  have NB : BkA ((w.alloc (.cells (t32 K1 ka ya ca xa sa la na ma kb yb cb xb sb lb nb mb oa ob L1 N1 M1 K2 kp yp cp xp sp lp np mp kq yq cq xq sq lq nq mq od oe L2 N2 M2) 29)).alloc (.cells zT16 29)) (w.heap.size + 1) zT16 := by
    have q := BkA.new (w := w.alloc (.cells (t32 K1 ka ya ca xa sa la na ma kb yb cb xb sb lb nb mb oa ob L1 N1 M1 K2 kp yp cp xp sp lp np mp kq yq cq xq sq lq nq mq od oe L2 N2 M2) 29)) (t := 29) (u := zT16)
    simpa using q
  have g4' : G a4 d4 = .pointer (some ⟨w.heap.size + 1, 0, none⟩) := by
    have q := U4.got
    simpa using q
  obtain ⟨w', r, hb, B'⟩ := store_two (t := t5) (p := p5) (af := e5) g4' ((U4.rest d3 (Ne.symm n3)).trans U3.got) NB
  unfold wpOp
  rw [h5]
  simp only [Region.wanted, if_true]
  left
  unfold Oper.wp
  rw [r]
  refine K a4 w' (fun i q0 q1 q2 q3 q4 => ?_) g4' (by rw [U4.size, U3.size, U2.size, U1.size, U0.size, hs]) (by rw [D4, D3, D2, D1, D0]) ?_ (KB.but hb (by omega)) B'.b16
  · rw [U4.rest i q4, U3.rest i q3, U2.rest i q2, U1.rest i q1, U0.rest i q0]
  · exact (bv (vbelow_new w (.cells (t32 K1 ka ya ca xa sa la na ma kb yb cb xb sb lb nb mb oa ob L1 N1 M1 K2 kp yp cp xp sp lp np mp kq yq cq xq sq lq nq mq od oe L2 N2 M2) 29)) (vbelow_new _ (.cells zT16 29))).trans (hb.below (by omega) (by simp; omega))
end Go.Proofs.YtcidbhegnnedoaaGreatDoor
