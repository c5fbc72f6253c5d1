/- Walks: ofEach. (Written by gen_yt.py.) -/
import Derived.Test.YtdgojpjmhalilaaGreatDoorG22
import Derived.Test.YtdgojpjmhalilaaGreatDoorG19
namespace Go.Proofs.YtdgojpjmhalilaaGreatDoor
open Go.RowKit Go.MapKept

section
variable {a : Act} {w : World} {d : Option Nat} {t : TypeId} {p : String} {af : Array Edge} {g : Option (Nat × Bool)}
theorem run_fx7 {x : Operand} {b : Nat} (h : a.eval x = .pointer (some ⟨b, 0, none⟩)) : (execOp a.eval ⟨d, .fieldAddr 29 x 2, t, p, af, g⟩).run Tryz.prog w = .ok (.value (.pointer (some ⟨b, 7, none⟩))) w := by
  generalize a.eval = E at h ⊢
  simp [go_sem, h]
theorem run_fx8 {x : Operand} {b : Nat} (h : a.eval x = .pointer (some ⟨b, 0, none⟩)) : (execOp a.eval ⟨d, .fieldAddr 29 x 3, t, p, af, g⟩).run Tryz.prog w = .ok (.value (.pointer (some ⟨b, 8, none⟩))) w := by
  generalize a.eval = E at h ⊢
  simp [go_sem, h]
theorem run_ldStr {x : Operand} {b o : Nat} {s : ByteArray} (h : a.eval x = .pointer (some ⟨b, o, none⟩)) (c : w.cell? ⟨b, o, none⟩ = some (.string s)) : (execOp a.eval ⟨d, .load 9 x, t, p, af, g⟩).run Tryz.prog w = .ok (.value (.string s)) w := by
  generalize a.eval = E at h ⊢
  simp [go_sem, h, c]
theorem run_ldSl {x : Operand} {b o : Nat} {ad : Option Addr} {n cap : Nat} (h : a.eval x = .pointer (some ⟨b, o, none⟩)) (c : w.cell? ⟨b, o, none⟩ = some (.slice ad n cap)) : (execOp a.eval ⟨d, .load 27 x, t, p, af, g⟩).run Tryz.prog w = .ok (.value (.slice ad n cap)) w := by
  generalize a.eval = E at h ⊢
  simp [go_sem, h, c]
theorem run_ixX {x y : Operand} {b off n cap : Nat} {i : Nat} (h : a.eval x = .slice (some ⟨b, off, none⟩) n cap) (hy : a.eval y = .int .i64 (i : Int)) (hi : (i : Int) < (n : Int)) :
    (execOp a.eval ⟨d, .indexAddr 27 x y, t, p, af, g⟩).run Tryz.prog w = .ok (.value (.pointer (some ⟨b, off + i * 9, none⟩))) w := by
  generalize a.eval = E at h hy ⊢
  have h0 : (0 : Int) ≤ (i : Int) := by omega
  simp [go_sem, h, hy, hi, h0]
theorem run_ldX9 {x : Operand} {b o : Nat} {u0 u1 u2 u3 u4 u5 u6 u7 u8 : Value} (h : a.eval x = .pointer (some ⟨b, o, none⟩)) (c : w.cell? ⟨b, o, none⟩ = some u0 ∧ w.cell? ⟨b, o + 1, none⟩ = some u1 ∧ w.cell? ⟨b, o + 2, none⟩ = some u2 ∧ w.cell? ⟨b, o + 3, none⟩ = some u3 ∧ w.cell? ⟨b, o + 4, none⟩ = some u4 ∧ w.cell? ⟨b, o + 5, none⟩ = some u5 ∧ w.cell? ⟨b, o + 6, none⟩ = some u6 ∧ w.cell? ⟨b, o + 7, none⟩ = some u7 ∧ w.cell? ⟨b, o + 8, none⟩ = some u8) :
    (execOp a.eval ⟨d, .load 29 x, t, p, af, g⟩).run Tryz.prog w = .ok (.value (.agg #[u0, u1, u2, u3, u4, u5, u6, u7, u8])) w := by
  obtain ⟨c0, c1, c2, c3, c4, c5, c6, c7, c8⟩ := c
  generalize a.eval = E at h ⊢
  simp [go_sem, h, c0, c1, c2, c3, c4, c5, c6, c7, c8]
theorem run_ext0 {x : Operand} {u v : Value} (h : a.eval x = .tuple #[u, v]) : (execOp a.eval ⟨d, .extract x 0, t, p, af, g⟩).run Tryz.prog w = .ok (.value u) w := by
  generalize a.eval = E at h ⊢
  simp [go_sem, h]
theorem run_ext1 {x : Operand} {u v : Value} (h : a.eval x = .tuple #[u, v]) : (execOp a.eval ⟨d, .extract x 1, t, p, af, g⟩).run Tryz.prog w = .ok (.value v) w := by
  generalize a.eval = E at h ⊢
  simp [go_sem, h]
theorem run_al2 : (execOp a.eval ⟨d, .alloc 47, t, p, af, g⟩).run Tryz.prog w = .ok (.value (.pointer (some ⟨w.heap.size, 0, none⟩))) (w.alloc (.cells #[.int .i64 0, .int .i64 0] 47)) := by
  generalize a.eval = E
  simp [go_sem]
theorem run_call4 {n : Nat} {x y z u : Operand} {vx vy vz vu : Value} {ts : Array TypeId} (hx : a.eval x = vx) (hy : a.eval y = vy) (hz : a.eval z = vz) (hu : a.eval u = vu) (hf : ∀ (zs : Array Value) (w : World), Sem.run Tryz.prog (callFunc n zs) w = .ok (.enter n zs) w) :
    (execOp a.eval ⟨d, .call { callee := .value (.func n), args := #[x, y, z, u], argTypes := ts }, t, p, af, g⟩).run Tryz.prog w = .ok (.enter n #[vx, vy, vz, vu]) w := by
  have e1 : a.eval (.func n) = .func (.func n) #[] #[] := rfl
  generalize a.eval = E at hx hy hz hu e1 ⊢
  simp [go_sem, hx, hy, hz, hu, e1, hf]
end
theorem callTW (zs : Array Value) (w : World) : Sem.run Tryz.prog (callFunc 43 zs) w = .ok (.enter 43 zs) w := by simp [go_sem]

set_option maxRecDepth 100000 in
theorem frame_54 {a : Act} (hs : a.tmps.size = 54) (hd : a.defers = []) :
    ∃ v0 v1 v2 v3 v4 v5 v6 v7 v8 v9 v10 v11 v12 v13 v14 v15 v16 v17 v18 v19 v20 v21 v22 v23 v24 v25 v26 v27 v28 v29 v30 v31 v32 v33 v34 v35 v36 v37 v38 v39 v40 v41 v42 v43 v44 v45 v46 v47 v48 v49 v50 v51 v52 v53 : Value, a = { tmps := #[v0, v1, v2, v3, v4, v5, v6, v7, v8, v9, v10, v11, v12, v13, v14, v15, v16, v17, v18, v19, v20, v21, v22, v23, v24, v25, v26, v27, v28, v29, v30, v31, v32, v33, v34, v35, v36, v37, v38, v39, v40, v41, v42, v43, v44, v45, v46, v47, v48, v49, v50, v51, v52, v53], defers := [] } ∧ v0 = G a 0 ∧ v3 = G a 3 ∧ v4 = G a 4 ∧ v7 = G a 7 ∧ v8 = G a 8 := by
  have e : a = { tmps := #[G a 0, G a 1, G a 2, G a 3, G a 4, G a 5, G a 6, G a 7, G a 8, G a 9, G a 10, G a 11, G a 12, G a 13, G a 14, G a 15, G a 16, G a 17, G a 18, G a 19, G a 20, G a 21, G a 22, G a 23, G a 24, G a 25, G a 26, G a 27, G a 28, G a 29, G a 30, G a 31, G a 32, G a 33, G a 34, G a 35, G a 36, G a 37, G a 38, G a 39, G a 40, G a 41, G a 42, G a 43, G a 44, G a 45, G a 46, G a 47, G a 48, G a 49, G a 50, G a 51, G a 52, G a 53], defers := [] } := frame_is hs hd
  exact ⟨_, _, _, _, _, _, _, _, _, _, _, _, _, _, _, _, _, _, _, _, _, _, _, _, _, _, _, _, _, _, _, _, _, _, _, _, _, _, _, _, _, _, _, _, _, _, _, _, _, _, _, _, _, _, e, rfl, rfl, rfl, rfl, rfl⟩

/-- all but the names' map is as it was, and that tells what it told -/
def Kn (bn : Nat) (f : ByteArray → Option Value) (w w' : World) : Prop := But bn w w' ∧ (MapF bn f w → MapF bn f w')
theorem Kn.trans {bn : Nat} {f : ByteArray → Option Value} : ∀ x y z, Kn bn f x y → Kn bn f y z → Kn bn f x z := fun _ _ _ h k => ⟨h.1.trans k.1, fun q => k.2 (h.2 q)⟩
theorem Kn.of {bn : Nat} {f : ByteArray → Option Value} {w w' : World} (h : Below w.heap.size w w') : Kn bn f w w' := ⟨But.of h, fun q => q.keep h⟩
theorem XMemL.two {B : Nat} {w : World} {x y : XT} {b off : Nat} (h : XMemL B w [x, y] b off) : ∃ cs ds, Nine w b off cs ∧ XMem B w x cs ∧ Nine w b (off + 1 * 9) ds ∧ XMem B w y ds := by
  rw [XMemL, XMemL] at h
  obtain ⟨⟨cs, h1, h2⟩, ⟨ds, h3, h4⟩, _⟩ := h
  exact ⟨cs, ds, h1, h2, h3, h4⟩

set_option maxRecDepth 100000 in
set_option maxHeartbeats 16000000 in
theorem ofEach_any (x y : XT) (IHx : TypedC x) (IHy : TypedC y) {B lo bt bn bf : Nat} {E : Ev} {M : Nat} {w : World} (S : TyS B lo bt bn bf E M w) (k vk : Int) (vy : Bool) (vc vx : Int) (vt : ByteArray) (va : Option Addr) (vn vp : Nat) (s : ByteArray) (b off cap : Nat) (hb : b < B) (hm : XMemL B w [x, y] b off) (okx : x.ok) (oky : y.ok) (hM : M + x.size + y.size ≤ 50000) :
    Calls Tryz.prog 22 #[.pointer (some ⟨bt, 0, none⟩), .agg #[.int .i64 k, .int .i64 vk, .bool vy, .int .i64 vc, .int .i64 vx, .string vt, .slice va vn vp, .string s, .slice (some ⟨b, off, none⟩) 2 cap]] w fun e w' => e = .returned (.tuple #[sh (tyE k s [x, y] E).2, .int .i64 (tyE k s [x, y] E).1]) ∧ MapF bn (envV E) w' ∧ But bn w w' := by
  have hlo := S.lowB
  have hbn := S.names.low
  have hlon := S.lon
  obtain ⟨xcs, ycs, nx, mx, ny, my⟩ := hm.two
  obtain ⟨xk, xvk, xvy, xvc, xvx, xvt, xva, xvn, xvp, xs, xa, xn, xp, rfl⟩ := mx.form
  obtain ⟨yk, yvk, yvy, yvc, yvx, yvt, yva, yvn, yvp, ys, ya, yn, yp, rfl⟩ := my.form
  obtain ⟨z0, z1, z2, z3, z4, z5, z6, z7, z8, hcs, cx⟩ := nx
  simp only [Array.mk.injEq, List.cons.injEq, and_true] at hcs
  obtain ⟨rfl, rfl, rfl, rfl, rfl, rfl, rfl, rfl, rfl⟩ := hcs
  obtain ⟨z0, z1, z2, z3, z4, z5, z6, z7, z8, hcs, cy⟩ := ny
  simp only [Array.mk.injEq, List.cons.injEq, and_true] at hcs
  obtain ⟨rfl, rfl, rfl, rfl, rfl, rfl, rfl, rfl, rfl⟩ := hcs
  obtain ⟨w0, hw0⟩ : ∃ w0, w0 = (w.alloc (.cells #[.int .i64 k, .int .i64 vk, .bool vy, .int .i64 vc, .int .i64 vx, .string vt, .slice va vn vp, .string s, .slice (some ⟨b, off, none⟩) 2 cap] 29)).alloc (.cells #[.int .i64 0, .int .i64 0] 47) := ⟨_, rfl⟩
  have B0 : Below w.heap.size w w0 := by rw [hw0]; exact below2 w _ _
  have X9 : V9 w0 w.heap.size (.int .i64 k) (.int .i64 vk) (.bool vy) (.int .i64 vc) (.int .i64 vx) (.string vt) (.slice va vn vp) (.string s) (.slice (some ⟨b, off, none⟩) 2 cap) := by
    rw [hw0]; exact (V9.new w 29 _ _ _ _ _ _ _ _ _).keep ((Below.refl _ _).alloc (Nat.le_refl _) _) (by simp)
  have Y0 : Bx2 w0 (w.heap.size + 1) (.int .i64 0) (.int .i64 0) := by
    rw [hw0]
    have := Bx2.new (w.alloc (.cells #[.int .i64 k, .int .i64 vk, .bool vy, .int .i64 vc, .int .i64 vx, .string vt, .slice va vn vp, .string s, .slice (some ⟨b, off, none⟩) 2 cap] 29)) 47 (.int .i64 0) (.int .i64 0)
    simpa using this
  have S0 := S.keep B0
  have Cx := hide (IHx B lo bt bn bf E M w0 _ (XMem.below (B0.mono (by omega)) mx) okx S0 (by omega))
  have hBx := tyF_bd x E M S.bd
  have HT : Hid (tyE k s [x, y] E = if (tyF x E).1 ≠ 0 then ((tyF x E).1, ⟨0, 0⟩) else if (tyF x E).2.mayB 5 = false then (9, ⟨0, 0⟩) else lastF k (tyF y (E.upd s (some (tyF x E).2.elem)))) := hide (by rw [tyE, tyE2])
  have HBY := hide (fun a ha => tyF_bd y (E.upd s (some a)) (M + x.size) ((S.bd.mono (by omega)).upd _ _ ha))
  have CTW := hide (fun (a : Sp) (wx : World) (hk : Kn bn (envV E) w0 wx) (ha : a.n ≤ M + x.size) => typedWith_any y IHy (S0.but hk.1 (hk.2 S0.names) (S0.bd.mono (show M ≤ M + x.size by omega))) s a (XMem.below ((But.of (p := bn) B0).trans hk.1 |>.below hlo (by omega)) my) oky ha (by omega))
  generalize tyE k s [x, y] E = ER at *
  generalize tyF x E = r at *
  obtain ⟨r1, r2⟩ := r
  simp only at Cx HT hBx
  have a0 := (S0.box).at0
  have bl : b < w.heap.size := by omega
  have d0 := fun (o : Nat) => (B0.cell (p := ⟨b, o, none⟩) bl)
  have c8 := X9.tell.2.2.2.2.2.2.2.2
  obtain ⟨e0, e1, e2, e3, e4, e5, e6, e7, e8⟩ := cx
  replace e0 := (d0 off).trans e0
  replace e1 := (d0 (off + 1)).trans e1
  replace e2 := (d0 (off + 2)).trans e2
  replace e3 := (d0 (off + 3)).trans e3
  replace e4 := (d0 (off + 4)).trans e4
  replace e5 := (d0 (off + 5)).trans e5
  replace e6 := (d0 (off + 6)).trans e6
  replace e7 := (d0 (off + 7)).trans e7
  replace e8 := (d0 (off + 8)).trans e8
  have CY := hide cy
  have HX9 := hide X9
  have HY0 := hide Y0
  have HB0 := hide B0
  have HN0 := hide S0.names
  have z0 : w0.heap.size = w.heap.size + 1 + 1 := by rw [hw0]; simp
  have l9 : w.heap.size < w0.heap.size := by omega
  have l8 : w.heap.size + 1 < w0.heap.size := by omega
  have hbw0 : b < w0.heap.size := by omega
  clear z0 cy d0 X9 Y0 B0 S0 S IHx IHy mx my okx oky hm
  go_enter Tryz.func22, Tryz.ntmps22
  go_upto_region 1 with fail
  rw [← hw0]
  clear hw0
  go_wp2_with fail
  with_reducible refine (unhide Cx).mono ?_
  rintro e w1 ⟨rfl, N1, Bt1⟩
  clear e0 e1 e2 e3 e4 e5 e6 e7 e8 c8 a0 Cx
  obtain ⟨w2, hw2⟩ : ∃ w2, w2 = w1.alloc (.cells #[.int .i64 (r2.n : Int), .int .i64 r2.k] 47) := ⟨_, rfl⟩
  have B2 : Below w1.heap.size w1 w2 := by rw [hw2]; exact (Below.refl _ _).alloc (Nat.le_refl _) _
  have X6 : Bx2 w2 w1.heap.size (.int .i64 (r2.n : Int)) (.int .i64 r2.k) := by rw [hw2]; exact Bx2.new w1 _ _ _
  have K2 : Kn bn (envV E) w0 w2 := Kn.trans _ _ _ ⟨Bt1, fun _ => N1⟩ (Kn.of B2)
  have lz1 : w0.heap.size ≤ w1.heap.size := Bt1.size
  have lz2 : w1.heap.size < w2.heap.size := X6.low
  have fin : ∀ (wx : World) (n q : Int), Kn bn (envV E) w0 wx → MapF bn (envV E) (put2 wx (w.heap.size + 1) (.int .i64 n) (.int .i64 q)) ∧ But bn w (put2 wx (w.heap.size + 1) (.int .i64 n) (.int .i64 q)) ∧ Bx2 wx (w.heap.size + 1) (.int .i64 0) (.int .i64 0) := fun wx n q hk => by
    have p5 : But (w.heap.size + 1) wx (put2 wx (w.heap.size + 1) (.int .i64 n) (.int .i64 q)) := But.set.trans But.set
    have hB : But bn w wx := (But.of (p := bn) (unhide HB0)).trans hk.1
    exact ⟨(hk.2 (unhide HN0)).but p5 (by omega), hB.on (p5.below (by omega) hB.size), (unhide HY0).but hk.1 (by omega)⟩
  have FIN := hide fin
  have HK2 := hide K2
  have HX6 := hide X6
  clear N1 Bt1 B2 K2 X6 fin
  by_cases hr : r1 = 0
  · subst hr
    rw [if_neg (by simp)] at HT
    have f60 := (unhide HX6).at0
    have f61 := (unhide HX6).at1
    have MB := hide (fun wx => mayBe_any r2 5 wx)
    generalize r2.mayB 5 = p at *
    rw [hw2] at f60 f61
    go_wp2_with fail
    rw [← hw2]
    clear hw2 f60 f61
    with_reducible refine (unhide MB _).mono ?_
    rintro e w3 ⟨rfl, hb3⟩
    have K3 := hide (Kn.trans _ _ _ (unhide HK2) (Kn.of hb3))
    have HX63 := hide ((unhide HX6).keep hb3 (unhide HX6).low)
    have lz3 : w2.heap.size ≤ w3.heap.size := hb3.size
    clear hb3 HX6 HK2 MB
    cases p
    · rw [if_pos rfl] at HT
      obtain ⟨n5, b5, Y⟩ := unhide FIN w3 0 0 (unhide K3)
      have HN5 := hide n5
      have HF5 := hide b5
      have R := Y.put (.int .i64 0) (.int .i64 0)
      have r0 := hide R.at0
      have r1' := hide R.at1
      have x0 := Y.at0
      have x1 := Y.at1
      have t0 := Y.th0
      have t1 := Y.th1
      have lx := Y.low
      clear n5 b5 Y R K3 HX63 FIN CTW
      go_wp2
      refine bodyPost_ret (v := .tuple #[shn 0 0, .int .i64 9]) (by simp [results, Tryz.results22, go_sem, unhide r0, unhide r1']) rfl ⟨by rw [unhide HT]; rfl, unhide HN5, unhide HF5⟩
    · rw [if_neg (by simp)] at HT
      have hr2 : r2.n ≤ 100000 := by omega
      have CE : Hid (∀ wx, Calls Tryz.prog 44 #[sh r2] wx fun e w' => ∃ u, e = .returned u ∧ u = sh r2.elem ∧ Kn bn (envV E) wx w') := hide (fun wx => (elem_any r2 wx hr2).mono (fun _ _ q => ⟨_, q.1, rfl, Kn.of q.2⟩))
      have hel : r2.elem.n ≤ M + x.size := Nat.le_trans (elem_bd r2) hBx
      have HYN := hide (unhide HBY r2.elem (fun b hb => by cases hb; exact hel))
      have CT : Hid (∀ wx, Kn bn (envV E) w3 wx → Calls Tryz.prog 43 #[.pointer (some ⟨bt, 0, none⟩), .string s, sh r2.elem, .agg #[.int .i64 yk, .int .i64 yvk, .bool yvy, .int .i64 yvc, .int .i64 yvx, .string yvt, .slice yva yvn yvp, .string ys, .slice ya yn yp]] wx fun e w' => ∃ u, e = .returned u ∧ u = .tuple #[sh (tyF y (E.upd s (some r2.elem))).2, .int .i64 (tyF y (E.upd s (some r2.elem))).1] ∧ Kn bn (envV E) wx w') := hide (fun wx hk => (unhide CTW r2.elem wx (Kn.trans _ _ _ (unhide K3) hk) hel).mono (fun _ _ q => ⟨_, q.1, rfl, q.2.2, fun _ => q.2.1⟩))
      generalize tyF y (E.upd s (some r2.elem)) = q at *
      generalize r2.elem = e2 at *
      obtain ⟨q1, q2⟩ := q
      simp only at CT HT HYN
      have TR := hide (@Kn.trans bn (envV E))
      have KPP : Hid (∀ v x y, Kn bn (envV E) x y → (∃ b8, v = Value.pointer (some ⟨b8, 0, none⟩) ∧ w3.heap.size ≤ b8 ∧ Bx2 x b8 (.int .i64 0) (.int .i64 0)) → (∃ b8, v = Value.pointer (some ⟨b8, 0, none⟩) ∧ w3.heap.size ≤ b8 ∧ Bx2 y b8 (.int .i64 0) (.int .i64 0))) := hide (fun v x y hk ⟨b8, h1, h2, h3⟩ => ⟨b8, h1, h2, h3.but hk.1 (by omega)⟩)
      have RA : Hid (∀ wx : World, Kn bn (envV E) wx (wx.alloc (.cells #[.int .i64 0, .int .i64 0] 47))) := hide (fun wx => Kn.of ((Below.refl _ _).alloc (Nat.le_refl _) _))
      have PN : Hid (∀ wx : World, Kn bn (envV E) w3 wx → ∃ b8, Value.pointer (some ⟨wx.heap.size, 0, none⟩) = Value.pointer (some ⟨b8, 0, none⟩) ∧ w3.heap.size ≤ b8 ∧ Bx2 (wx.alloc (.cells #[.int .i64 0, .int .i64 0] 47)) b8 (.int .i64 0) (.int .i64 0)) := hide (fun wx hk => ⟨_, rfl, hk.1.size, Bx2.new wx _ _ _⟩)
      have RP : Hid (∀ (wx : World) (b8 : Nat), Kn bn (envV E) w3 wx → w3.heap.size ≤ b8 → ∀ n k : Int, Kn bn (envV E) w3 (put2 wx b8 (.int .i64 n) (.int .i64 k))) := hide (fun wx b8 hk hl n k => by
        have p5 : But b8 wx (put2 wx b8 (.int .i64 n) (.int .i64 k)) := But.set.trans But.set
        exact ⟨hk.1.on (p5.below hl hk.1.size), fun m => (hk.2 m).but p5 (by omega)⟩)
      have KC : Hid (∀ wx, Kn bn (envV E) w3 wx → wx.cell? ⟨w.heap.size, 7, none⟩ = some (.string s) ∧ wx.cell? ⟨w1.heap.size, 0, none⟩ = some (.int .i64 (r2.n : Int)) ∧ wx.cell? ⟨w1.heap.size, 0 + 1, none⟩ = some (.int .i64 r2.k) ∧ wx.cell? ⟨w.heap.size, 8, none⟩ = some (.slice (some ⟨b, off, none⟩) 2 cap) ∧ (wx.cell? ⟨b, off + 1 * 9, none⟩ = some (.int .i64 yk) ∧ wx.cell? ⟨b, off + 1 * 9 + 1, none⟩ = some (.int .i64 yvk) ∧ wx.cell? ⟨b, off + 1 * 9 + 2, none⟩ = some (.bool yvy) ∧ wx.cell? ⟨b, off + 1 * 9 + 3, none⟩ = some (.int .i64 yvc) ∧ wx.cell? ⟨b, off + 1 * 9 + 4, none⟩ = some (.int .i64 yvx) ∧ wx.cell? ⟨b, off + 1 * 9 + 5, none⟩ = some (.string yvt) ∧ wx.cell? ⟨b, off + 1 * 9 + 6, none⟩ = some (.slice yva yvn yvp) ∧ wx.cell? ⟨b, off + 1 * 9 + 7, none⟩ = some (.string ys) ∧ wx.cell? ⟨b, off + 1 * 9 + 8, none⟩ = some (.slice ya yn yp))) := hide (fun wx hk => by
        have k0 := Kn.trans _ _ _ (unhide K3) hk
        have v9 := (unhide HX9).but k0.1 (by omega)
        have x6 := (unhide HX63).but hk.1 (by omega)
        have hB : But bn w wx := (But.of (p := bn) (unhide HB0)).trans k0.1
        have cb := fun (o : Nat) => hB.cell (q := ⟨b, o, none⟩) bl (by show b ≠ bn; omega)
        obtain ⟨g0, g1, g2, g3, g4, g5, g6, g7, g8⟩ := unhide CY
        exact ⟨v9.tell.2.2.2.2.2.2.2.1, x6.at0, x6.at1, v9.tell.2.2.2.2.2.2.2.2, (cb _).trans g0, (cb _).trans g1, (cb _).trans g2, (cb _).trans g3, (cb _).trans g4, (cb _).trans g5, (cb _).trans g6, (cb _).trans g7, (cb _).trans g8⟩)
      clear CTW HX63 CY hel hr2 HBY
      go_upto_region 6 with fail
      refine frame_name ?_
      intro f0 hf0
      have s0 : G f0 0 = .pointer (some ⟨bt, 0, none⟩) := by rw [hf0]; rfl
      have s3 : G f0 3 = .pointer (some ⟨w.heap.size, 0, none⟩) := by rw [hf0]; rfl
      have s4 : G f0 4 = .pointer (some ⟨w.heap.size + 1, 0, none⟩) := by rw [hf0]; rfl
      have s6 : G f0 6 = .pointer (some ⟨w1.heap.size, 0, none⟩) := by rw [hf0]; rfl
      have hsz : f0.tmps.size = 54 := by rw [hf0]; rfl
      have hdf : f0.defers = [] := by rw [hf0]
      refine region_any (I := RW (Kn bn (envV E)) w3 f0 54 [27, 28, 29, 30, 31, 32, 33, 34, 35, 36, 26, 37, 38, 8, 1000, 7] 14 13 8 (fun v x => ∃ b8, v = Value.pointer (some ⟨b8, 0, none⟩) ∧ w3.heap.size ≤ b8 ∧ Bx2 x b8 (.int .i64 0) (.int .i64 0)) (fun v x => ∃ b8, v = Value.pointer (some ⟨b8, 0, none⟩) ∧ w3.heap.size ≤ b8 ∧ Bx2 x b8 (.int .i64 (q2.n : Int)) (.int .i64 q2.k)) [some (.pointer (some ⟨bt, 0, none⟩)), some (.pointer (some ⟨w.heap.size, 7, none⟩)), some (.string s), some (sh r2), some (sh e2), some (.pointer (some ⟨w.heap.size, 8, none⟩)), some (.slice (some ⟨b, off, none⟩) 2 cap), some (.pointer (some ⟨b, off + 1 * 9, none⟩)), some (.agg #[.int .i64 yk, .int .i64 yvk, .bool yvy, .int .i64 yvc, .int .i64 yvx, .string yvt, .slice yva yvn yvp, .string ys, .slice ya yn yp]), some (.tuple #[sh q2, .int .i64 q1]), some (.tuple #[sh q2, .int .i64 q1]), some (sh q2), some (.int .i64 q1), none, none, some (.int .i64 q1)]) (by kernel_rfl) ?wait ?step ?done ?start
      case wait => exact ⟨by simp <;> rfl, by simp <;> rfl, by simp <;> rfl, by simp <;> rfl, by simp <;> rfl, by simp <;> rfl, by simp <;> rfl, by simp <;> rfl, by simp <;> rfl, by simp <;> rfl, by simp <;> rfl, by simp <;> rfl, by simp <;> rfl, by simp <;> rfl, by simp <;> rfl, by simp <;> rfl, trivial⟩
      case start => exact RW.start hsz hdf (Kn.of ((Below.refl _ _).drew))
      case step =>
        refine ⟨?_, ?_, ?_, ?_, ?_, ?_, ?_, ?_, ?_, ?_, ?_, ?_, ?_, ?_, ?_, ?_, trivial⟩
        · rintro L fa wx h hcl hL hw2
          exact rw_val h (unhide TR) (unhide KPP) (by decide) rfl rfl rfl rfl (by decide) (by decide) (by decide) rfl (run_mv (eval_G ((h.keep (s := 0) (by decide)).trans s0))) rfl
        · rintro L fa wx h hcl hL hw2
          exact rw_val h (unhide TR) (unhide KPP) (by decide) rfl rfl rfl rfl (by decide) (by decide) (by decide) rfl (run_fx7 (eval_G ((h.keep (s := 3) (by decide)).trans s3))) rfl
        · rintro L fa wx h hcl hL hw2
          exact rw_val h (unhide TR) (unhide KPP) (by decide) rfl rfl rfl rfl (by decide) (by decide) (by decide) rfl (run_ldStr (eval_G (show G fa 28 = .pointer (some ⟨w.heap.size, 7, none⟩) from h.got 1 28 _ (hw2 ⟨1, .data⟩ (by simp) rfl) rfl rfl)) ((unhide KC _ h.old).1)) rfl
        · rintro L fa wx h hcl hL hw2
          exact rw_val h (unhide TR) (unhide KPP) (by decide) rfl rfl rfl rfl (by decide) (by decide) (by decide) rfl (run_ldS (eval_G ((h.keep (s := 6) (by decide)).trans s6)) ((unhide KC _ h.old).2.1) ((unhide KC _ h.old).2.2.1)) rfl
        · rintro L fa wx h hcl hL hw2
          exact rw_call h (unhide TR) (unhide KPP) (by decide) rfl rfl rfl rfl (by decide) (by decide) (by decide) (Bool.eq_false_iff.2 fun hq => by have hz := (hcl 14 _ rfl hq ⟨4, .phase⟩ (by simp) rfl); rw [hL] at hz; cases hz) rfl (run_call1 (eval_G (show G fa 30 = sh r2 from h.got 3 30 _ (hw2 ⟨3, .data⟩ (by simp) rfl) rfl rfl)) callElem) (unhide CE _) rfl
        · rintro L fa wx h hcl hL hw2
          exact rw_val h (unhide TR) (unhide KPP) (by decide) rfl rfl rfl rfl (by decide) (by decide) (by decide) rfl (run_fx8 (eval_G ((h.keep (s := 3) (by decide)).trans s3))) rfl
        · rintro L fa wx h hcl hL hw2
          exact rw_val h (unhide TR) (unhide KPP) (by decide) rfl rfl rfl rfl (by decide) (by decide) (by decide) rfl (run_ldSl (eval_G (show G fa 32 = .pointer (some ⟨w.heap.size, 8, none⟩) from h.got 5 32 _ (hw2 ⟨5, .data⟩ (by simp) rfl) rfl rfl)) ((unhide KC _ h.old).2.2.2.1)) rfl
        · rintro L fa wx h hcl hL hw2
          exact rw_val h (unhide TR) (unhide KPP) (by decide) rfl rfl rfl rfl (by decide) (by decide) (by decide) rfl (run_ixX (i := 1) (eval_G (show G fa 33 = .slice (some ⟨b, off, none⟩) 2 cap from h.got 6 33 _ (hw2 ⟨6, .data⟩ (by simp) rfl) rfl rfl)) rfl (by decide)) rfl
        · rintro L fa wx h hcl hL hw2
          exact rw_val h (unhide TR) (unhide KPP) (by decide) rfl rfl rfl rfl (by decide) (by decide) (by decide) rfl (run_ldX9 (eval_G (show G fa 34 = .pointer (some ⟨b, off + 1 * 9, none⟩) from h.got 7 34 _ (hw2 ⟨7, .data⟩ (by simp) rfl) rfl rfl)) ((unhide KC _ h.old).2.2.2.2)) rfl
        · rintro L fa wx h hcl hL hw2
          exact rw_call h (unhide TR) (unhide KPP) (by decide) rfl rfl rfl rfl (by decide) (by decide) (by decide) (Bool.eq_false_iff.2 fun hq => by have hz := (hcl 14 _ rfl hq ⟨9, .phase⟩ (by simp) rfl); rw [hL] at hz; cases hz) rfl (run_call4 (eval_G (show G fa 27 = .pointer (some ⟨bt, 0, none⟩) from h.got 0 27 _ (hw2 ⟨0, .data⟩ (by simp) rfl) rfl rfl)) (eval_G (show G fa 29 = .string s from h.got 2 29 _ (hw2 ⟨2, .data⟩ (by simp) rfl) rfl rfl)) (eval_G (show G fa 31 = sh e2 from h.got 4 31 _ (hw2 ⟨4, .data⟩ (by simp) rfl) rfl rfl)) (eval_G (show G fa 35 = .agg #[.int .i64 yk, .int .i64 yvk, .bool yvy, .int .i64 yvc, .int .i64 yvx, .string yvt, .slice yva yvn yvp, .string ys, .slice ya yn yp] from h.got 8 35 _ (hw2 ⟨8, .data⟩ (by simp) rfl) rfl rfl)) callTW) (unhide CT _ h.old) rfl
        · rintro L fa wx h hcl hL hw2
          exact rw_val h (unhide TR) (unhide KPP) (by decide) rfl rfl rfl rfl (by decide) (by decide) (by decide) rfl (run_mv (eval_G (show G fa 36 = .tuple #[sh q2, .int .i64 q1] from h.got 9 36 _ (hw2 ⟨9, .data⟩ (by simp) rfl) rfl rfl))) rfl
        · rintro L fa wx h hcl hL hw2
          exact rw_val h (unhide TR) (unhide KPP) (by decide) rfl rfl rfl rfl (by decide) (by decide) (by decide) rfl (run_ext0 (eval_G (show G fa 26 = .tuple #[sh q2, .int .i64 q1] from h.got 10 26 _ (hw2 ⟨10, .data⟩ (by simp) rfl) rfl rfl))) rfl
        · rintro L fa wx h hcl hL hw2
          exact rw_val h (unhide TR) (unhide KPP) (by decide) rfl rfl rfl rfl (by decide) (by decide) (by decide) rfl (run_ext1 (eval_G (show G fa 26 = .tuple #[sh q2, .int .i64 q1] from h.got 10 26 _ (hw2 ⟨10, .data⟩ (by simp) rfl) rfl rfl))) rfl
        · rintro L fa wx h hcl hL hw2
          exact rw_new h (unhide TR) (by decide) rfl rfl rfl (by decide) (by decide) (Bool.eq_false_iff.2 fun hq => by have hz := (hcl 14 _ rfl hq ⟨13, .phase⟩ (by simp) rfl); rw [hL] at hz; cases hz) rfl rfl run_al2 (unhide RA _) (unhide PN _ h.old)
        · rintro L fa wx h hcl hL hw2
          obtain ⟨b8, hb8, hl8, X8⟩ := h.new (hw2 ⟨13, .data⟩ (by simp) rfl) hL
          exact rw_store h rfl rfl hb8 (show G fa 37 = sh q2 from h.got 11 37 _ (hw2 ⟨11, .data⟩ (by simp) rfl) rfl rfl) X8 (unhide RP _ b8 h.old hl8 _ _) ⟨b8, hb8, hl8, X8.put _ _⟩
        · rintro L fa wx h hcl hL hw2
          exact rw_val h (unhide TR) (unhide KPP) (by decide) rfl rfl rfl rfl (by decide) (by decide) (by decide) rfl (run_asg (eval_G (show G fa 38 = .int .i64 q1 from h.got 12 38 _ (hw2 ⟨12, .data⟩ (by simp) rfl) rfl rfl))) rfl
      case done =>
        rintro L f1 w4 h hall
        obtain ⟨b8, hb8, hl8, X8⟩ := h.fin (hall 14 (by simp))
        have r7 : G f1 7 = .int .i64 q1 := h.got 15 7 _ (hall 15 (by simp)) rfl rfl
        have g0 := (h.keep (s := 0) (by decide)).trans s0
        have g3 := (h.keep (s := 3) (by decide)).trans s3
        have g4 := (h.keep (s := 4) (by decide)).trans s4
        have K4 := hide (Kn.trans _ _ _ (unhide K3) h.old)
        replace hsz := h.size
        replace hdf := h.defs
        have HX8 := hide X8
        clear h hall hf0 s0 s3 s4 s6 CE CT TR KPP RA PN RP KC X8
        obtain ⟨v0, v1, v2, v3, v4, v5, v6, v7, v8, v9, v10, v11, v12, v13, v14, v15, v16, v17, v18, v19, v20, v21, v22, v23, v24, v25, v26, v27, v28, v29, v30, v31, v32, v33, v34, v35, v36, v37, v38, v39, v40, v41, v42, v43, v44, v45, v46, v47, v48, v49, v50, v51, v52, v53, rfl, p0, p3, p4, p7, p8⟩ := frame_54 hsz hdf
        rw [g0] at p0
        rw [g3] at p3
        rw [g4] at p4
        rw [r7] at p7
        rw [hb8] at p8
        subst p0 p3 p4 p7 p8
        clear g0 g3 g4 r7 hb8 hsz hdf
        by_cases hq : q1 = 0
        · subst hq
          have hqn : q2.n ≤ 100000 := by have := unhide HYN; omega
          have h0 := ((unhide HX9).but (unhide K4).1 (by omega)).tell.1
          have i0 := (unhide HX8).at0
          have i1 := (unhide HX8).at1
          by_cases hk : k = 20
          · subst hk
            have HE : Hid (ER = (0, q2.listed)) := hide ((unhide HT).trans (by simp [lastF]))
            have LI := hide (fun wx => listed_any q2 wx hqn)
            generalize q2.listed = q3 at *
            clear HT HYN hqn
            go_wp2_with fail
            with_reducible refine (unhide LI _).mono ?_
            rintro e w5 ⟨rfl, hb5⟩
            obtain ⟨n5, b5, Y⟩ := unhide FIN w5 (q3.n : Int) q3.k (Kn.trans _ _ _ (unhide K4) (Kn.of hb5))
            have HN5 := hide n5
            have HF5 := hide b5
            have R := Y.put (.int .i64 (q3.n : Int)) (.int .i64 q3.k)
            have r0 := hide R.at0
            have r1' := hide R.at1
            have x0 := Y.at0
            have x1 := Y.at1
            have t0 := Y.th0
            have t1 := Y.th1
            have lx := Y.low
            clear n5 b5 Y R FIN LI h0 i0 i1 hb5 K4 HX8
            go_wp2
            refine bodyPost_ret (v := .tuple #[sh q3, .int .i64 0]) (by simp [results, Tryz.results22, go_sem, unhide r0, unhide r1']) rfl ⟨by rw [unhide HE], unhide HN5, unhide HF5⟩
          · have HE : Hid (ER = orW (⟨0, 2⟩, q2.mayB 2)) := hide ((unhide HT).trans (by simp [lastF, hk]))
            have hk' : (k == 20) = false := by simpa using hk
            have MB := hide (fun wx => mayBe_any q2 2 wx)
            generalize q2.mayB 2 = p at *
            have OW := hide (fun wx => orWrong_any ⟨0, 2⟩ p wx)
            generalize orW (⟨0, 2⟩, p) = o at *
            obtain ⟨o1, o2⟩ := o
            simp only at OW
            have KP : Hid (∀ wx, Below w4.heap.size w4 wx → wx.cell? ⟨b8, 0, none⟩ = some (.int .i64 (q2.n : Int)) ∧ wx.cell? ⟨b8, 1, none⟩ = some (.int .i64 q2.k) ∧ wx.cell? ⟨w.heap.size + 1, 0, none⟩ = some (.int .i64 0) ∧ wx.cell? ⟨w.heap.size + 1, 1, none⟩ = some (.int .i64 0) ∧ wx.frozen? ⟨w.heap.size + 1, 0, none⟩ = false ∧ wx.frozen? ⟨w.heap.size + 1, 1, none⟩ = false ∧ w.heap.size + 1 < wx.heap.size) := hide (fun wx hb => by
              have q := (unhide HX8).keep hb (unhide HX8).low
              have y := (unhide FIN wx 0 0 (Kn.trans _ _ _ (unhide K4) (Kn.of hb))).2.2
              exact ⟨q.at0, q.at1, y.at0, y.at1, y.th0, y.th1, y.low⟩)
            obtain ⟨_, _, x0, x1, t0, t1, lx⟩ := unhide KP w4 (Below.refl _ _)
            clear HT HYN hqn hk HX8
            go_wp2_with fail
            first
            | go_region_with (first
              | (go_at_call 40; refine (plain_any _ _).mono ?_; rintro e w5 ⟨rfl, hb⟩; replace hb : Below w4.heap.size w4 w5 := below_via (by repeat (first | assumption | exact Below.refl _ _ | apply Below.drew)) hb; obtain ⟨i0, i1, x0, x1, t0, t1, lx⟩ := unhide KP _ hb)
              | (go_at_call 42; refine (unhide MB _).mono ?_; rintro e w5 ⟨rfl, hb⟩; replace hb : Below w4.heap.size w4 w5 := below_via (by repeat (first | assumption | exact Below.refl _ _ | apply Below.drew)) hb; obtain ⟨i0, i1, x0, x1, t0, t1, lx⟩ := unhide KP _ hb)
              | (go_at_call 24; refine (unhide OW _).mono ?_; rintro e w5 ⟨rfl, hb⟩; replace hb : Below w4.heap.size w4 w5 := below_via (by repeat (first | assumption | exact Below.refl _ _ | apply Below.drew)) hb; obtain ⟨i0, i1, x0, x1, t0, t1, lx⟩ := unhide KP _ hb))
            | fail
            all_goals
              obtain ⟨n5, b5, Y⟩ := unhide FIN _ (o2.n : Int) o2.k (Kn.trans _ _ _ (unhide K4) (Kn.of hb))
              have HN5 := hide n5
              have HF5 := hide b5
              have R := Y.put (.int .i64 (o2.n : Int)) (.int .i64 o2.k)
              have r0 := hide R.at0
              have r1' := hide R.at1
              clear n5 b5 Y R FIN MB OW KP K4
              go_wp2
              refine bodyPost_ret (v := .tuple #[sh o2, .int .i64 o1]) (by simp [results, Tryz.results22, go_sem, unhide r0, unhide r1']) rfl ⟨by rw [unhide HE], unhide HN5, unhide HF5⟩
        · have HE : Hid (ER = (q1, ⟨0, 0⟩)) := hide ((unhide HT).trans (by simp [lastF, hq]))
          have hq' : (q1 != 0) = true := by simpa using hq
          obtain ⟨n5, b5, Y⟩ := unhide FIN w4 0 0 (unhide K4)
          have HN5 := hide n5
          have HF5 := hide b5
          have R := Y.put (.int .i64 0) (.int .i64 0)
          have r0 := hide R.at0
          have r1' := hide R.at1
          have x0 := Y.at0
          have x1 := Y.at1
          have t0 := Y.th0
          have t1 := Y.th1
          have lx := Y.low
          clear n5 b5 Y R FIN HT HYN hq K4 HX8
          go_wp2
          refine bodyPost_ret (v := .tuple #[shn 0 0, .int .i64 q1]) (by simp [results, Tryz.results22, go_sem, unhide r0, unhide r1']) rfl ⟨by rw [unhide HE]; rfl, unhide HN5, unhide HF5⟩
  · rw [if_pos hr] at HT
    have hr' : (r1 != 0) = true := by simpa using hr
    obtain ⟨n5, b5, Y⟩ := unhide FIN w2 0 0 (unhide HK2)
    have HN5 := hide n5
    have HF5 := hide b5
    have R := Y.put (.int .i64 0) (.int .i64 0)
    have r0 := hide R.at0
    have r1' := hide R.at1
    have x0 := Y.at0
    have x1 := Y.at1
    have t0 := Y.th0
    have t1 := Y.th1
    have lx := Y.low
    clear n5 b5 Y R FIN HK2 HX6 CTW hr
    go_upto_region 2 with fail
    rw [← hw2]
    clear hw2
    go_wp2
    refine bodyPost_ret (v := .tuple #[shn 0 0, .int .i64 r1]) (by simp [results, Tryz.results22, go_sem, unhide r0, unhide r1']) rfl ⟨by rw [unhide HT]; rfl, unhide HN5, unhide HF5⟩
end Go.Proofs.YtdgojpjmhalilaaGreatDoor
