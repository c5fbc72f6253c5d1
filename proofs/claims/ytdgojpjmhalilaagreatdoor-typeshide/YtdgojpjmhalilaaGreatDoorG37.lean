/- TypesHide: plain facts, runs of operations, vars that are put together. -/
import Derived.Test.YtdgojpjmhalilaaGreatDoorG36
namespace Go.Proofs.YtdgojpjmhalilaaGreatDoor
open Go.RowKit Go.MapKept

theorem tp_zero {x : XT} {l : List (ByteArray × TT)} (h : (tpF x l).1 = 0) : waF x l = 0 ∧ tpF x l = tyF x (envOf (spv l)) := by
  unfold tpF at *
  by_cases g : waF x l ≠ 0
  · rw [if_pos g] at h; exact absurd h g
  · rw [if_neg g]; exact ⟨by simpa using g, rfl⟩
theorem tp_same {x : XT} {l : List (ByteArray × TT)} {m : ByteArray × TT} (h1 : (tpF x l).1 = 0) (h2 : (tpF x (m :: l)).1 = 0) : tpF x (m :: l) = tpF x l := by
  obtain ⟨_, e1⟩ := tp_zero h1
  obtain ⟨_, e2⟩ := tp_zero h2
  rw [e1] at h1
  rw [e1, e2]
  exact tyF_le x _ _ (envOf_le (m.1, spN m.2) (spv l)) h1
theorem tp_kk {x : XT} {l : List (ByteArray × TT)} (h1 : (tpF x l).1 = 0) : (tpF x l).2.k ≠ 5 := by
  obtain ⟨e0, e1⟩ := tp_zero h1
  rw [e1]
  obtain ⟨_, _, _, hv⟩ := waF_right e0
  exact tyF_kk x _ (envA_kk (spv l) _ (fun s a h => by cases h) (fun v hv' => by have := (hv v hv').2; omega))

section
variable {a : Act} {w : World} {d : Option Nat} {t : TypeId} {p : String} {af : Array Edge} {g : Option (Nat × Bool)}
theorem run_ldV {x : Operand} {b : Nat} {u0 u1 u2 : Value} (h : a.eval x = .pointer (some ⟨b, 0, none⟩)) (c : w.cell? ⟨b, 0, none⟩ = some u0 ∧ w.cell? ⟨b, 1, none⟩ = some u1 ∧ w.cell? ⟨b, 2, none⟩ = some u2) :
    (execOp a.eval ⟨d, .load 35 x, t, p, af, g⟩).run Tryz.prog w = .ok (.value (.agg #[u0, u1, u2])) w := by
  obtain ⟨c0, c1, c2⟩ := c
  generalize a.eval = E at h ⊢
  simp [go_sem, h, c0, c1, c2]
theorem run_bld0 : (execOp a.eval ⟨d, .buildSlice 30 0 #[], t, p, af, g⟩).run Tryz.prog w = .ok (.value (.slice (some ⟨w.heap.size, 0, none⟩) 0 0)) (w.alloc (.cells #[] 35)) := by
  generalize a.eval = E
  simp [go_sem]
theorem run_bld1 {x : Operand} {s : ByteArray} {k : Int} {ad : Option Addr} {n cap : Nat} (h : a.eval x = .agg #[.string s, .int .i64 k, .slice ad n cap]) : (execOp a.eval ⟨d, .buildSlice 30 1 #[(0, x)], t, p, af, g⟩).run Tryz.prog w = .ok (.value (.slice (some ⟨w.heap.size, 0, none⟩) 1 1)) (w.alloc (.cells #[.string s, .int .i64 k, .slice ad n cap] 35)) := by
  generalize a.eval = E at h ⊢
  simp [go_sem, h]
theorem run_al33 : (execOp a.eval ⟨d, .alloc 33, t, p, af, g⟩).run Tryz.prog w = .ok (.value (.pointer (some ⟨w.heap.size, 0, none⟩))) (w.alloc (.cells #[.int .i64 0, .slice none 0 0] 33)) := by
  generalize a.eval = E
  simp [go_sem]
theorem run_app {s x : Operand} {v xv v' : Value} {w' : World} (hs : a.eval s = v) (hx : a.eval x = xv) (hr : (Builtin.append_ #[30, 30] t #[v, xv]).run Tryz.prog w = .ok v' w') :
    (execOp a.eval ⟨d, .call { callee := .builtin .append, args := #[s, x], argTypes := #[30, 30] }, t, p, af, g⟩).run Tryz.prog w = .ok (.value v') w' := by
  unfold execOp
  simp only [resolve, invoke, builtin, Sem.run_bind, Sem.run_pure, Result.andThen_ok, List.map_toArray, List.map_cons, List.map_nil, hs, hx, hr]
end
section
variable {ops : Array Oper} {Q : Exit → Act → World → Prop} {i : Nat} {K : Act → World → Prop} {a : Act} {w : World} {t : TypeId} {p : String} {af : Array Edge}
theorem os_store33 {s x b : Nat} {k : Int} {ad : Option Addr} {n cap : Nat} {u v : Value} (hi : ops[i]? = some ⟨none, .store 33 (.tmp s) (.tmp x), t, p, af, none⟩) (g0 : G a s = .pointer (some ⟨b, 0, none⟩)) (g1 : G a x = .agg #[.int .i64 k, .slice ad n cap]) (B : Bx2 w b u v)
    (h : K a (put2 w b (.int .i64 k) (.slice ad n cap))) : wpOp Tryz.prog ops Q i K a w := by
  have r : (execOp a.eval ⟨none, .store 33 (.tmp s) (.tmp x), t, p, af, none⟩).run Tryz.prog w = .ok .skip (put2 w b (.int .i64 k) (.slice ad n cap)) := by
    have c0 := B.at0
    have c1 := B.at1
    have f0 := B.th0
    have f1 := B.th1
    have e0 := eval_G g0
    have e1 := eval_G g1
    generalize a.eval = E at e0 e1 ⊢
    simp [go_sem, e0, e1, c0, c1, f0, f1]
  unfold wpOp
  rw [hi]
  simp only [Region.wanted, if_true]
  left
  unfold Oper.wp
  rw [r]
  exact h
end
theorem callType (zs : Array Value) (w : World) : Sem.run Tryz.prog (callFunc 5 zs) w = .ok (.enter 5 zs) w := by simp [go_sem]

/-- the vars' cells -/
def vcs (w : World) (b off n : Nat) : List Value := (List.range (n * 3)).map fun j => (w.cell? ⟨b, off + j, none⟩).getD undef
theorem vcs_at {w : World} {b off n j : Nat} (h : j < n * 3) : (vcs w b off n)[j]? = some ((w.cell? ⟨b, off + j, none⟩).getD undef) := by simp [vcs, h]
theorem vcs_len (w : World) (b off n : Nat) : (vcs w b off n).length = n * 3 := by simp [vcs]
theorem VMemL.cells {B : Nat} {w : World} {l : List (ByteArray × TT)} {b off : Nat} (h : VMemL B w l b off) {j : Nat} (hj : j < l.length * 3) : ∃ u, w.cell? ⟨b, off + j, none⟩ = some u ∧ u.oneCell' = true := by
  obtain ⟨v, hv⟩ : ∃ v, l[j / 3]? = some v := ⟨_, List.getElem?_eq_getElem (by omega)⟩
  obtain ⟨k, a, n, cap, h1, h2, h3, _⟩ := h _ v hv
  rcases (by omega : j = j / 3 * 3 ∨ j = j / 3 * 3 + 1 ∨ j = j / 3 * 3 + 2) with e | e | e
  · rw [e]; exact ⟨_, h1, rfl⟩
  · rw [e, ← Nat.add_assoc]; exact ⟨_, h2, rfl⟩
  · rw [e, ← Nat.add_assoc]; exact ⟨_, h3, rfl⟩
theorem vcs_tell {B : Nat} {w : World} {l : List (ByteArray × TT)} {b off : Nat} (h : VMemL B w l b off) : ∀ j u, (vcs w b off l.length)[j]? = some u → w.cell? ⟨b, off + j, none⟩ = some u ∧ u.oneCell' = true := by
  intro j u hu
  have hj : j < l.length * 3 := by
    have := (List.getElem?_eq_some_iff.1 hu).1
    rwa [vcs_len] at this
  obtain ⟨u', h1, h2⟩ := h.cells hj
  rw [vcs_at hj, h1] at hu
  simp at hu
  subst hu
  exact ⟨h1, h2⟩
/-- a slice that owns the cells of a var and of vars -/
theorem OV.vs {base B : Nat} {w w1 : World} {v : Value} {l : List (ByteArray × TT)} {b off : Nat} {ms : ByteArray} {mT : TT} {mk : Int} {ma : Option Addr} {mn mcap : Nat} (lc : List Value)
    (h : OV base w v (1 + l.length) (c3 ms mk ma mn mcap ++ lc)) (hlc : l ≠ [] → lc = vcs w1 b off l.length ∧ VMemL B w1 l b off) (hlen : l.length ≤ 1000) (hb : ∀ T u, MemT B w1 T u → MemT w.heap.size w T u) (hms : ms.size ≤ 9223372036854775807) (hm : MemT w.heap.size w mT #[.int .i64 mk, .slice ma mn mcap]) : VS w.heap.size w v ((ms, mT) :: l) := by
  rcases h.2 with ⟨_, h0⟩ | ⟨g, cap, cur, hv, hg, hh, h1, h2, h3, h4⟩
  · omega
  refine ⟨by simp; omega, _, cap, by rw [hv, List.length_cons, Nat.add_comm], fun _ => ⟨g, 0, rfl, blk_lt hh, ?_⟩⟩
  have cell : ∀ j u, (c3 ms mk ma mn mcap ++ lc)[j]? = some u → w.cell? ⟨g, j, none⟩ = some u := by
    intro j u hu
    rw [← h4, List.getElem?_take] at hu
    split at hu
    · simp [World.cell?, hh]
      simpa using hu
    · cases hu
  intro i u hi
  cases i with
  | zero =>
    simp only [List.getElem?_cons_zero, Option.some.injEq] at hi
    subst hi
    exact ⟨mk, ma, mn, mcap, cell 0 _ rfl, cell 1 _ rfl, cell 2 _ rfl, hm, hms⟩
  | succ i =>
    have hi' : l[i]? = some u := by simpa using hi
    have hlt := (List.getElem?_eq_some_iff.1 hi').1
    obtain ⟨rfl, hvm⟩ := hlc (by intro e; subst e; simp at hlt)
    obtain ⟨k, a, n, cp, q1, q2, q3, q4, q5⟩ := hvm i u hi'
    have c : ∀ r x, r < 3 → w1.cell? ⟨b, off + (i * 3 + r), none⟩ = some x → w.cell? ⟨g, (i + 1) * 3 + r, none⟩ = some x := by
      intro r x hr hx
      refine cell _ _ ?_
      rw [List.getElem?_append_right (by show 3 ≤ _; omega), show (i + 1) * 3 + r - (c3 ms mk ma mn mcap).length = i * 3 + r by show (i + 1) * 3 + r - 3 = _; omega, vcs_at (by omega), hx]
      rfl
    refine ⟨k, a, n, cp, ?_, ?_, ?_, hb _ _ q4, q5⟩
    · rw [Nat.zero_add]; exact c 0 _ (by omega) (by rw [Nat.add_zero]; exact q1)
    · rw [Nat.zero_add]; exact c 1 _ (by omega) (by rw [← Nat.add_assoc]; exact q2)
    · rw [Nat.zero_add]; exact c 2 _ (by omega) (by rw [← Nat.add_assoc]; exact q3)
end Go.Proofs.YtdgojpjmhalilaaGreatDoor

/- TypesHide: the law's walk. (Written by gen_zc.py.) -/
namespace Go.Proofs.YtdgojpjmhalilaaGreatDoor
open Go.RowKit Go.MapKept

set_option maxRecDepth 100000 in
theorem frame_42 {a : Act} (hs : a.tmps.size = 42) (hd : a.defers = []) :
    ∃ v0 v1 v2 v3 v4 v5 v6 v7 v8 v9 v10 v11 v12 v13 v14 v15 v16 v17 v18 v19 v20 v21 v22 v23 v24 v25 v26 v27 v28 v29 v30 v31 v32 v33 v34 v35 v36 v37 v38 v39 v40 v41 : Value, a = { tmps := #[v0, v1, v2, v3, v4, v5, v6, v7, v8, v9, v10, v11, v12, v13, v14, v15, v16, v17, v18, v19, v20, v21, v22, v23, v24, v25, v26, v27, v28, v29, v30, v31, v32, v33, v34, v35, v36, v37, v38, v39, v40, v41], defers := [] } ∧ v7 = G a 7 ∧ v8 = G a 8 ∧ v9 = G a 9 ∧ v10 = G a 10 := by
  have e : a = { tmps := #[G a 0, G a 1, G a 2, G a 3, G a 4, G a 5, G a 6, G a 7, G a 8, G a 9, G a 10, G a 11, G a 12, G a 13, G a 14, G a 15, G a 16, G a 17, G a 18, G a 19, G a 20, G a 21, G a 22, G a 23, G a 24, G a 25, G a 26, G a 27, G a 28, G a 29, G a 30, G a 31, G a 32, G a 33, G a 34, G a 35, G a 36, G a 37, G a 38, G a 39, G a 40, G a 41], defers := [] } := frame_is hs hd
  exact ⟨_, _, _, _, _, _, _, _, _, _, _, _, _, _, _, _, _, _, _, _, _, _, _, _, _, _, _, _, _, _, _, _, _, _, _, _, _, _, _, _, _, _, e, rfl, rfl, rfl, rfl⟩
theorem OV.two {base : Nat} {w : World} {v : Value} {mc : List Value} (hbase : base ≤ w.heap.size) (o1 : OV base w v 0 []) (b26 : Nat) (hl : mc.length = 3) (h1 : ∀ u ∈ mc, u.oneCell' = true) (c26 : ∀ j u, mc[j]? = some u → w.cell? ((⟨b26, 0, none⟩ : Addr).add j) = some u) (ty : TypeId) :
    ∃ v' w', (Builtin.append_ #[30, 30] ty #[v, .slice (some ⟨b26, 0, none⟩) 1 1]).run Tryz.prog w = .ok v' w' ∧ OV base w' v' 1 mc ∧ w.grownBy w' v.ownBlock ∧ (v'.ownBlock = v.ownBlock ∨ v'.ownBlock = some w.heap.size) := by
  obtain ⟨i0, hi, hz0, hz1, hzb⟩ := info_parts info_var
  obtain ⟨v', w', hr, h2, h3, _, h5⟩ := run_append_own_at (P := Tryz.prog) w base 30 ty 35 i0 _ 3 48 Tryz.underlying30 hi hz0 hz1 hzb rfl (by decide) v 0 [] o1 ⟨b26, 0, none⟩ 1 1 mc (by omega) c26 h1 (by decide) (by decide) hbase
  exact ⟨v', w', hr, by simpa [OV] using h2, h3, h5⟩
theorem OV.more {base : Nat} {w : World} {v : Value} {mc lc : List Value} {n : Nat} {vv : Value} (hbase : base ≤ w.heap.size) (o4 : OV base w v 1 mc) (hn : n ≤ 1000) (hc : (vv = .slice none 0 0 ∧ n = 0 ∧ lc = []) ∨ ∃ b off cap, vv = .slice (some ⟨b, off, none⟩) n cap ∧ lc.length = n * 3 ∧ ∀ j u, lc[j]? = some u → w.cell? ⟨b, off + j, none⟩ = some u ∧ u.oneCell' = true) (ty : TypeId) :
    ∃ v' w', (Builtin.append_ #[30, 30] ty #[v, vv]).run Tryz.prog w = .ok v' w' ∧ OV base w' v' (1 + n) (mc ++ lc) ∧ w.grownBy w' v.ownBlock := by
  obtain ⟨i0, hi, hz0, hz1, hzb⟩ := info_parts info_var
  rcases hc with ⟨rfl, rfl, rfl⟩ | ⟨b, off, cap, rfl, hl, hcell⟩
  · exact ⟨v, w, run_append_owned_none (P := Tryz.prog) (w := w) base 30 ty 35 i0 3 Tryz.underlying30 hi v 1 mc o4, by simpa using o4, ⟨rfl, rfl, rfl, Nat.le_refl _, fun _ _ _ => rfl⟩⟩
  · obtain ⟨v', w', hr, h2, h3, _, _⟩ := run_append_own_at (P := Tryz.prog) w base 30 ty 35 i0 _ 3 48 Tryz.underlying30 hi hz0 hz1 hzb rfl (by decide) v 1 mc o4 ⟨b, off, none⟩ n cap lc hl (fun j u hu => by rw [Lib.add_plain]; exact (hcell j u hu).1) (fun u hu => by obtain ⟨j, hj⟩ := List.getElem?_of_mem hu; exact (hcell j u hj).2) (by unfold maxLen; omega) (by omega) hbase
    exact ⟨v', w', hr, h2, h3⟩

set_option maxRecDepth 100000 in
set_option maxHeartbeats 16000000 in
theorem hide_walk (x : XT) (cs : Array Value) (l : List (ByteArray × TT)) (vv : Value) (ms : ByteArray) (mT : TT) (mk : Int) (ma : Option Addr) (mn mcap : Nat) (w : World) (hx : XMem w.heap.size w x cs) (hv : VS w.heap.size w vv l) (hv0 : vv = .slice none 0 0 ∨ ∃ b off cap, vv = .slice (some ⟨b, off, none⟩) l.length cap) (hm : MemT w.heap.size w mT #[.int .i64 mk, .slice ma mn mcap]) (hms : ms.size ≤ 9223372036854775807) (hG : GdT w.heap.size w) :
    Calls Tryz.prog 3 #[.agg cs, vv, .agg #[.string ms, .int .i64 mk, .slice ma mn mcap]] w fun e w' => e = .returned (.bool true) ∧ Below w.heap.size w w' := by
  obtain ⟨xk, vk, vy, vc, vx, vt, va, vn, vp, s, xa, xn, xp, rfl⟩ := hx.form
  obtain ⟨w0, hw0⟩ : ∃ w0, w0 = (w.alloc (.cells #[.int .i64 xk, .int .i64 vk, .bool vy, .int .i64 vc, .int .i64 vx, .string vt, .slice va vn vp, .string s, .slice xa xn xp] 29)).alloc (.cells #[.string ms, .int .i64 mk, .slice ma mn mcap] 35) := ⟨_, rfl⟩
  have B0 : Below w.heap.size w w0 := by rw [hw0]; exact below2 w _ _
  have X9 : V9 w0 w.heap.size (.int .i64 xk) (.int .i64 vk) (.bool vy) (.int .i64 vc) (.int .i64 vx) (.string vt) (.slice va vn vp) (.string s) (.slice xa xn xp) := by
    rw [hw0]; exact (V9.new w 29 _ _ _ _ _ _ _ _ _).keep ((Below.refl _ _).alloc (Nat.le_refl _) _) (by simp)
  have z0 : w0.heap.size = w.heap.size + 1 + 1 := by rw [hw0]; simp
  have M3 : Hid (∀ wx, Below w0.heap.size w0 wx → wx.cell? ⟨w.heap.size + 1, 0, none⟩ = some (.string ms) ∧ wx.cell? ⟨w.heap.size + 1, 1, none⟩ = some (.int .i64 mk) ∧ wx.cell? ⟨w.heap.size + 1, 2, none⟩ = some (.slice ma mn mcap)) := hide (fun wx hb => by
    have c : ∀ o, wx.cell? ⟨w.heap.size + 1, o, none⟩ = w0.cell? ⟨w.heap.size + 1, o, none⟩ := fun o => hb.cell (p := ⟨w.heap.size + 1, o, none⟩) (by show w.heap.size + 1 < w0.heap.size; omega)
    exact ⟨by rw [c, hw0]; simp [go_sem], by rw [c, hw0]; simp [go_sem], by rw [c, hw0]; simp [go_sem]⟩)
  have l0 : w.heap.size < w0.heap.size := by omega
  have l1 : w.heap.size + 1 < w0.heap.size := by omega
  -- whatever the world that has grown, all is there
  have AX := hide (fun wx (hb : Below w.heap.size w wx) => XMem.mono hb.size (XMem.below hb hx))
  have AV := hide (fun wx (hb : Below w.heap.size w wx) => (hv.below hb).mono hb.size)
  have AG := hide (fun wx (hb : Below w.heap.size w wx) => hG.up hb hb.size)
  have AM := hide (fun wx (hb : Below w.heap.size w wx) => hm.grow hb)
  have HA := hide (fun wx => alive_any wx)
  have CT1 := hide (fun wx (hb : Below w.heap.size w wx) => type_any x _ l vv wx (unhide AX wx hb) (unhide AV wx hb) (unhide AG wx hb))
  have CT2 := hide (fun wx (hb : Below w.heap.size w wx) v2 (h : VS wx.heap.size wx v2 ((ms, mT) :: l)) => type_any x _ ((ms, mT) :: l) v2 wx (unhide AX wx hb) h (unhide AG wx hb))
  have TS := hide (fun h1 h2 => tp_same (x := x) (l := l) (m := (ms, mT)) h1 h2)
  have TK := hide (fun h1 => tp_kk (x := x) (l := l) h1)
  obtain ⟨vad, vcap, hvv⟩ : ∃ a cap, vv = .slice a l.length cap := by obtain ⟨_, a, cap, h, _⟩ := hv; exact ⟨a, cap, h⟩
  have HV0 := hide hv0
  have HV := hide hv
  obtain ⟨lc, b, off, HLC⟩ : ∃ lc b off, Hid ((l ≠ [] → lc = vcs w b off l.length ∧ VMemL w.heap.size w l b off) ∧ (b < w.heap.size ∨ l = []) ∧ ((vv = .slice none 0 0 ∧ l.length = 0 ∧ lc = []) ∨ ∃ b' off' cap, vv = .slice (some ⟨b', off', none⟩) l.length cap ∧ lc.length = l.length * 3 ∧ (l ≠ [] → b' = b ∧ off' = off))) := by
    obtain ⟨_, a, cap, h, hk⟩ := hv
    by_cases hl : l = []
    · subst hl
      rcases hv0 with h0 | ⟨b', off', cap', h0⟩
      · exact ⟨[], 0, 0, hide ⟨fun q => absurd rfl q, .inr rfl, .inl ⟨h0, rfl, rfl⟩⟩⟩
      · exact ⟨[], 0, 0, hide ⟨fun q => absurd rfl q, .inr rfl, .inr ⟨b', off', cap', h0, rfl, fun q => absurd rfl q⟩⟩⟩
    · obtain ⟨b, off, rfl, hb, hvm⟩ := hk hl
      exact ⟨_, b, off, hide ⟨fun _ => ⟨rfl, hvm⟩, .inl hb, .inr ⟨b, off, cap, h, vcs_len _ _ _ _, fun _ => ⟨rfl, rfl⟩⟩⟩⟩
  generalize tpF x l = p at *
  obtain ⟨p1, p2⟩ := p
  generalize tpF x ((ms, mT) :: l) = q at *
  obtain ⟨err, q2⟩ := q
  simp only at CT1 CT2 TS TK
  have HX9 := hide X9
  have HB0 := hide B0
  have HMS := hide hms
  have hlen63 := hv.len
  subst hvv
  clear X9 B0 hx hv hv0 hm hG hms z0
  go_enter Tryz.func3, Tryz.ntmps3
  go_upto_region 1 with fail
  rw [← hw0]
  clear hw0
  go_wp2_with fail
  with_reducible refine (unhide HA _).mono ?_
  rintro e w1 ⟨rfl, hb1⟩
  have HB1 := hide (below_via (unhide HB0) hb1)
  have HW1 := hide hb1
  obtain ⟨u0, u1, u2, u3, u4, u5, u6, u7, u8⟩ := ((unhide HX9).keep hb1 (unhide HX9).low).tell
  have C1 := hide (unhide CT1 w1 (unhide HB1))
  clear hb1 HA CT1
  go_wp2_with fail
  with_reducible refine (unhide C1).mono ?_
  rintro e w2 ⟨k1, a1, n1, cp1, rfl, hM1, hb2⟩
  obtain ⟨w3, hw3⟩ : ∃ w3, w3 = w2.alloc (.cells #[.int .i64 k1, .slice a1 n1 cp1] 33) := ⟨_, rfl⟩
  have ba : Below w2.heap.size w2 w3 := by rw [hw3]; exact (Below.refl _ _).alloc (Nat.le_refl _) _
  have X7 : Bx2 w3 w2.heap.size (.int .i64 k1) (.slice a1 n1 cp1) := by rw [hw3]; exact Bx2.new w2 _ _ _
  have HB3 := hide (below_via (below_via (unhide HB1) hb2) ba)
  have HW3 := hide (below_via (below_via (unhide HW1) hb2) ba)
  have HX7 := hide X7
  have HM1 : Hid (p1 = 0 → MemT w3.heap.size w3 (rt p2) #[.int .i64 k1, .slice a1 n1 cp1]) := hide (fun h => MemTP.keep (fun b hb => ⟨Nat.lt_of_lt_of_le hb.2 ba.size, fun o => ba.cell (p := ⟨b, o, none⟩) hb.2⟩) (hM1 h))
  have lw3 : w0.heap.size ≤ w3.heap.size := (unhide HW3).size
  have lw2 : w2.heap.size < w3.heap.size := X7.low
  clear ba X7 hM1 hb2 C1 HB1 HW1 u0 u1 u2 u3 u4 u5 u6 u7 u8
  go_upto_region 4 with fail
  rw [← hw3]
  clear hw3
  by_cases h50 : 50 ≤ l.length
  · have h50' : (50 : Int) ≤ (l.length : Int) := by omega
    clear CT2 HX9 HX7 HM1 TS TK
    go_wp2
    go_ret
    exact ⟨rfl, unhide HB3⟩
  have h50' : ¬ (50 : Int) ≤ (l.length : Int) := by omega
  have KC : Hid (∀ wx, Below w3.heap.size w3 wx → (wx.cell? ⟨w.heap.size, 0, none⟩ = some (.int .i64 xk) ∧ wx.cell? ⟨w.heap.size, 0 + 1, none⟩ = some (.int .i64 vk) ∧ wx.cell? ⟨w.heap.size, 0 + 2, none⟩ = some (.bool vy) ∧ wx.cell? ⟨w.heap.size, 0 + 3, none⟩ = some (.int .i64 vc) ∧ wx.cell? ⟨w.heap.size, 0 + 4, none⟩ = some (.int .i64 vx) ∧ wx.cell? ⟨w.heap.size, 0 + 5, none⟩ = some (.string vt) ∧ wx.cell? ⟨w.heap.size, 0 + 6, none⟩ = some (.slice va vn vp) ∧ wx.cell? ⟨w.heap.size, 0 + 7, none⟩ = some (.string s) ∧ wx.cell? ⟨w.heap.size, 0 + 8, none⟩ = some (.slice xa xn xp)) ∧ wx.cell? ⟨w.heap.size + 1, 0, none⟩ = some (.string ms) ∧ wx.cell? ⟨w.heap.size + 1, 1, none⟩ = some (.int .i64 mk) ∧ wx.cell? ⟨w.heap.size + 1, 2, none⟩ = some (.slice ma mn mcap)) := hide (fun wx hb => ⟨((unhide HX9).keep (below_via (unhide HW3) hb) (unhide HX9).low).tell, unhide M3 wx (below_via (unhide HW3) hb)⟩)
  have K1 : Hid (∀ wx : World, Below w3.heap.size w3 wx → OV w3.heap.size (wx.alloc (.cells #[] 35)) (.slice (some ⟨wx.heap.size, 0, none⟩) 0 0) 0 []) := hide (fun wx hb => ⟨rfl, .inr ⟨wx.heap.size, 0, #[], rfl, hb.size, (heap_alloc wx _).1, Nat.le_refl _, by decide, rfl, rfl⟩⟩)
  have K3 : Hid (∀ wx : World, One (wx.alloc (.cells #[.string ms, .int .i64 mk, .slice ma mn mcap] 35)) (.slice (some ⟨wx.heap.size, 0, none⟩) 1 1) (c3 ms mk ma mn mcap)) := hide (fun wx => ⟨wx.heap.size, rfl, by simp, fun j u hu => by rw [Lib.add_plain, Nat.zero_add]; exact cell_alloc_at wx _ _ (by simpa using hu)⟩)
  have K4 : Hid (∀ wx : World, Below w3.heap.size w3 wx → ∀ v b26, OV w3.heap.size wx v 0 [] → (∀ j u, (c3 ms mk ma mn mcap)[j]? = some u → wx.cell? ((⟨b26, 0, none⟩ : Addr).add j) = some u) → ∃ v' w', (Builtin.append_ #[30, 30] 30 #[v, .slice (some ⟨b26, 0, none⟩) 1 1]).run Tryz.prog wx = .ok v' w' ∧ OV w3.heap.size w' v' 1 (c3 ms mk ma mn mcap) ∧ wx.grownBy w' v.ownBlock ∧ (v'.ownBlock = v.ownBlock ∨ v'.ownBlock = some wx.heap.size)) := hide (fun wx hb v b26 o1 c26 => OV.two hb.size o1 b26 rfl (by intro u hu; simp [c3] at hu; rcases hu with rfl | rfl | rfl <;> rfl) c26 _)
  have K6 : Hid (∀ wx : World, Below w3.heap.size w3 wx → ∀ v, OV w3.heap.size wx v 1 (c3 ms mk ma mn mcap) → ∃ v' w', (Builtin.append_ #[30, 30] 30 #[v, .slice vad l.length vcap]).run Tryz.prog wx = .ok v' w' ∧ OV w3.heap.size w' v' (1 + l.length) (c3 ms mk ma mn mcap ++ lc) ∧ wx.grownBy w' v.ownBlock) := hide (fun wx hb v o4 => by
    obtain ⟨g1, g2, g3⟩ := unhide HLC
    refine OV.more hb.size o4 (by omega) ?_ _
    rcases g3 with g3 | ⟨b', off', cap', q1, q2, q3⟩
    · exact .inl g3
    · refine .inr ⟨b', off', cap', q1, q2, fun j u hu => ?_⟩
      have hne : l ≠ [] := by intro e; subst e; have := (List.getElem?_eq_some_iff.1 hu).1; simp at q2; rw [q2] at this; simp at this
      obtain ⟨rfl, hvm⟩ := g1 hne
      obtain ⟨rfl, rfl⟩ := q3 hne
      obtain ⟨r1, r2⟩ := vcs_tell hvm j u hu
      exact ⟨((below_via (unhide HB3) hb).cell (p := ⟨b', off' + j, none⟩) (by rcases g2 with g2 | g2; exact g2; exact absurd g2 hne)).trans r1, r2⟩)
  have K7 : Hid (∀ wx : World, Below w3.heap.size w3 wx → ∀ v, OV w3.heap.size wx v (1 + l.length) (c3 ms mk ma mn mcap ++ lc) → Calls Tryz.prog 5 #[.agg #[.int .i64 xk, .int .i64 vk, .bool vy, .int .i64 vc, .int .i64 vx, .string vt, .slice va vn vp, .string s, .slice xa xn xp], v] wx fun e w' => ∃ u, e = .returned u ∧ (∃ k a n cap, u = .tuple #[.agg #[.int .i64 k, .slice a n cap], .int .i64 err] ∧ (err = 0 → MemTP (fun q => wx.heap.size ≤ q ∧ q < w'.heap.size) w' (rt q2) #[.int .i64 k, .slice a n cap])) ∧ Below wx.heap.size wx w') := hide (fun wx hb v o6 => by
    have hB := below_via (unhide HB3) hb
    refine (unhide CT2 wx hB v (o6.vs (B := w.heap.size) (w1 := w) (b := b) (off := off) lc (unhide HLC).1 (by omega) (fun T u h => h.grow hB) (unhide HMS) (unhide AM wx hB))).mono ?_
    rintro e w' ⟨k, a, n, cap, rfl, h1, h2⟩
    exact ⟨_, rfl, ⟨k, a, n, cap, rfl, h1⟩, h2⟩)
  clear CT2 AX AV AG AM HLC HX9 M3 HV HV0
  generalize hT : rt q2 = T at *
  go_upto_region 6 with fail
  refine frame_name ?_
  intro f0 hf0
  have s1 : G f0 1 = .slice vad l.length vcap := by rw [hf0]; rfl
  have s3 : G f0 3 = .pointer (some ⟨w.heap.size, 0, none⟩) := by rw [hf0]; rfl
  have s5 : G f0 5 = .pointer (some ⟨w.heap.size + 1, 0, none⟩) := by rw [hf0]; rfl
  have s7 : G f0 7 = .pointer (some ⟨w2.heap.size, 0, none⟩) := by rw [hf0]; rfl
  have s8 : G f0 8 = .int .i64 p1 := by rw [hf0]; rfl
  have hsz : f0.tmps.size = 42 := by rw [hf0]; rfl
  have hdf : f0.defers = [] := by rw [hf0]
  refine region_any (I := RH w3 f0 (.agg #[.int .i64 xk, .int .i64 vk, .bool vy, .int .i64 vc, .int .i64 vx, .string vt, .slice va vn vp, .string s, .slice xa xn xp]) (.agg #[.string ms, .int .i64 mk, .slice ma mn mcap]) (.slice vad l.length vcap) (c3 ms mk ma mn mcap) lc l.length err T (fun v x => ∃ b k a n cap, v = Value.pointer (some ⟨b, 0, none⟩) ∧ w3.heap.size ≤ b ∧ Bx2 x b (.int .i64 k) (.slice a n cap) ∧ (err = 0 → MemT x.heap.size x T #[.int .i64 k, .slice a n cap]))) (by kernel_rfl) ?wait ?step ?done ?start
  case wait => exact ⟨by simp <;> rfl, by simp <;> rfl, by simp <;> rfl, by simp <;> rfl, by simp <;> rfl, by simp <;> rfl, by simp <;> rfl, by simp <;> rfl, by simp <;> rfl, by simp <;> rfl, by simp <;> rfl, by simp <;> rfl, by simp <;> rfl, by simp <;> rfl, trivial⟩
  case start => exact RH.start hsz hdf ((Below.refl _ _).drew)
  case step =>
    refine ⟨?_, ?_, ?_, ?_, ?_, ?_, ?_, ?_, ?_, ?_, ?_, ?_, ?_, ?_, trivial⟩
    · rintro L fa wx h hcl hL hw2
      exact o_val rfl rfl rfl (by rw [h.size]; decide) (run_ldX9 (o := 0) (eval_G ((h.rest 3 (by decide)).trans s3)) ((unhide KC _ h.old).1)) (fun a' U hf => h.s0 U hf rfl)
    · rintro L fa wx h hcl hL hw2
      exact o_val rfl rfl rfl (by rw [h.size]; decide) run_bld0 (fun a' U hf => h.s1 U hf ((Below.refl _ _).alloc (Nat.le_refl _) _) (Bool.eq_false_iff.2 fun hq => by have hz := (hcl 12 _ rfl hq ⟨1, .phase⟩ (by simp) rfl); rw [hL] at hz; cases hz) (unhide K1 wx h.old) (fun g hg => by simp [Value.ownBlock] at hg; omega))
    · rintro L fa wx h hcl hL hw2
      exact o_val rfl rfl rfl (by rw [h.size]; decide) (run_ldV (eval_G ((h.rest 5 (by decide)).trans s5)) ((unhide KC _ h.old).2)) (fun a' U hf => h.s2 U hf rfl)
    · rintro L fa wx h hcl hL hw2
      exact o_val rfl rfl rfl (by rw [h.size]; decide) (run_bld1 (eval_G (h.f2 (hw2 ⟨2, .data⟩ (by simp) rfl)))) (fun a' U hf => h.s3 U hf ((Below.refl _ _).alloc (Nat.le_refl _) _) (Bool.eq_false_iff.2 fun hq => by have hz := (hcl 12 _ rfl hq ⟨3, .phase⟩ (by simp) rfl); rw [hL] at hz; cases hz) (unhide K3 wx))
    · rintro L fa wx h hcl hL hw2
      have o1 := h.f1 (hw2 ⟨1, .data⟩ (by simp) rfl) hL
      obtain ⟨b26, e26, l26, c26⟩ := h.f3 (hw2 ⟨3, .data⟩ (by simp) rfl) hL
      obtain ⟨v', w', hr, hv, hgr, hat⟩ := unhide K4 wx h.old (G fa 24) b26 o1 c26
      refine o_val rfl rfl rfl (by rw [h.size]; decide) (run_app (eval_G rfl) (eval_G e26) hr) (fun a' U hf => h.s4 U hf ?_ hgr hat hv (Bool.eq_false_iff.2 fun hq => by have hz := (hcl 12 _ rfl hq ⟨4, .phase⟩ (by simp) rfl); rw [hL] at hz; cases hz) (hw2 ⟨1, .data⟩ (by simp) rfl) hL (Bool.eq_false_iff.2 fun hq => by have hz := (hcl 6 _ rfl hq ⟨4, .data⟩ (by simp) rfl); rw [hL] at hz; cases hz) (Bool.eq_false_iff.2 fun hq => by have hz := (hcl 6 _ rfl (hcl 7 _ rfl hq ⟨6, .data⟩ (by simp) rfl) ⟨4, .data⟩ (by simp) rfl); rw [hL] at hz; cases hz))
      exact h.old.grown hgr h.old.size (fun k hk => (o1.own k hk).1)
    · rintro L fa wx h hcl hL hw2
      exact o_val rfl rfl rfl (by rw [h.size]; decide) (run_mv (eval_G ((h.rest 1 (by decide)).trans s1))) (fun a' U hf => h.s5 U hf rfl)
    · rintro L fa wx h hcl hL hw2
      have o4 := h.f4 (hw2 ⟨4, .data⟩ (by simp) rfl) hL
      obtain ⟨v', w', hr, hv, hgr⟩ := unhide K6 wx h.old (G fa 27) o4
      refine o_val rfl rfl rfl (by rw [h.size]; decide) (run_app (eval_G rfl) (eval_G (h.f5 (hw2 ⟨5, .data⟩ (by simp) rfl))) hr) (fun a' U hf => h.s6 U hf ?_ hgr hv (Bool.eq_false_iff.2 fun hq => by have hz := (hcl 12 _ rfl hq ⟨6, .phase⟩ (by simp) rfl); rw [hL] at hz; cases hz) (hw2 ⟨4, .data⟩ (by simp) rfl) hL (Bool.eq_false_iff.2 fun hq => by have hz := (hcl 7 _ rfl hq ⟨6, .data⟩ (by simp) rfl); rw [hL] at hz; cases hz))
      exact h.old.grown hgr h.old.size (fun k hk => (o4.own k hk).1)
    · rintro L fa wx h hcl hL hw2
      have o6 := h.f6 (hw2 ⟨6, .data⟩ (by simp) rfl) hL
      refine o_enter (R := fun u w' => (∃ k a n cap, u = .tuple #[.agg #[.int .i64 k, .slice a n cap], .int .i64 err] ∧ (err = 0 → MemTP (fun q => wx.heap.size ≤ q ∧ q < w'.heap.size) w' T #[.int .i64 k, .slice a n cap])) ∧ Below wx.heap.size wx w') rfl rfl rfl (by rw [h.size]; decide) (run_call2 (eval_G (h.f0 (hw2 ⟨0, .data⟩ (by simp) rfl))) (eval_G rfl) callType) (unhide K7 wx h.old (G fa 29) o6) (fun u a' w' hR U hf => h.s7 U hf hR.2 (Bool.eq_false_iff.2 fun hq => by have hz := (hcl 12 _ rfl hq ⟨7, .phase⟩ (by simp) rfl); rw [hL] at hz; cases hz) (Bool.eq_false_iff.2 fun hq => by have hz := (hcl 8 _ rfl hq ⟨7, .data⟩ (by simp) rfl); rw [hL] at hz; cases hz) (Bool.eq_false_iff.2 fun hq => by have hz := (hcl 8 _ rfl (hcl 9 _ rfl hq ⟨8, .data⟩ (by simp) rfl) ⟨7, .data⟩ (by simp) rfl); rw [hL] at hz; cases hz) hR.1)
    · rintro L fa wx h hcl hL hw2
      exact o_val rfl rfl rfl (by rw [h.size]; decide) (run_mv (eval_G rfl)) (fun a' U hf => h.s8 U hf rfl)
    · rintro L fa wx h hcl hL hw2
      obtain ⟨k, a2, n2, cap2, s, e, e1, _⟩ := h.f7 (hcl 8 _ rfl (hw2 ⟨8, .data⟩ (by simp) rfl) ⟨7, .data⟩ (by simp) rfl) (Bool.eq_false_iff.2 fun hq => by have hz := (hcl 12 _ rfl hq ⟨9, .phase⟩ (by simp) rfl); rw [hL] at hz; cases hz)
      exact o_val rfl rfl rfl (by rw [h.size]; decide) (run_ext0 (eval_G ((h.f8 (hw2 ⟨8, .data⟩ (by simp) rfl)).trans e1))) (fun a' U hf => h.s9 U hf e1)
    · rintro L fa wx h hcl hL hw2
      have e1 : ∃ u, G fa 30 = .tuple #[u, .int .i64 err] := by
        cases h12 : L 12 with
        | false =>
          obtain ⟨k, a2, n2, cap2, s, e, e1, _⟩ := h.f7 (hcl 8 _ rfl (hw2 ⟨8, .data⟩ (by simp) rfl) ⟨7, .data⟩ (by simp) rfl) h12
          exact ⟨_, e1⟩
        | true =>
          obtain ⟨u, e1, _⟩ := h.f9 (hcl 12 _ rfl h12 ⟨9, .data⟩ (by simp) rfl)
          exact ⟨_, e1⟩
      obtain ⟨u, e1⟩ := e1
      exact o_val rfl rfl rfl (by rw [h.size]; decide) (run_ext1 (eval_G ((h.f8 (hw2 ⟨8, .data⟩ (by simp) rfl)).trans e1))) (fun a' U hf => h.s10 U hf rfl)
    · rintro L fa wx h hcl hL hw2
      exact o_val rfl rfl rfl (by rw [h.size]; decide) run_al33 (fun a' U hf => h.s11 U hf ((Below.refl _ _).alloc (Nat.le_refl _) _) (Bool.eq_false_iff.2 fun hq => by have hz := (hcl 12 _ rfl hq ⟨11, .phase⟩ (by simp) rfl); rw [hL] at hz; cases hz) ⟨_, rfl, h.old.size, Bx2.new wx _ _ _⟩ rfl)
    · rintro L fa wx h hcl hL hw2
      obtain ⟨b9, e9, l9, X9'⟩ := h.f11 (hw2 ⟨11, .data⟩ (by simp) rfl) hL
      obtain ⟨k, a2, n2, cap2, s, e, e1, q1, q2, q3, q4⟩ := h.f7 (hw2 ⟨7, .phase⟩ (by simp) rfl) hL
      obtain ⟨u, e2, e3⟩ := h.f9 (hw2 ⟨9, .data⟩ (by simp) rfl)
      rw [e1] at e2
      simp only [Value.tuple.injEq, Array.mk.injEq, List.cons.injEq, and_true] at e2
      have e4 : G fa 31 = .agg #[.int .i64 k, .slice a2 n2 cap2] := e3.trans e2.symm
      have p5 : But b9 wx (put2 wx b9 (.int .i64 k) (.slice a2 n2 cap2)) := But.set.trans But.set
      have hab := q3 b9 ⟨(hw2 ⟨11, .data⟩ (by simp) rfl), e9⟩
      refine os_store33 rfl e9 e4 X9' (h.s12 (h.old.trans (p5.below l9 h.old.size)) (hw2 ⟨4, .phase⟩ (by simp) rfl) (hw2 ⟨6, .phase⟩ (by simp) rfl) (hw2 ⟨7, .phase⟩ (by simp) rfl) ⟨b9, k, a2, n2, cap2, e9, l9, X9'.put _ _, fun he => ?_⟩)
      exact MemTP.keep (fun b hb => ⟨Nat.lt_of_lt_of_le (Nat.lt_of_lt_of_le hb.2 q2) p5.size, fun o => p5.cell (q := ⟨b, o, none⟩) (Nat.lt_of_lt_of_le hb.2 q2) (by show b ≠ b9; omega)⟩) (q4 he)
    · rintro L fa wx h hcl hL hw2
      exact o_val rfl rfl rfl (by rw [h.size]; decide) (run_asg (eval_G (h.f10 (hw2 ⟨10, .data⟩ (by simp) rfl)))) (fun a' U hf => h.s13 U hf rfl)
  case done =>
    rintro L f1 w4 h hall
    obtain ⟨b9, k2, a2, n2, cp2, e9, l9, Xb, hM2⟩ := h.f12 (hall 12 (by simp))
    have e10 := h.f13 (hall 13 (by simp))
    have g7 := (h.rest 7 (by decide)).trans s7
    have g8 := (h.rest 8 (by decide)).trans s8
    have HB4 := hide (below_via (unhide HB3) h.old)
    have X7 := (unhide HX7).keep h.old (unhide HX7).low
    have HM1' := hide (fun hh => (unhide HM1 hh).grow h.old)
    have HM2 := hide hM2
    replace hsz := h.size
    replace hdf := h.defs
    have c70 := X7.at0
    have c71 := X7.at1
    have c90 := Xb.at0
    have c91 := Xb.at1
    clear h hall hf0 s1 s3 s5 s7 s8 KC K1 K3 K4 K6 K7 hM2 X7 Xb HX7 HM1 HB3
    obtain ⟨v0, v1, v2, v3, v4, v5, v6, v7, v8, v9, v10, v11, v12, v13, v14, v15, v16, v17, v18, v19, v20, v21, v22, v23, v24, v25, v26, v27, v28, v29, v30, v31, v32, v33, v34, v35, v36, v37, v38, v39, v40, v41, rfl, q7, q8, q9, q10⟩ := frame_42 hsz hdf
    rw [g7] at q7
    rw [g8] at q8
    rw [e9] at q9
    rw [e10] at q10
    subst q7 q8 q9 q10
    clear g7 g8 e9 e10 hsz hdf
    by_cases hp1 : p1 = 0
    · subst hp1
      by_cases he : err = 0
      · subst he
        have E := unhide TS rfl rfl
        simp only [Prod.mk.injEq, true_and] at E
        subst E
        have CS := hide (same_any q2 q2 #[.int .i64 k1, .slice a1 n1 cp1] #[.int .i64 k2, .slice a2 n2 cp2] w4 (unhide TK rfl) (unhide TK rfl) (unhide HM1' rfl) (by rw [hT]; exact unhide HM2 rfl))
        clear TS TK HM1' HM2 hT
        go_wp2_with fail
        with_reducible refine (unhide CS).mono ?_
        rintro e w5 ⟨rfl, hb5⟩
        have HB5 := hide (below_via (unhide HB4) hb5)
        clear hb5 CS
        go_wp2
        go_ret
        exact ⟨by simp, unhide HB5⟩
      · have he' : (err != 0) = true := by simpa using he
        clear he TS TK HM1' HM2
        go_wp2
        go_ret
        exact ⟨rfl, unhide HB4⟩
    · have hp' : (p1 != 0) = true := by simpa using hp1
      clear hp1 TS TK HM1' HM2
      go_wp2
      go_ret
      exact ⟨rfl, unhide HB4⟩
end Go.Proofs.YtdgojpjmhalilaaGreatDoor
