/- Walks: what is read while one more is open. -/
import Derived.Test.YthpjejfgoohhfaaGreatDoorG26
import Derived.Defers
namespace Go.Proofs.YthpjejfgoohhfaaGreatDoor
open Go.RowKit Go.MapKept

set_option maxHeartbeats 2000000 in
theorem shut_any (q R : Nat) (v : Int) (u : FrameMode) (w : World) (cb : w.cell? ⟨q, 0, none⟩ = some (.pointer (some ⟨R, 0, none⟩))) (cv : w.cell? ⟨R, 2, none⟩ = some (.int .i64 v)) (cf : w.frozen? ⟨R, 2, none⟩ = false) (h1 : 0 ≤ v) (h2 : v ≤ 1000) :
    CallsD Tryz.prog 68 #[.pointer (some ⟨q, 0, none⟩)] u w fun e u' w' => u' = u ∧ e = .returned (.tuple #[]) ∧ w' = w.setCell ⟨R, 2, none⟩ (.int .i64 (v - 1)) := by
  have hv : wrap64 (v - 1) = v - 1 := by unfold wrap64; omega
  go_enter_d Tryz.func68, Tryz.ntmps68
  go_wp2
  go_end0
  exact ⟨rfl, rfl⟩

/-- the end of what is read while one more is open -/
theorem PostX.shut {w w0 w2 : World} {R g m : Nat} {l : List Tk} {e : Int} {o i j : Nat} {r : PR} {v0 v1 v2 v3 v4 v5 v6 v7 v8 err : Value} (h : RD w R g m l e o i) (z0 : w.heap.size + 2 ≤ w0.heap.size) (hb : But R w w2) (hr : RD w2 R g m l e (o + 1) j) (hij : i ≤ j) (h9 : X9 #[v0, v1, v2, v3, v4, v5, v6, v7, v8]) (hres : if r.1 = 0 then err = .nilIface ∧ j = r.2.2 ∧ XB (w0.heap.size ≤ ·) w2 r.2.1 #[v0, v1, v2, v3, v4, v5, v6, v7, v8] else UV r.1 err) :
    PostX R g m l e o i r w (.returned (.tuple #[.agg #[v0, v1, v2, v3, v4, v5, v6, v7, v8], err])) ((put9 w2 (w.heap.size + 1) v0 v1 v2 v3 v4 v5 v6 v7 v8).setCell ⟨R, 2, none⟩ (.int .i64 (o : Int))) := by
  have lR := h.low
  have p1 : But (w.heap.size + 1) w2 (put9 w2 (w.heap.size + 1) v0 v1 v2 v3 v4 v5 v6 v7 v8) := put9_but
  have p2 : But R (put9 w2 (w.heap.size + 1) v0 v1 v2 v3 v4 v5 v6 v7 v8) ((put9 w2 (w.heap.size + 1) v0 v1 v2 v3 v4 v5 v6 v7 v8).setCell ⟨R, 2, none⟩ (.int .i64 (o : Int))) := But.set
  have h1 := hr.other p1 (by omega) (by have := h.tk.low; omega) (by have := h.mp.low; omega)
  refine ⟨(hb.on (put9_below (by omega))).trans p2, _, err, j, rfl, h9, h1.open o, hij, ?_⟩
  split
  · rename_i q
    rw [if_pos q] at hres
    obtain ⟨q1, q2, q3⟩ := hres
    refine ⟨q1, q2, ?_⟩
    have q4 := q3.stay (Nat.le_trans p1.size p2.size) fun b hb' hp => (p2.block b (Nat.lt_of_lt_of_le hb' p1.size) (by omega)).trans (p1.block b hb' (by omega))
    exact q4.mono fun b _ hp => by omega
  · rename_i q
    rw [if_neg q] at hres
    exact hres

set_option maxRecDepth 100000 in
set_option maxHeartbeats 8000000 in
theorem within_signed {w : World} {R g m : Nat} {l : List Tk} {e : Int} {o i : Nat} (h : RD w R g m l e o i) (ho : o ≤ 200) (r : PR) (hread : ∀ W, o + 1 ≤ 200 → RD W R g m l e (o + 1) i → Calls Tryz.prog 71 #[.pointer (some ⟨R, 0, none⟩)] W (PostX R g m l e (o + 1) i r W)) :
    Calls Tryz.prog 41 #[.pointer (some ⟨R, 0, none⟩), .func (.func 71) #[.pointer (some ⟨R, 0, none⟩)] #[]] w (PostX R g m l e o i (if 200 < o + 1 then (4, noX, i) else r) w) := by
  have hmf : ∀ (fn : Fn) (first cap : Array Value) (w : World), (Instr.makeFunc fn first cap).run Tryz.prog w = .ok (.func fn first cap) w := fun _ _ _ _ => rfl
  obtain ⟨w0, hw0⟩ : ∃ w0, w0 = ((w.alloc (.cells #[.pointer (some ⟨R, 0, none⟩)] 147)).alloc (.cells zero9 29)) := ⟨_, rfl⟩
  have B0 : Below w.heap.size w w0 := by rw [hw0]; exact below_via (vbelow_new _ _) (vbelow_new _ _)
  have q0 : w0.cell? ⟨w.heap.size, 0, none⟩ = some (.pointer (some ⟨R, 0, none⟩)) := by rw [hw0]; simp [go_sem]
  have h0 := h.keep B0
  have op := h0.opn
  have fo := h0.fr
  have ho2 : wrap64 ((o : Int) + 1) = (o : Int) + 1 := by unfold wrap64; omega
  have h1 : RD (w0.setCell ⟨R, 2, none⟩ (.int .i64 ((o : Int) + 1))) R g m l e (o + 1) i := by
    have := h0.open (o + 1)
    rwa [show ((o + 1 : Nat) : Int) = (o : Int) + 1 by omega] at this
  have CR0 := hide (fun ho1 => hread _ ho1 h1)
  have HQ := hide q0
  have K0 : K9 w0 (w.heap.size + 1) := by rw [hw0]; have := K9.new (w.alloc (.cells #[.pointer (some ⟨R, 0, none⟩)] 147)) 29 (.int .i64 0) (.int .i64 0) (.bool false) (.int .i64 0) (.int .i64 0) (.string ⟨#[]⟩) (.slice none 0 0) (.string ⟨#[]⟩) (.slice none 0 0); simpa using this
  have HK := hide K0
  have z0 : w0.heap.size = w.heap.size + 2 := by rw [hw0]; simp
  have HZ := hide z0
  have lw : w.heap.size < w0.heap.size := by omega
  have HH := hide h
  have HB0 := hide B0
  have lR := h.low
  have ne : ¬ w.heap.size = R := by omega
  clear hread h0 h B0 K0 z0
  have ST := hide (stuck_any R g i e 4 l _ h1.wk h1.tk)
  have HR1 := hide h1
  by_cases hd : 200 < o + 1
  · rw [if_pos hd]
    have hd' : (200 : Int) < (o : Int) + 1 := by omega
    clear hd CR0
    go_enter_defers Tryz.func41, Tryz.ntmps41
    go_upto_region 1 with fail
    rw [← hw0]
    clear hw0
    go_wp2_with fail
    refine (unhide ST).mono ?_
    rintro en w2 ⟨⟨err, rfl, hu⟩, hb2⟩
    have hb3 : But R (w0.setCell ⟨R, 2, none⟩ (.int .i64 ((o : Int) + 1))) w2 := But.of hb2
    have HB2 := hide (((But.of (p := R) (unhide HB0)).trans But.set).trans hb3)
    have HK2 := hide (((unhide HK).but (But.set (p := R) (j := 2) (v := .int .i64 ((o : Int) + 1))) (by omega)).but hb3 (by omega))
    have HQ2 : w2.cell? ⟨w.heap.size, 0, none⟩ = some (.pointer (some ⟨R, 0, none⟩)) := by
      rw [((But.set (p := R) (j := 2) (v := .int .i64 ((o : Int) + 1))).trans hb3).cell (q := ⟨w.heap.size, 0, none⟩) (by simp; omega) (by simp; omega)]
      exact unhide HQ
    have hr2 := (unhide HR1).keep hb2
    have HR2 := hide hr2
    have HU := hide hu
    obtain ⟨u0, u1, u2, u3, u4, u5, u6, u7, u8, c0, c1, c2, c3, c4, c5, c6, c7, c8, f⟩ := (unhide HK2).all
    have opn := hr2.opn
    have fr := hr2.fr
    have lq : R < w.heap.size + 1 := by omega
    clear hb2 hb3 hr2 hu HQ q0 op fo HK HB0 h1 ST HR1
    go_wp2
    refine leaves_cons (f := 68) (args := #[.pointer (some ⟨w.heap.size, 0, none⟩)]) (by simp) (by simp [go_sem]) ?_
    refine (shut_any w.heap.size R ((o : Int) + 1) .returning _ ?_ ?_ ?_ (by omega) (by omega)).mono ?_
    · simp [go_sem, HQ2]
    · simp [go_sem, opn]
    · simp [go_sem, fr]
    rintro e' u' w'' ⟨rfl, rfl, rfl⟩
    rw [Int.add_sub_cancel]
    refine ⟨.tuple #[.agg zero9, err], by simp [results, Tryz.results41, go_sem, c0, c1, c2, c3, c4, c5, c6, c7, c8], ?_⟩
    exact PostX.shut (w0 := w0.setCell ⟨R, 2, none⟩ (.int .i64 ((o : Int) + 1))) (unhide HH) (by have := unhide HZ; simp; omega) (unhide HB2) (unhide HR2) (Nat.le_refl _) ⟨_, _, _, _, _, _, _, _, _, _, _, _, _, rfl⟩ (by rw [if_neg (by simp)]; exact unhide HU)
  · rw [if_neg hd]
    have CR := hide (unhide CR0 (by omega))
    clear CR0
    have hd' : ¬ (200 : Int) < (o : Int) + 1 := by omega
    clear hd ST HR1
    go_enter_defers Tryz.func41, Tryz.ntmps41
    go_upto_region 1 with fail
    rw [← hw0]
    clear hw0
    go_wp2_with fail
    refine (unhide CR).mono ?_
    rintro en w2 ⟨hb2, cs, err, j, rfl, h9, hr2, hij, hres⟩
    obtain ⟨k, vk, vy, vc, vx, vt, va, vn, vp, s, xa, xn, xc, rfl⟩ := h9
    have HB2 := hide (((But.of (p := R) (unhide HB0)).trans But.set).trans hb2)
    have HK2 := hide (((unhide HK).but (But.set (p := R) (j := 2) (v := .int .i64 ((o : Int) + 1))) (by omega)).but hb2 (by omega))
    have HQ2 : w2.cell? ⟨w.heap.size, 0, none⟩ = some (.pointer (some ⟨R, 0, none⟩)) := by
      rw [((But.set (p := R) (j := 2) (v := .int .i64 ((o : Int) + 1))).trans hb2).cell (q := ⟨w.heap.size, 0, none⟩) (by simp; omega) (by simp; omega)]
      exact unhide HQ
    have HR2 := hide hr2
    have HS := hide hres
    have HI := hide hij
    obtain ⟨u0, u1, u2, u3, u4, u5, u6, u7, u8, c0, c1, c2, c3, c4, c5, c6, c7, c8, f⟩ := (unhide HK2).all
    have opn := hr2.opn
    have fr := hr2.fr
    have lq : R < w.heap.size + 1 := by omega
    clear hb2 hr2 hres hij CR HQ q0 op fo HK HB0 h1
    go_wp2
    refine leaves_cons (f := 68) (args := #[.pointer (some ⟨w.heap.size, 0, none⟩)]) (by simp) (by simp [go_sem]) ?_
    refine (shut_any w.heap.size R ((o : Int) + 1) .returning _ ?_ ?_ ?_ (by omega) (by omega)).mono ?_
    · simp [go_sem, HQ2]
    · simp [go_sem, opn]
    · simp [go_sem, fr]
    rintro e' u' w'' ⟨rfl, rfl, rfl⟩
    rw [Int.add_sub_cancel]
    refine ⟨.tuple #[.agg #[.int .i64 k, .int .i64 vk, .bool vy, .int .i64 vc, .int .i64 vx, .string vt, .slice va vn vp, .string s, .slice xa xn xc], err], by simp [results, Tryz.results41, go_sem, c0, c1, c2, c3, c4, c5, c6, c7, c8], ?_⟩
    exact PostX.shut (w0 := w0.setCell ⟨R, 2, none⟩ (.int .i64 ((o : Int) + 1))) (unhide HH) (by have := unhide HZ; simp; omega) (unhide HB2) (unhide HR2) (unhide HI) ⟨_, _, _, _, _, _, _, _, _, _, _, _, _, rfl⟩ (unhide HS)
set_option maxRecDepth 100000 in
set_option maxHeartbeats 8000000 in
theorem within_expr {w : World} {R g m q : Nat} {l : List Tk} {e : Int} {o i : Nat} (h : RD w R g m l e o i) (ho : o ≤ 200) (r : PR) (hq : w.cell? ⟨q, 0, none⟩ = some (.pointer (some ⟨R, 0, none⟩))) (qR : q ≠ R) (hread : ∀ W, o + 1 ≤ 200 → RD W R g m l e (o + 1) i → W.cell? ⟨q, 0, none⟩ = some (.pointer (some ⟨R, 0, none⟩)) → Calls Tryz.prog 42 #[.pointer (some ⟨q, 0, none⟩)] W (PostX R g m l e (o + 1) i r W)) :
    Calls Tryz.prog 41 #[.pointer (some ⟨R, 0, none⟩), .func (.func 42) #[] #[.pointer (some ⟨q, 0, none⟩)]] w (PostX R g m l e o i (if 200 < o + 1 then (4, noX, i) else r) w) := by
  have hmf : ∀ (fn : Fn) (first cap : Array Value) (w : World), (Instr.makeFunc fn first cap).run Tryz.prog w = .ok (.func fn first cap) w := fun _ _ _ _ => rfl
  obtain ⟨w0, hw0⟩ : ∃ w0, w0 = ((w.alloc (.cells #[.pointer (some ⟨R, 0, none⟩)] 147)).alloc (.cells zero9 29)) := ⟨_, rfl⟩
  have B0 : Below w.heap.size w w0 := by rw [hw0]; exact below_via (vbelow_new _ _) (vbelow_new _ _)
  have q0 : w0.cell? ⟨w.heap.size, 0, none⟩ = some (.pointer (some ⟨R, 0, none⟩)) := by rw [hw0]; simp [go_sem]
  have h0 := h.keep B0
  have op := h0.opn
  have fo := h0.fr
  have ho2 : wrap64 ((o : Int) + 1) = (o : Int) + 1 := by unfold wrap64; omega
  have h1 : RD (w0.setCell ⟨R, 2, none⟩ (.int .i64 ((o : Int) + 1))) R g m l e (o + 1) i := by
    have := h0.open (o + 1)
    rwa [show ((o + 1 : Nat) : Int) = (o : Int) + 1 by omega] at this
  have lq0 : q < w.heap.size := World.block_lt_of_cell? w _ hq
  have CR0 := hide (fun ho1 => hread _ ho1 h1 (((But.of (p := R) B0).trans (But.set (j := 2) (v := .int .i64 ((o : Int) + 1)))).cell (q := ⟨q, 0, none⟩) lq0 qR |>.trans hq))
  clear hq qR lq0
  have HQ := hide q0
  have K0 : K9 w0 (w.heap.size + 1) := by rw [hw0]; have := K9.new (w.alloc (.cells #[.pointer (some ⟨R, 0, none⟩)] 147)) 29 (.int .i64 0) (.int .i64 0) (.bool false) (.int .i64 0) (.int .i64 0) (.string ⟨#[]⟩) (.slice none 0 0) (.string ⟨#[]⟩) (.slice none 0 0); simpa using this
  have HK := hide K0
  have z0 : w0.heap.size = w.heap.size + 2 := by rw [hw0]; simp
  have HZ := hide z0
  have lw : w.heap.size < w0.heap.size := by omega
  have HH := hide h
  have HB0 := hide B0
  have lR := h.low
  have ne : ¬ w.heap.size = R := by omega
  clear hread h0 h B0 K0 z0
  have ST := hide (stuck_any R g i e 4 l _ h1.wk h1.tk)
  have HR1 := hide h1
  by_cases hd : 200 < o + 1
  · rw [if_pos hd]
    have hd' : (200 : Int) < (o : Int) + 1 := by omega
    clear hd CR0
    go_enter_defers Tryz.func41, Tryz.ntmps41
    go_upto_region 1 with fail
    rw [← hw0]
    clear hw0
    go_wp2_with fail
    refine (unhide ST).mono ?_
    rintro en w2 ⟨⟨err, rfl, hu⟩, hb2⟩
    have hb3 : But R (w0.setCell ⟨R, 2, none⟩ (.int .i64 ((o : Int) + 1))) w2 := But.of hb2
    have HB2 := hide (((But.of (p := R) (unhide HB0)).trans But.set).trans hb3)
    have HK2 := hide (((unhide HK).but (But.set (p := R) (j := 2) (v := .int .i64 ((o : Int) + 1))) (by omega)).but hb3 (by omega))
    have HQ2 : w2.cell? ⟨w.heap.size, 0, none⟩ = some (.pointer (some ⟨R, 0, none⟩)) := by
      rw [((But.set (p := R) (j := 2) (v := .int .i64 ((o : Int) + 1))).trans hb3).cell (q := ⟨w.heap.size, 0, none⟩) (by simp; omega) (by simp; omega)]
      exact unhide HQ
    have hr2 := (unhide HR1).keep hb2
    have HR2 := hide hr2
    have HU := hide hu
    obtain ⟨u0, u1, u2, u3, u4, u5, u6, u7, u8, c0, c1, c2, c3, c4, c5, c6, c7, c8, f⟩ := (unhide HK2).all
    have opn := hr2.opn
    have fr := hr2.fr
    have lq : R < w.heap.size + 1 := by omega
    clear hb2 hb3 hr2 hu HQ q0 op fo HK HB0 h1 ST HR1
    go_wp2
    refine leaves_cons (f := 68) (args := #[.pointer (some ⟨w.heap.size, 0, none⟩)]) (by simp) (by simp [go_sem]) ?_
    refine (shut_any w.heap.size R ((o : Int) + 1) .returning _ ?_ ?_ ?_ (by omega) (by omega)).mono ?_
    · simp [go_sem, HQ2]
    · simp [go_sem, opn]
    · simp [go_sem, fr]
    rintro e' u' w'' ⟨rfl, rfl, rfl⟩
    rw [Int.add_sub_cancel]
    refine ⟨.tuple #[.agg zero9, err], by simp [results, Tryz.results41, go_sem, c0, c1, c2, c3, c4, c5, c6, c7, c8], ?_⟩
    exact PostX.shut (w0 := w0.setCell ⟨R, 2, none⟩ (.int .i64 ((o : Int) + 1))) (unhide HH) (by have := unhide HZ; simp; omega) (unhide HB2) (unhide HR2) (Nat.le_refl _) ⟨_, _, _, _, _, _, _, _, _, _, _, _, _, rfl⟩ (by rw [if_neg (by simp)]; exact unhide HU)
  · rw [if_neg hd]
    have CR := hide (unhide CR0 (by omega))
    clear CR0
    have hd' : ¬ (200 : Int) < (o : Int) + 1 := by omega
    clear hd ST HR1
    go_enter_defers Tryz.func41, Tryz.ntmps41
    go_upto_region 1 with fail
    rw [← hw0]
    clear hw0
    go_wp2_with fail
    refine (unhide CR).mono ?_
    rintro en w2 ⟨hb2, cs, err, j, rfl, h9, hr2, hij, hres⟩
    obtain ⟨k, vk, vy, vc, vx, vt, va, vn, vp, s, xa, xn, xc, rfl⟩ := h9
    have HB2 := hide (((But.of (p := R) (unhide HB0)).trans But.set).trans hb2)
    have HK2 := hide (((unhide HK).but (But.set (p := R) (j := 2) (v := .int .i64 ((o : Int) + 1))) (by omega)).but hb2 (by omega))
    have HQ2 : w2.cell? ⟨w.heap.size, 0, none⟩ = some (.pointer (some ⟨R, 0, none⟩)) := by
      rw [((But.set (p := R) (j := 2) (v := .int .i64 ((o : Int) + 1))).trans hb2).cell (q := ⟨w.heap.size, 0, none⟩) (by simp; omega) (by simp; omega)]
      exact unhide HQ
    have HR2 := hide hr2
    have HS := hide hres
    have HI := hide hij
    obtain ⟨u0, u1, u2, u3, u4, u5, u6, u7, u8, c0, c1, c2, c3, c4, c5, c6, c7, c8, f⟩ := (unhide HK2).all
    have opn := hr2.opn
    have fr := hr2.fr
    have lq : R < w.heap.size + 1 := by omega
    clear hb2 hr2 hres hij CR HQ q0 op fo HK HB0 h1
    go_wp2
    refine leaves_cons (f := 68) (args := #[.pointer (some ⟨w.heap.size, 0, none⟩)]) (by simp) (by simp [go_sem]) ?_
    refine (shut_any w.heap.size R ((o : Int) + 1) .returning _ ?_ ?_ ?_ (by omega) (by omega)).mono ?_
    · simp [go_sem, HQ2]
    · simp [go_sem, opn]
    · simp [go_sem, fr]
    rintro e' u' w'' ⟨rfl, rfl, rfl⟩
    rw [Int.add_sub_cancel]
    refine ⟨.tuple #[.agg #[.int .i64 k, .int .i64 vk, .bool vy, .int .i64 vc, .int .i64 vx, .string vt, .slice va vn vp, .string s, .slice xa xn xc], err], by simp [results, Tryz.results41, go_sem, c0, c1, c2, c3, c4, c5, c6, c7, c8], ?_⟩
    exact PostX.shut (w0 := w0.setCell ⟨R, 2, none⟩ (.int .i64 ((o : Int) + 1))) (unhide HH) (by have := unhide HZ; simp; omega) (unhide HB2) (unhide HR2) (unhide HI) ⟨_, _, _, _, _, _, _, _, _, _, _, _, _, rfl⟩ (unhide HS)
end Go.Proofs.YthpjejfgoohhfaaGreatDoor

/- Walks: an expression, a sign ahead of it. -/
namespace Go.Proofs.YthpjejfgoohhfaaGreatDoor
open Go.RowKit Go.MapKept

/-- what was read is handed on -/
theorem PostX.via {w w0 w2 : World} {R g m b : Nat} {l : List Tk} {e : Int} {o i i' j : Nat} {r : PR} {v0 v1 v2 v3 v4 v5 v6 v7 v8 err : Value} (h : RD w R g m l e o i) (B0 : But R w w0) (hb2 : But R w0 w2) (hr : RD w2 R g m l e o j) (hij : i' ≤ j) (hii : i ≤ i') (h9 : X9 #[v0, v1, v2, v3, v4, v5, v6, v7, v8]) (hres : if r.1 = 0 then err = .nilIface ∧ j = r.2.2 ∧ XB (w0.heap.size ≤ ·) w2 r.2.1 #[v0, v1, v2, v3, v4, v5, v6, v7, v8] else UV r.1 err) (hbl : w.heap.size ≤ b) (hb0 : b < w0.heap.size) :
    PostX R g m l e o i r w (.returned (.tuple #[.agg #[v0, v1, v2, v3, v4, v5, v6, v7, v8], err])) (put9 w2 b v0 v1 v2 v3 v4 v5 v6 v7 v8) := by
  refine PostX.end h (B0.trans hb2) hr (by omega) put9_but (put9_below hbl) hbl h9 ?_
  split
  · rename_i q
    rw [if_pos q] at hres
    obtain ⟨q1, q2, q3⟩ := hres
    refine ⟨q1, q2, ?_⟩
    have p1 : But b w2 (put9 w2 b v0 v1 v2 v3 v4 v5 v6 v7 v8) := put9_but
    have q4 := q3.stay p1.size fun b' hb' hp => p1.block b' hb' (by omega)
    exact q4.mono fun b' _ hp => by have := B0.size; omega
  · rename_i q
    rw [if_neg q] at hres
    exact hres

set_option maxRecDepth 100000 in
set_option maxHeartbeats 8000000 in
theorem expression_any {w : World} {R g m : Nat} {l : List Tk} {e : Int} {o i : Nat} (h : RD w R g m l e o i) (ho : o ≤ 200) (r : PR) (hread : ∀ W q, o + 1 ≤ 200 → RD W R g m l e (o + 1) i → W.cell? ⟨q, 0, none⟩ = some (.pointer (some ⟨R, 0, none⟩)) → q ≠ R → Calls Tryz.prog 42 #[.pointer (some ⟨q, 0, none⟩)] W (PostX R g m l e (o + 1) i r W)) :
    Calls Tryz.prog 26 #[.pointer (some ⟨R, 0, none⟩)] w (PostX R g m l e o i (if 200 < o + 1 then (4, noX, i) else r) w) := by
  have hmf : ∀ (fn : Fn) (first cap : Array Value) (w : World), (Instr.makeFunc fn first cap).run Tryz.prog w = .ok (.func fn first cap) w := fun _ _ _ _ => rfl
  obtain ⟨w0, hw0⟩ : ∃ w0, w0 = ((w.alloc (.cells #[.pointer (some ⟨R, 0, none⟩)] 89)).alloc (.cells zero9 29)) := ⟨_, rfl⟩
  have B0 : Below w.heap.size w w0 := by rw [hw0]; exact below_via (vbelow_new _ _) (vbelow_new _ _)
  have q0 : w0.cell? ⟨w.heap.size, 0, none⟩ = some (.pointer (some ⟨R, 0, none⟩)) := by rw [hw0]; simp [go_sem]
  have K0 : K9 w0 (w.heap.size + 1) := by rw [hw0]; have := K9.new (w.alloc (.cells #[.pointer (some ⟨R, 0, none⟩)] 89)) 29 (.int .i64 0) (.int .i64 0) (.bool false) (.int .i64 0) (.int .i64 0) (.string ⟨#[]⟩) (.slice none 0 0) (.string ⟨#[]⟩) (.slice none 0 0); simpa using this
  have z0 : w0.heap.size = w.heap.size + 2 := by rw [hw0]; simp
  have lR := h.low
  have CW := hide (within_expr (q := w.heap.size) (h.keep B0) ho r q0 (by omega) (fun W ho1 hW hc => hread W w.heap.size ho1 hW hc (by omega)))
  generalize (if 200 < o + 1 then (4, noX, i) else r) = r2 at *
  have HH := hide h
  have HB0 := hide B0
  have HK := hide K0
  have HZ := hide z0
  clear hread h B0 K0 z0
  go_enter Tryz.func26, Tryz.ntmps26
  go_upto_region 1 with fail
  rw [← hw0]
  clear hw0
  go_wp2_with fail
  refine (unhide CW).mono ?_
  rintro en w2 ⟨hb2, cs, err, j, rfl, h9, hr2, hij, hres⟩
  obtain ⟨k, vk, vy, vc, vx, vt, va, vn, vp, s, xa, xn, xc, rfl⟩ := h9
  have HK2 := hide ((unhide HK).but hb2 (by omega))
  have HB2 := hide hb2
  have HR2 := hide hr2
  have HS := hide hres
  have HI := hide hij
  obtain ⟨u0, u1, u2, u3, u4, u5, u6, u7, u8, c0, c1, c2, c3, c4, c5, c6, c7, c8, f⟩ := (unhide HK2).all
  clear hb2 hr2 hres hij CW HK
  go_wp2
  refine bodyPost_ret (v := .tuple #[.agg #[.int .i64 k, .int .i64 vk, .bool vy, .int .i64 vc, .int .i64 vx, .string vt, .slice va vn vp, .string s, .slice xa xn xc], err]) (by simp [results, Tryz.results26, go_sem, c0, c1, c2, c3, c4, c5, c6, c7, c8]) rfl ?_
  exact PostX.via (b := w.heap.size + 1) (unhide HH) (But.of (unhide HB0)) (unhide HB2) (unhide HR2) (unhide HI) (Nat.le_refl _) ⟨_, _, _, _, _, _, _, _, _, _, _, _, _, rfl⟩ (unhide HS) (by omega) (by have := unhide HZ; omega)
end Go.Proofs.YthpjejfgoohhfaaGreatDoor

/- Walks: a sign ahead of an expression. -/
namespace Go.Proofs.YthpjejfgoohhfaaGreatDoor
open Go.RowKit Go.MapKept

/-- a node of one kid, whose block is new -/
theorem XB.one {P : Nat → Prop} {w : World} {k : Int} {x : XT} {v0 v1 v2 v3 v4 v5 v6 v7 v8 : Value} {t : TypeId} (h : XB P w x #[v0, v1, v2, v3, v4, v5, v6, v7, v8]) (hP : P w.heap.size) : XB P (w.alloc (.cells #[v0, v1, v2, v3, v4, v5, v6, v7, v8] t)) (xN k [x]) #[.int .i64 k, .int .i64 0, .bool false, .int .i64 0, .int .i64 0, .string ⟨#[]⟩, .slice none 0 0, .string ⟨#[]⟩, .slice (some ⟨w.heap.size, 0, none⟩) 1 1] := by
  unfold xN
  rw [XB]
  refine ⟨by decide, by simp, 0, false, 0, 0, ⟨#[]⟩, _, 1, rfl, rfl, by decide, fun _ => ⟨w.heap.size, 0, rfl, by simp, hP, ?_⟩⟩
  rw [XBL, XBL]
  refine ⟨⟨_, ?_, h.keep (vbelow_new _ _)⟩, trivial⟩
  have := (V9.new w t v0 v1 v2 v3 v4 v5 v6 v7 v8).tell
  exact ⟨v0, v1, v2, v3, v4, v5, v6, v7, v8, rfl, this⟩

/-- the end of a sign's reading -/
theorem PostX.sgn {w w1 w2 : World} {R g m : Nat} {l : List Tk} {e : Int} {o i j : Nat} {r2 : PR} {v0 v1 v2 v3 v4 v5 v6 v7 v8 err : Value} {t t' : TypeId} (h : RD w R g m l e o i) (hb : But R w w2) (hr : RD w2 R g m l e o j) (hij : i + 1 ≤ j) (l1 : w.heap.size < w1.heap.size) (l2 : w1.heap.size ≤ w2.heap.size) (hres : if r2.1 = 0 then err = .nilIface ∧ j = r2.2.2 ∧ XB (w1.heap.size ≤ ·) w2 r2.2.1 #[v0, v1, v2, v3, v4, v5, v6, v7, v8] else UV r2.1 err) :
    PostX R g m l e o i (onOk r2 fun x j => (0, xN 3 [x], j)) w (.returned (.tuple #[.agg #[.int .i64 3, .int .i64 0, .bool false, .int .i64 0, .int .i64 0, .string ⟨#[]⟩, .slice none 0 0, .string ⟨#[]⟩, .slice (some ⟨w2.heap.size + 1, 0, none⟩) 1 1], err])) (put9 ((w2.alloc (.cells #[v0, v1, v2, v3, v4, v5, v6, v7, v8] t)).alloc (.cells #[v0, v1, v2, v3, v4, v5, v6, v7, v8] t')) w.heap.size (.int .i64 3) (.int .i64 0) (.bool false) (.int .i64 0) (.int .i64 0) (.string ⟨#[]⟩) (.slice none 0 0) (.string ⟨#[]⟩) (.slice (some ⟨w2.heap.size + 1, 0, none⟩) 1 1)) := by
  have BW : Below w2.heap.size w2 ((w2.alloc (.cells #[v0, v1, v2, v3, v4, v5, v6, v7, v8] t)).alloc (.cells #[v0, v1, v2, v3, v4, v5, v6, v7, v8] t')) := below_via (vbelow_new _ _) (vbelow_new _ _)
  refine PostX.end (b := w.heap.size) h (hb.trans (But.of BW)) (hr.keep BW) (by omega) put9_but (put9_below (Nat.le_refl _)) (Nat.le_refl _) ⟨_, _, _, _, _, _, _, _, _, _, _, _, _, rfl⟩ ?_
  by_cases q : r2.1 = 0
  · rw [if_pos q] at hres
    obtain ⟨q1, q2, q3⟩ := hres
    have e2 : onOk r2 (fun x j => ((0 : Int), xN 3 [x], j)) = (0, xN 3 [r2.2.1], r2.2.2) := by unfold onOk; rw [if_pos q]
    rw [e2, if_pos rfl]
    refine ⟨q1, q2, ?_⟩
    have x1 := (q3.keep (vbelow_new w2 (.cells #[v0, v1, v2, v3, v4, v5, v6, v7, v8] t))).one (k := 3) (t := t') (by simp; omega)
    rw [World.size_alloc] at x1
    generalize ((w2.alloc (.cells #[v0, v1, v2, v3, v4, v5, v6, v7, v8] t)).alloc (.cells #[v0, v1, v2, v3, v4, v5, v6, v7, v8] t')) = W at x1 ⊢
    have pb : But w.heap.size W (put9 W w.heap.size (.int .i64 3) (.int .i64 0) (.bool false) (.int .i64 0) (.int .i64 0) (.string ⟨#[]⟩) (.slice none 0 0) (.string ⟨#[]⟩) (.slice (some ⟨w2.heap.size + 1, 0, none⟩) 1 1)) := put9_but
    have x2 := x1.stay pb.size fun b hb hp => pb.block b hb (by omega)
    exact x2.mono fun b _ hp => by omega
  · rw [if_neg q] at hres
    rw [onOk_no q, if_neg q]
    exact hres

set_option maxRecDepth 100000 in
set_option maxHeartbeats 8000000 in
theorem signed_plain {w : World} {R g m : Nat} {l : List Tk} {e : Int} {o i : Nat} (h : RD w R g m l e o i) (rP : PR) (hs' : seesT l i [45] = false)
    (hP : ∀ W, RD W R g m l e o i → Calls Tryz.prog 94 #[.pointer (some ⟨R, 0, none⟩)] W (PostX R g m l e o i rP W)) :
    Calls Tryz.prog 71 #[.pointer (some ⟨R, 0, none⟩)] w (PostX R g m l e o i rP w) := by
  obtain ⟨w0, hw0⟩ : ∃ w0, w0 = w.alloc (.cells zero9 29) := ⟨_, rfl⟩
  have B0 : Below w.heap.size w w0 := by rw [hw0]; exact vbelow_new _ _
  have K0 : K9 w0 w.heap.size := by rw [hw0]; exact K9.new w 29 _ _ _ _ _ _ _ _ _
  have z0 : w0.heap.size = w.heap.size + 1 := by rw [hw0]; simp
  have lR := h.low
  have h0 := h.keep B0
  have TK := hide (take_lit R g i e l ⟨#[45]⟩ w0.heap.size w0 rfl h0.wk h0.tk h0.len)
  have e45 : seesT l i (⟨#[45]⟩ : ByteArray).data.toList = seesT l i [45] := rfl
  rw [e45] at TK
  have HH := hide h
  have HH0 := hide h0
  have HB0 := hide B0
  have HK := hide K0
  have HZ := hide z0
  clear h h0 B0 K0 z0 e45
  have CP := hide hP
  rw [hs'] at TK
  clear hP hs'
  go_enter Tryz.func71, Tryz.ntmps71
  go_upto_region 1 with fail
  rw [← hw0]
  clear hw0
  go_wp2_with fail
  refine (unhide TK).mono ?_
  rintro en w1 ⟨rfl, hk1, hb1⟩
  rw [if_neg (by simp)] at hk1
  have h1 := (unhide HH0).at hb1 hk1
  have C2 := hide (unhide CP w1 h1)
  have HK1 := hide ((unhide HK).but hb1.but (by omega))
  have HB1 := hide ((But.of (p := R) (unhide HB0)).trans hb1.but)
  have HZ1 : Hid (w.heap.size < w1.heap.size) := hide (by have := hb1.but.size; have := unhide HZ; omega)
  clear hk1 hb1 h1 CP TK HK
  go_wp2_with fail
  refine (unhide C2).mono ?_
  rintro en w2 ⟨hb2, cs, err, j, rfl, h9, hr2, hij, hres⟩
  obtain ⟨k, vk, vy, vc, vx, vt, va, vn, vp, s, xa, xn, xc, rfl⟩ := h9
  have HK2 := hide ((unhide HK1).but hb2 (by omega))
  have HB2 := hide hb2
  have HR2 := hide hr2
  have HS := hide hres
  have HI := hide hij
  obtain ⟨u0, u1, u2, u3, u4, u5, u6, u7, u8, c0, c1, c2, c3, c4, c5, c6, c7, c8, f⟩ := (unhide HK2).all
  clear hb2 hr2 hres hij C2 HK1
  go_wp2
  refine bodyPost_ret (v := .tuple #[.agg #[.int .i64 k, .int .i64 vk, .bool vy, .int .i64 vc, .int .i64 vx, .string vt, .slice va vn vp, .string s, .slice xa xn xc], err]) (by simp [results, Tryz.results71, go_sem, c0, c1, c2, c3, c4, c5, c6, c7, c8]) rfl ?_
  exact PostX.via (b := w.heap.size) (unhide HH) (unhide HB1) (unhide HB2) (unhide HR2) (unhide HI) (Nat.le_refl _) ⟨_, _, _, _, _, _, _, _, _, _, _, _, _, rfl⟩ (unhide HS) (Nat.le_refl _) (unhide HZ1)
end Go.Proofs.YthpjejfgoohhfaaGreatDoor
