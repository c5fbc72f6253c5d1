/- Walks: what is asked of shapes. -/
import Derived.Test.YtnegjbkbfgkkjaaGreatDoorG08
import Derived.Test.YtnegjbkbfgkkjaaGreatDoorG06
import Derived.Test.YtnegjbkbfgkkjaaGreatDoorG07
import Derived.Test.YtnegjbkbfgkkjaaGreatDoorG01
namespace Go.Proofs.YtnegjbkbfgkkjaaGreatDoor
open Go.RowKit

theorem below2 (w : World) (o o' : Obj) : Below w.heap.size w ((w.alloc o).alloc o') := ((Below.refl _ _).alloc (Nat.le_refl _) _).alloc (by simp) _

set_option maxHeartbeats 1000000 in
theorem is_five (a : Sp) (w : World) :
    Calls Tryz.prog 117 #[sh a, .int .i64 5] w fun e w' => e = .returned (.bool (decide (0 < a.n))) ∧ Below w.heap.size w w' := by
  obtain ⟨n, q⟩ := a
  have B0 := hide ((Below.refl w.heap.size w).alloc (Nat.le_refl _) (.cells #[.int .i64 (n : Int), .int .i64 q] 158))
  have hn : decide (0 < n) = decide (0 < (n : Int)) := by simp
  show Calls Tryz.prog 117 #[shn (n : Int) q, .int .i64 5] w fun e w' => e = .returned (.bool (decide (0 < n))) ∧ Below w.heap.size w w'
  rw [hn]
  clear hn
  go_enter Tryz.func117, Tryz.ntmps117
  go_wp2
  go_ret
  exact ⟨by simp, unhide B0⟩

theorem isB_any (a : Sp) (k : Int) (w : World) :
    Calls Tryz.prog 117 #[sh a, .int .i64 k] w fun e w' => e = .returned (.bool (a.isB k)) ∧ Below w.heap.size w w' := by
  unfold Sp.isB
  by_cases h : k = 5
  · subst h
    rw [if_pos rfl]
    exact is_five a w
  · rw [if_neg h]
    exact is_any a k w h

set_option maxHeartbeats 1000000 in
theorem isOpen_any (a : Sp) (w : World) :
    Calls Tryz.prog 166 #[sh a] w fun e w' => e = .returned (.bool a.openB) ∧ Below w.heap.size w w' := by
  have I1 := hide (fun wx => is_any a 1 wx (by decide))
  have I2 := hide (fun wx => is_any a 6 wx (by decide))
  have X0 := hide (Bx2.new w 158 (.int .i64 a.n) (.int .i64 a.k))
  have B0 := hide ((Below.refl w.heap.size w).alloc (Nat.le_refl _) (.cells #[.int .i64 (a.n : Int), .int .i64 a.k] 158))
  unfold Sp.openB
  generalize decide (a.n = 0 ∧ a.k = 1) = p at *
  generalize decide (a.n = 0 ∧ a.k = 6) = q at *
  go_enter Tryz.func166, Tryz.ntmps166
  go_wp2_with fail
  refine (unhide I1 _).mono ?_
  rintro e w1 ⟨rfl, hb⟩
  have c0 := ((unhide X0).keep hb (unhide X0).low).at0
  have c1 := ((unhide X0).keep hb (unhide X0).low).at1
  have B1 := hide (below_via (unhide B0) hb)
  clear hb
  cases p
  · go_wp2_with fail
    refine (unhide I2 _).mono ?_
    rintro e w2 ⟨rfl, hb⟩
    have B2 := hide (below_via (unhide B1) hb)
    clear hb
    go_wp2
    go_ret
    exact ⟨by simp, unhide B2⟩
  · go_wp2
    go_ret
    exact ⟨by simp, unhide B1⟩

set_option maxHeartbeats 1000000 in
theorem mayBe_any (a : Sp) (k : Int) (w : World) :
    Calls Tryz.prog 145 #[sh a, .int .i64 k] w fun e w' => e = .returned (.bool (a.mayB k)) ∧ Below w.heap.size w w' := by
  have I1 := hide (fun wx => isB_any a k wx)
  have I2 := hide (fun wx => isOpen_any a wx)
  have X0 := hide (Bx2.new w 158 (.int .i64 a.n) (.int .i64 a.k))
  have B0 := hide ((Below.refl w.heap.size w).alloc (Nat.le_refl _) (.cells #[.int .i64 (a.n : Int), .int .i64 a.k] 158))
  unfold Sp.mayB
  generalize a.isB k = p at *
  generalize a.openB = q at *
  go_enter Tryz.func145, Tryz.ntmps145
  go_wp2_with fail
  refine (unhide I1 _).mono ?_
  rintro e w1 ⟨rfl, hb⟩
  have c0 := ((unhide X0).keep hb (unhide X0).low).at0
  have c1 := ((unhide X0).keep hb (unhide X0).low).at1
  have B1 := hide (below_via (unhide B0) hb)
  clear hb
  cases p
  · go_wp2_with fail
    refine (unhide I2 _).mono ?_
    rintro e w2 ⟨rfl, hb⟩
    have B2 := hide (below_via (unhide B1) hb)
    clear hb
    go_wp2
    go_ret
    exact ⟨by simp, unhide B2⟩
  · go_wp2
    go_ret
    exact ⟨by simp, unhide B1⟩

set_option maxHeartbeats 1000000 in
theorem listed_any (a : Sp) (w : World) (ha : a.n ≤ 100000) :
    Calls Tryz.prog 147 #[sh a] w fun e w' => e = .returned (sh a.listed) ∧ Below w.heap.size w w' := by
  obtain ⟨n, q⟩ := a
  simp only at ha
  have B0 := hide (((Below.refl w.heap.size w).alloc (Nat.le_refl _) (.cells #[.int .i64 (n : Int), .int .i64 q] 158)))
  show Calls Tryz.prog 147 #[shn (n : Int) q] w fun e w' => e = .returned (shn ((n + 1 : Nat) : Int) q) ∧ Below w.heap.size w w'
  rw [show ((n + 1 : Nat) : Int) = (n : Int) + 1 by omega]
  go_enter Tryz.func147, Tryz.ntmps147
  go_wp2_with fail
  exact bodyPost_ret (v := shn ((n : Int) + 1) q) (by simp [results, Tryz.results147, go_sem]) rfl ⟨rfl, (unhide B0).alloc (unhide B0).size _⟩

set_option maxHeartbeats 1000000 in
theorem elem_any (a : Sp) (w : World) (ha : a.n ≤ 100000) :
    Calls Tryz.prog 135 #[sh a] w fun e w' => e = .returned (sh a.elem) ∧ Below w.heap.size w w' := by
  obtain ⟨n, q⟩ := a
  simp only at ha
  by_cases h : n = 0
  · subst h
    show Calls Tryz.prog 135 #[shn 0 q] w fun e w' => e = .returned (shn 0 q) ∧ Below w.heap.size w w'
    go_enter Tryz.func135, Tryz.ntmps135
    go_wp2_with fail
    refine bodyPost_ret (v := shn 0 q) (by simp [results, Tryz.results135, go_sem]) rfl ⟨rfl, ?_⟩
    exact below2 w _ _
  · have h1 : ((n : Int) == 0) = false := by simp; omega
    have e1 : Sp.elem ⟨n, q⟩ = ⟨n - 1, q⟩ := by unfold Sp.elem; rw [if_neg h]
    rw [e1]
    show Calls Tryz.prog 135 #[shn (n : Int) q] w fun e w' => e = .returned (shn ((n - 1 : Nat) : Int) q) ∧ Below w.heap.size w w'
    rw [show ((n - 1 : Nat) : Int) = (n : Int) - 1 by omega]
    clear e1
    go_enter Tryz.func135, Tryz.ntmps135
    go_wp2_with fail
    refine bodyPost_ret (v := shn ((n : Int) - 1) q) (by simp [results, Tryz.results135, go_sem]) rfl ⟨rfl, ?_⟩
    exact below2 w _ _

set_option maxHeartbeats 1000000 in
theorem orWrong_any (a : Sp) (ok : Bool) (w : World) :
    Calls Tryz.prog 114 #[sh a, .bool ok] w fun e w' => e = .returned (.tuple #[sh (orW (a, ok)).2, .int .i64 (orW (a, ok)).1]) ∧ Below w.heap.size w w' := by
  obtain ⟨n, q⟩ := a
  cases ok
  · show Calls Tryz.prog 114 #[shn (n : Int) q, .bool false] w fun e w' => e = .returned (.tuple #[shn 0 0, .int .i64 9]) ∧ Below w.heap.size w w'
    go_enter Tryz.func114, Tryz.ntmps114
    go_wp2_with fail
    refine bodyPost_ret (v := .tuple #[shn 0 0, .int .i64 9]) (by simp [results, Tryz.results114, go_sem]) rfl ⟨rfl, ?_⟩
    exact below2 w _ _
  · show Calls Tryz.prog 114 #[shn (n : Int) q, .bool true] w fun e w' => e = .returned (.tuple #[shn (n : Int) q, .int .i64 0]) ∧ Below w.heap.size w w'
    go_enter Tryz.func114, Tryz.ntmps114
    go_wp2_with fail
    refine bodyPost_ret (v := .tuple #[shn (n : Int) q, .int .i64 0]) (by simp [results, Tryz.results114, go_sem]) rfl ⟨rfl, ?_⟩
    exact below2 w _ _
end Go.Proofs.YtnegjbkbfgkkjaaGreatDoor

/- A region that draws its order and ends with a store (what stage 8's SR and stage 5's RS2 share). -/
namespace Go.Proofs.YtnegjbkbfgkkjaaGreatDoor
open Go.RowKit

def Ds.isL : Ds → Value → Prop
  | .lit v, x => x = v
  | .mem _ _, _ => True
  | .any, _ => True
def OkS (g : Bool) (l : List Ds) (i : Nat) (v : Value) (w : World) : Prop := if g = true then ((l[i]?).getD .any).isL v else OkL l i v w
theorem oks_lit {g : Bool} {l : List Ds} {i : Nat} {v u : Value} {w : World} (h : OkS g l i v w) (hl : (l[i]?).getD .any = .lit u) : v = u := by
  unfold OkS at h
  split at h
  · rw [hl] at h; exact h
  · unfold OkL at h
    rw [hl] at h; exact h
theorem oks_mem {g : Bool} {l : List Ds} {i : Nat} {v : Value} {w : World} (h : OkS g l i v w) (hg : g = false) : OkL l i v w := by
  unfold OkS at h
  rw [hg] at h
  exact h
theorem oks_of {g : Bool} {l : List Ds} {i : Nat} {u : Value} {w : World} (hl : (l[i]?).getD .any = .lit u) : OkS g l i u w := by
  unfold OkS
  split
  · rw [hl]; exact rfl
  · unfold OkL
    rw [hl]; exact rfl

structure RS (w0 : World) (a0 : Act) (N : Nat) (D : List Nat) (gi : Nat) (Fin : World → Prop) (l : List Ds) (L : Nat → Bool) (a : Act) (w : World) : Prop where
  size : a.tmps.size = N
  defs : a.defers = []
  rest : ∀ j, (∀ i d, L i = true → D[i]? = some d → d ≠ j) → G a j = G a0 j
  got : ∀ i d, L i = true → D[i]? = some d → OkS (L gi) l i (G a d) w
  old : L gi = false → Below w0.heap.size w0 w
  fin : L gi = true → Fin w
section
variable {w0 w w' : World} {a0 a a' : Act} {N gi : Nat} {D : List Nat} {Fin : World → Prop} {l : List Ds} {L : Nat → Bool} {ops : Array Oper} {Q : Exit → Act → World → Prop} {i d : Nat} {o : Oper}
theorem RS.keep (h : RS w0 a0 N D gi Fin l L a w) {s : Nat} (hs : s ∉ D) : G a s = G a0 s :=
  h.rest s (fun _ _ _ hd e => hs (e ▸ List.mem_of_getElem? hd))
theorem RS.start (h1 : a0.tmps.size = N) (h2 : a0.defers = []) (h3 : Below w0.heap.size w0 w) : RS w0 a0 N D gi Fin l (fun _ => false) a0 w :=
  ⟨h1, h2, fun _ _ => rfl, fun _ _ h => (by cases h), fun _ => h3, fun h => (by cases h)⟩
theorem nodupS_at (nd : D.Nodup) {j : Nat} (hi : D[i]? = some d) (hj : D[j]? = some d) : j = i := by
  obtain ⟨l1, e1⟩ := List.getElem?_eq_some_iff.1 hi
  obtain ⟨l2, e2⟩ := List.getElem?_eq_some_iff.1 hj
  exact (List.getElem_inj nd).1 (e2.trans e1.symm)
theorem RS.step (h : RS w0 a0 N D gi Fin l L a w) (nd : D.Nodup) (i : Nat) {d : Nat} {v : Value} (hi : D[i]? = some d) (ne : gi ≠ i) (U : Upd a d v a') (hd : a'.defers = a.defers) (hw : w' = w ∨ (L gi = false ∧ Below w.heap.size w w')) (ok : OkS (L gi) l i v w') :
    RS w0 a0 N D gi Fin l (fun j => j == i || L j) a' w' := by
  have eg : (gi == i || L gi) = L gi := by simp [ne]
  refine ⟨U.size.trans h.size, hd.trans h.defs, fun j hj => ?_, fun j e hj he => ?_, fun hg => ?_, fun hg => ?_⟩
  · have hne : j ≠ d := fun e => hj i d (by simp) hi e.symm
    rw [U.rest j hne]
    exact h.rest j (fun i' d' hi' hd' => hj i' d' (by simp [hi']) hd')
  · show OkS (gi == i || L gi) l j (G a' e) w'
    rw [eg]
    by_cases e1 : j = i
    · subst e1
      rw [hi] at he
      cases he
      rw [U.got]
      exact ok
    · have hL : L j = true := by simpa [e1] using hj
      have hne : e ≠ d := fun q => e1 (nodupS_at nd hi (q ▸ he))
      rw [U.rest e hne]
      have g := h.got j e hL he
      rcases hw with rfl | ⟨hg, hb⟩
      · exact g
      · unfold OkS at *
        rw [hg] at g ⊢
        exact OkL.mono l j _ _ _ hb g
  · have hg' : L gi = false := by rw [← eg]; exact hg
    rcases hw with rfl | ⟨_, hb⟩
    · exact h.old hg'
    · exact (h.old hg').trans (hb.mono (h.old hg').size)
  · have hg' : L gi = true := by rw [← eg]; exact hg
    rcases hw with rfl | ⟨hq, _⟩
    · exact h.fin hg'
    · rw [hg'] at hq; cases hq
theorem rs_val (h : RS w0 a0 N D gi Fin l L a w) (nd : D.Nodup) (hi : ops[i]? = some o) (hd : o.dst = some d) (hDi : D[i]? = some d) (hN : d < N) (ne : gi ≠ i) (hw : Region.wanted o (yielded ops a.tmps) = true) {v : Value} (r : (execOp a.eval o).run Tryz.prog w = .ok (.value v) w) (hl : (l[i]?).getD .any = .lit v) :
    wpOp Tryz.prog ops Q i (fun a' w' => RS w0 a0 N D gi Fin l (fun j => j == i || L j) a' w') a w :=
  o_val hi hd hw (by rw [h.size]; exact hN) r fun _ U hf => h.step nd i hDi ne U hf (.inl rfl) (oks_of hl)
theorem rs_call (h : RS w0 a0 N D gi Fin l L a w) (nd : D.Nodup) (hi : ops[i]? = some o) (hd : o.dst = some d) (hDi : D[i]? = some d) (hN : d < N) (ne : gi ≠ i) (hg : L gi = false) (hw : Region.wanted o (yielded ops a.tmps) = true) {n : Nat} {args : Array Value} (r : (execOp a.eval o).run Tryz.prog w = .ok (.enter n args) w)
    {R : Value → World → Prop} (hc : Calls Tryz.prog n args w fun e w' => ∃ v, e = .returned v ∧ R v w' ∧ Below w.heap.size w w') (ok : ∀ v w', R v w' → OkL l i v w') :
    wpOp Tryz.prog ops Q i (fun a' w' => RS w0 a0 N D gi Fin l (fun j => j == i || L j) a' w') a w :=
  o_enter (R := fun v w' => R v w' ∧ Below w.heap.size w w') hi hd hw (by rw [h.size]; exact hN) r hc fun v _ w' hR U hf => h.step nd i hDi ne U hf (.inr ⟨hg, hR.2⟩) (by unfold OkS; rw [hg]; exact ok v w' hR.1)
end
end Go.Proofs.YtnegjbkbfgkkjaaGreatDoor

/- Walks: trimmed, number. -/
namespace Go.Proofs.YtnegjbkbfgkkjaaGreatDoor
open Go.RowKit

theorem ret_near {a b c a' b' c' : Int} (h1 : a = a') (h2 : b = b') (h3 : c = c') :
    Ending.returned (.tuple #[.agg #[.int .i64 a, .int .i64 b], .int .i64 c]) = .returned (.tuple #[.agg #[.int .i64 a', .int .i64 b'], .int .i64 c']) := by rw [h1, h2, h3]

set_option maxHeartbeats 400000 in
theorem trimmed_zero (x : Int) (w : World) :
    Calls Tryz.prog 184 #[.int .i64 0, .int .i64 x] w fun e w' => e = .returned (.tuple #[.agg #[.int .i64 0, .int .i64 0], .int .i64 0]) ∧ Below w.heap.size w w' := by
  go_enter Tryz.func184, Tryz.ntmps184
  go_wp2
  exact bodyPost_ret (v := .tuple #[.agg #[.int .i64 0, .int .i64 0], .int .i64 0]) (by simp [results, Tryz.results184, go_sem]) rfl ⟨rfl, (Below.refl _ _).alloc (Nat.le_refl _) _⟩

set_option maxHeartbeats 400000 in
theorem trimmed_some (c x : Int) (w : World) (h0 : (c == 0) = false) (h1 : -1000000000000000000 ≤ c) (h2 : c ≤ 1000000000000000000) (hx1 : -200 ≤ x) (hx2 : x ≤ 200) :
    Calls Tryz.prog 184 #[.int .i64 c, .int .i64 x] w fun e w' => ∃ (m : Int) (k : Nat), c = Dm.tens m k ∧ m.tmod 10 ≠ 0 ∧ ((40 < x + k ∧ e = .returned (.tuple #[.agg #[.int .i64 0, .int .i64 0], .int .i64 4])) ∨ (x + k ≤ 40 ∧ e = .returned (.tuple #[.agg #[.int .i64 m, .int .i64 (x + k)], .int .i64 0]))) ∧ Below w.heap.size w w' := by
  go_enter Tryz.func184, Tryz.ntmps184
  go_wp2
  go_loop [0, 1] (fun a b => ∃ (m : Int) (k : Nat), a = .int .i64 m ∧ b = .int .i64 (x + k) ∧ Hid (c = Dm.tens m k) ∧ Hid (m ≠ 0) ∧ -1000000000000000000 ≤ m ∧ m ≤ 1000000000000000000 ∧ k ≤ 18) (fun a _ => (intOf a).natAbs)
  case atStart => exact ⟨c, 0, rfl, by simp, hide rfl, hide (by simpa using h0), h1, h2, by omega⟩
  case round =>
    obtain ⟨m, k, rfl, rfl, H, hm0, hm1, hm2, hk⟩ := hrel
    by_cases hm : m.tmod 10 = 0
    · have hm' : (m.tmod 10 == 0) = true := by simp [hm]
      have T := hide (Dm.td10 m)
      have Hm := hide hm
      obtain ⟨q1, q2, q3, q4, q5⟩ := Dm.tdiv_facts (unhide hm0) hm
      have hq1 := hide q1
      have hk' := Dm.tens_k (unhide H) hm (unhide hm0) h1 h2
      clear hm q1
      go_wp2
      go_round
      case rel => exact ⟨_, k + 1, rfl, by go_num, hide (Dm.tens_step (unhide H) (unhide hq1)), hide q2, by omega, by omega, by omega⟩
      case measure => exact q3
    · have hm' : (m.tmod 10 == 0) = false := by simp [hm]
      have Hm := hide hm
      clear hm
      by_cases hg : 40 < x + (k : Int)
      · go_wp2
        exact bodyPost_ret (v := .tuple #[.agg #[.int .i64 0, .int .i64 0], .int .i64 4]) (by simp [results, Tryz.results184, go_sem]) rfl ⟨m, k, unhide H, unhide Hm, .inl ⟨hg, rfl⟩, (Below.refl _ _).alloc (Nat.le_refl _) _⟩
      · go_wp2
        exact bodyPost_ret (v := .tuple #[.agg #[.int .i64 m, .int .i64 (x + k)], .int .i64 0]) (by simp [results, Tryz.results184, go_sem]) rfl ⟨m, k, unhide H, unhide Hm, .inr ⟨by omega, rfl⟩, (Below.refl _ _).alloc (Nat.le_refl _) _⟩

theorem trimmed_any (c x : Int) (w : World) (h1 : -1000000000000000000 ≤ c) (h2 : c ≤ 1000000000000000000) (hx1 : -200 ≤ x) (hx2 : x ≤ 200) :
    Calls Tryz.prog 184 #[.int .i64 c, .int .i64 x] w fun e w' => e = .returned (.tuple #[.agg #[.int .i64 (Dm.fC c x), .int .i64 (Dm.fE c x)], .int .i64 (Dm.fR c x)]) ∧ Below w.heap.size w w' := by
  by_cases h0 : c = 0
  · subst h0
    exact (trimmed_zero x w).mono fun e w' h => h
  · refine (trimmed_some c x w (by simp [h0]) h1 h2 hx1 hx2).mono ?_
    rintro e w' ⟨m, k, hc, hm, he, hb⟩
    obtain ⟨t1, t2⟩ := Dm.tz_at hc hm (by omega)
    refine ⟨?_, hb⟩
    rcases he with ⟨g, rfl⟩ | ⟨g, rfl⟩
    · refine ret_near ?_ ?_ ?_ <;> simp only [Dm.fC, Dm.fE, Dm.fR, if_neg h0, t1, if_pos g]
    · have g' : ¬ 40 < x + (k : Int) := by omega
      refine ret_near ?_ ?_ ?_ <;> simp only [Dm.fC, Dm.fE, Dm.fR, if_neg h0, t1, t2, if_neg g']

set_option maxHeartbeats 400000 in
theorem number_any (B R : Bool) (sv : Value) (x : Int) (hsv : ∃ ao n c, sv = .slice ao n c) (q : Nat) (y : Int) (w : World) (hq : (q : Int) ≤ 1000000000000000000) (hx1 : -200 ≤ y) (hx2 : y ≤ 200) :
    Calls Tryz.prog 171 #[.agg #[.bool B, sv, .int .i64 x, .bool R], .int .u64 (q : Int), .int .i64 y] w fun e w' => e = .returned (.tuple #[.agg #[.int .i64 (Dm.fC (Dm.sg B q) y), .int .i64 (Dm.fE (Dm.sg B q) y)], .int .i64 (Dm.fR (Dm.sg B q) y)]) ∧ Below w.heap.size w w' := by
  obtain ⟨ao, n, cp, rfl⟩ := hsv
  cases B
  · go_enter Tryz.func171, Tryz.ntmps171
    go_wp2_with fail
    refine (trimmed_any (q : Int) y _ (by omega) (by omega) hx1 hx2).mono ?_
    rintro e w1 ⟨rfl, hb⟩
    obtain ⟨hc, hf⟩ := bcell hb
    have hz : w.heap.size + 2 ≤ w1.heap.size := by have := hb.size; simp at this; omega
    have hb0 : Below w.heap.size w w1 := (((Below.refl _ _).alloc (Nat.le_refl _) _).alloc (by simp) _).trans (hb.mono (by simp; omega))
    go_wp2
    exact bodyPost_ret (v := .tuple #[.agg #[.int .i64 (Dm.fC (q : Int) y), .int .i64 (Dm.fE (q : Int) y)], .int .i64 (Dm.fR (q : Int) y)]) (by simp [results, Tryz.results171, go_sem, hc]) rfl ⟨rfl, (hb0.setCell (by simp) _).setCell (by simp) _⟩
  · go_enter Tryz.func171, Tryz.ntmps171
    go_wp2_with fail
    refine (trimmed_any (-(q : Int)) y _ (by omega) (by omega) hx1 hx2).mono ?_
    rintro e w1 ⟨rfl, hb⟩
    obtain ⟨hc, hf⟩ := bcell hb
    have hz : w.heap.size + 2 ≤ w1.heap.size := by have := hb.size; simp at this; omega
    have hb0 : Below w.heap.size w w1 := (((Below.refl _ _).alloc (Nat.le_refl _) _).alloc (by simp) _).trans (hb.mono (by simp; omega))
    go_wp2
    exact bodyPost_ret (v := .tuple #[.agg #[.int .i64 (Dm.fC (-(q : Int)) y), .int .i64 (Dm.fE (-(q : Int)) y)], .int .i64 (Dm.fR (-(q : Int)) y)]) (by simp [results, Tryz.results171, go_sem, hc]) rfl ⟨rfl, (hb0.setCell (by simp) _).setCell (by simp) _⟩

end Go.Proofs.YtnegjbkbfgkkjaaGreatDoor

/- Walks: what is wrong with an expression. -/
namespace Go.Proofs.YtnegjbkbfgkkjaaGreatDoor
open Go.RowKit

def Tree.coef : Tree → Int
  | .mk _ _ c _ _ _ => c
theorem Mem.tell {B : Nat} {w : World} {v : Tree} {vk : Int} {vy : Bool} {vc vx : Int} {vt : ByteArray} {va : Option Addr} {vn vp : Nat} (h : Mem B w v #[.int .i64 vk, .bool vy, .int .i64 vc, .int .i64 vx, .string vt, .slice va vn vp]) : v.kind = vk ∧ v.coef = vc := by
  cases v with
  | mk k y c x t ks =>
    rw [Mem] at h
    obtain ⟨_, _, a, cap, hv, _⟩ := h
    simp only [Array.mk.injEq, List.cons.injEq, Value.int.injEq, true_and] at hv
    exact ⟨hv.1.symm, hv.2.2.1.symm⟩
def nodeX (nB : ByteArray → Bool) (vW : Tree → Int) (k : Int) (v : Tree) (s : ByteArray) (n : Nat) : Int := nodeF (litF (vW v) v.kind v.coef) (nB s) k (n : Int)
mutual
/-- what is wrong with an expression, and how many were seen -/
def xwF (nB : ByteArray → Bool) (vW : Tree → Int) : XT → Nat → Nat → Int × Nat
  | .mk k v s ks, n, d =>
    if 1000 < n + 1 ∨ 60 < d then (4, n + 1) else if nodeX nB vW k v s ks.length ≠ 0 then (nodeX nB vW k v s ks.length, n + 1)
    else xwL nB vW ks (n + 1) (d + 1)
def xwL (nB : ByteArray → Bool) (vW : Tree → Int) : List XT → Nat → Nat → Int × Nat
  | [], n, _ => (0, n)
  | x :: xs, n, d => if (xwF nB vW x n d).1 = 0 then xwL nB vW xs (xwF nB vW x n d).2 d else xwF nB vW x n d
end
section
variable {nB : ByteArray → Bool} {vW : Tree → Int}
mutual
theorem xwF_bd : ∀ (x : XT) (n d : Nat), n ≤ 1000 → (xwF nB vW x n d).2 ≤ 1001 ∧ ((xwF nB vW x n d).1 = 0 → (xwF nB vW x n d).2 ≤ 1000 ∧ x.ok ∧ (xwF nB vW x n d).2 = n + x.size)
  | .mk k v s ks, n, d, hn => by
    rw [xwF]
    by_cases h1 : 1000 < n + 1 ∨ 60 < d
    · rw [if_pos h1]; exact ⟨by simp; omega, fun h => by simp at h⟩
    rw [if_neg h1]
    by_cases h2 : nodeX nB vW k v s ks.length ≠ 0
    · rw [if_pos h2]; exact ⟨by simp; omega, fun h => absurd h h2⟩
    rw [if_neg h2]
    have hb := xwL_bd ks (n + 1) (d + 1) (by omega)
    refine ⟨hb.1, fun h => ?_⟩
    obtain ⟨q1, q2, q3⟩ := hb.2 h
    refine ⟨q1, ?_, by rw [q3, XT.size]; omega⟩
    rw [XT.ok]
    have hz : nodeX nB vW k v s ks.length = 0 := by simpa using h2
    unfold nodeX nodeF at hz
    split at hz
    · cases hz
    · split at hz
      · rename_i g; exact absurd hz g.2
      · split at hz
        · cases hz
        · split at hz
          · cases hz
          · rename_i g1 g2 g3 g4
            exact ⟨by omega, by omega, by omega, by omega, q2⟩
theorem xwL_bd : ∀ (ks : List XT) (n d : Nat), n ≤ 1000 → (xwL nB vW ks n d).2 ≤ 1001 ∧ ((xwL nB vW ks n d).1 = 0 → (xwL nB vW ks n d).2 ≤ 1000 ∧ okL ks ∧ (xwL nB vW ks n d).2 = n + sizeL ks)
  | [], n, d, hn => by rw [xwL]; exact ⟨by simp; omega, fun _ => ⟨by simp; omega, by rw [okL]; trivial, by rw [sizeL]; rfl⟩⟩
  | x :: xs, n, d, hn => by
    rw [xwL]
    have h := xwF_bd x n d hn
    by_cases h1 : (xwF nB vW x n d).1 = 0
    · rw [if_pos h1]
      obtain ⟨q1, q2, q3⟩ := h.2 h1
      have g := xwL_bd xs (xwF nB vW x n d).2 d q1
      refine ⟨g.1, fun e => ?_⟩
      obtain ⟨p1, p2, p3⟩ := g.2 e
      exact ⟨p1, by rw [okL]; exact ⟨q2, p2⟩, by rw [p3, q3, sizeL]; omega⟩
    · rw [if_neg h1]
      exact ⟨h.1, fun e => absurd e h1⟩
end
end
theorem xwL_ok {nB : ByteArray → Bool} {vW : Tree → Int} {u : XT} {us : List XT} {n d : Nat} (h : (xwF nB vW u n d).1 = 0) : xwL nB vW (u :: us) n d = xwL nB vW us (xwF nB vW u n d).2 d := by rw [xwL, if_pos h]
theorem xwL_no {nB : ByteArray → Bool} {vW : Tree → Int} {u : XT} {us : List XT} {n d : Nat} (h : ¬ (xwF nB vW u n d).1 = 0) : xwL nB vW (u :: us) n d = xwF nB vW u n d := by rw [xwL, if_neg h]
theorem St.set {w : World} {p s : Nat} (h : St w p s) : St (w.setCell ⟨p, 0, none⟩ (.int .i64 ((s : Int) + 1))) p (s + 1) := by
  obtain ⟨h1, h2, h3⟩ := h
  refine ⟨?_, ?_, by simpa [World.setCell] using h3⟩
  · simp [go_sem, h1]
  · simp [go_sem, h2]

/-- what look.wrong tells of an expression -/
def XwC (B : Nat) (Gd : World → Prop) (nB : ByteArray → Bool) (vW : Tree → Int) (x : XT) : Prop := ∀ (w : World) (cs : Array Value) (p n d : Nat) (z : Int), z = (d : Int) → XMem B w x cs → B ≤ p → St w p n → n ≤ 1000 → d ≤ 61 → Gd w →
  Calls Tryz.prog 137 #[.pointer (some ⟨p, 0, none⟩), .agg cs, .int .i64 z] w fun e w' => e = .returned (.int .i64 (xwF nB vW x n d).1) ∧ St w' p (xwF nB vW x n d).2 ∧ Below B w w'

set_option maxRecDepth 100000 in
set_option maxHeartbeats 8000000 in
theorem xw_of {B : Nat} {Gd : World → Prop} {nB : ByteArray → Bool} {vW : Tree → Int} (E : EnvX B Gd nB vW) (k : Int) (v : Tree) (s : ByteArray) (ks : List XT) (IH : ∀ u ∈ ks, XwC B Gd nB vW u) : XwC B Gd nB vW (.mk k v s ks) := by
  intro w cs p n d z hz hx hp hS hn hd hG
  subst hz
  rw [XMem] at hx
  obtain ⟨hs, hl, vk, vy, vc, vx, vt, va, vn, vp, a, cap, rfl, hv, hk⟩ := hx
  have hlp := hS.2.2
  have hBw : B ≤ w.heap.size := by omega
  obtain ⟨hvk, hvc⟩ := hv.tell
  -- the world behind the count
  obtain ⟨w1, hw1⟩ : ∃ w1, w1 = (w.setCell ⟨p, 0, none⟩ (.int .i64 ((n : Int) + 1))).alloc (.cells #[.int .i64 k, .int .i64 vk, .bool vy, .int .i64 vc, .int .i64 vx, .string vt, .slice va vn vp, .string s, .slice a ks.length cap] 86) := ⟨_, rfl⟩
  have zs : (w.setCell ⟨p, 0, none⟩ (.int .i64 ((n : Int) + 1))).heap.size = w.heap.size := by simp [World.setCell]
  have B1 : Below B w w1 := by rw [hw1]; exact ((Below.refl B w).setCell (p := ⟨p, 0, none⟩) (by show B ≤ p; omega) _).alloc (by rw [zs]; exact hBw) _
  have S1 : St w1 p (n + 1) := by rw [hw1]; exact hS.set.below ((Below.refl _ _).alloc (Nat.le_refl _) _) hS.set.2.2
  have X1 : V9 w1 w.heap.size (.int .i64 k) (.int .i64 vk) (.bool vy) (.int .i64 vc) (.int .i64 vx) (.string vt) (.slice va vn vp) (.string s) (.slice a ks.length cap) := by
    have q := V9.new (w.setCell ⟨p, 0, none⟩ (.int .i64 ((n : Int) + 1))) 86 (.int .i64 k) (.int .i64 vk) (.bool vy) (.int .i64 vc) (.int .i64 vx) (.string vt) (.slice va vn vp) (.string s) (.slice a ks.length cap)
    rw [zs, ← hw1] at q
    exact q
  have G1 := E.keep _ _ hG B1
  have CN := hide (wrongNode_any E k v vk vy vc vx vt va vn vp s a ks.length cap w1 hs hl (Mem.below B1 hv) (Nat.le_trans hBw B1.size) G1)
  rw [show nodeF (litF (vW v) vk vc) (nB s) k (ks.length : Int) = nodeX nB vW k v s ks.length by unfold nodeX; rw [hvk, hvc]] at CN
  have HF : Hid (xwF nB vW (.mk k v s ks) n d = if 1000 < n + 1 ∨ 60 < d then (4, n + 1) else if nodeX nB vW k v s ks.length ≠ 0 then (nodeX nB vW k v s ks.length, n + 1) else xwL nB vW ks (n + 1) (d + 1)) := hide (by rw [xwF])
  generalize xwF nB vW (.mk k v s ks) n d = R at *
  generalize nodeX nB vW k v s ks.length = nx at *
  have s1 := hS.1
  have s2 := hS.2.1
  have hne : ¬ p = w.heap.size := by omega
  have hnI : (n : Int) ≤ 1000 := by omega
  have HS1 := hide S1
  have HX1 := hide X1
  have HB1 := hide B1
  have HK := hide hk
  have HI := hide IH
  have HGd := hide (fun wx hb => E.keep w wx hG hb)
  have HG1 := hide G1
  clear B1 S1 X1 G1 hv hvk hvc hk IH E hG hS zs
  go_enter Tryz.func137, Tryz.ntmps137
  go_upto_region 2 with fail
  rw [← hw1]
  clear hw1 s1 s2
  have m1 : w1.cell? ⟨p, 0, none⟩ = some (.int .i64 ((n : Int) + 1)) := by have := (unhide HS1).1; simpa using this
  by_cases h1 : 1000 < n + 1 ∨ 60 < d
  · rw [if_pos h1] at HF
    by_cases h2 : 1000 < n + 1
    · have h2' : (1000 : Int) < (n : Int) + 1 := by omega
      clear CN h1
      go_wp2
      go_ret
      exact ⟨by rw [unhide HF]; rfl, by rw [unhide HF]; exact unhide HS1, unhide HB1⟩
    · have h2' : ¬ (1000 : Int) < (n : Int) + 1 := by omega
      have h3' : (60 : Int) < (d : Int) := by omega
      clear CN h1
      go_wp2
      go_ret
      exact ⟨by rw [unhide HF]; rfl, by rw [unhide HF]; exact unhide HS1, unhide HB1⟩
  · rw [if_neg h1] at HF
    have h2' : ¬ (1000 : Int) < (n : Int) + 1 := by omega
    have h3' : ¬ (60 : Int) < (d : Int) := by omega
    obtain ⟨u0, u1, u2, u3, u4, u5, u6, u7, u8⟩ := (unhide HX1).tell
    go_wp2_with fail
    with_reducible refine (unhide CN).mono ?_
    rintro e w2 ⟨rfl, hb2⟩
    have HB2 := hide ((unhide HB1).trans (hb2.mono (by have := (unhide HB1).size; omega)))
    have HS2 := hide ((unhide HS1).below hb2 (unhide HS1).2.2)
    have c8 := ((unhide HX1).keep hb2 (unhide HX1).low).tell.2.2.2.2.2.2.2.2
    clear hb2 CN u0 u1 u2 u3 u4 u5 u6 u7 u8 HX1 HS1 HB1 m1 HG1
    by_cases hr : nx = 0
    · subst hr
      rw [if_neg (by simp)] at HF
      have hlen : ks.length ≤ 9223372036854775807 := hl
      go_wp2
      go_loopw [35] (fun i wr => ∃ m si : Nat, m ≤ ks.length ∧ i = .int .i64 (m : Int) ∧ Hid (R = xwL nB vW (ks.drop m) si (d + 1)) ∧ si ≤ 1000 ∧ Hid (St wr p si) ∧ Hid (Below B w wr)) (fun i _ => ks.length - (intOf i).toNat)
      case atStart => exact ⟨0, n + 1, Nat.zero_le _, rfl, HF, by omega, HS2, HB2⟩
      case round =>
        obtain ⟨m, si, hml, rfl, H, hsi, HS, HB⟩ := hrel
        clear HS2 HB2 c8 HF
        by_cases hlt2 : m < ks.length
        · have hi1 : (m : Int) < (ks.length : Int) := by omega
          obtain ⟨u, hu⟩ : ∃ u, ks[m]? = some u := ⟨_, List.getElem?_eq_getElem hlt2⟩
          obtain ⟨b, off, rfl, hlB, hml2⟩ := unhide HK (by intro e; subst e; simp at hlt2)
          obtain ⟨cs, h9, hmu⟩ := XMemL.at (XMemL.below (unhide HB) hlB hml2) m u hu
          obtain ⟨xk, yvk, yvy, yvc, yvx, yvt, yva, yvn, yvp, xs, xa, xn, xp, rfl⟩ := hmu.form
          obtain ⟨q0, q1, q2, q3, q4, q5, q6, q7, q8, hcs, c0, c1, c2, c3, c4, c5, c6, c7, c8⟩ := h9
          simp only [Array.mk.injEq, List.cons.injEq, and_true] at hcs
          obtain ⟨rfl, rfl, rfl, rfl, rfl, rfl, rfl, rfl, rfl⟩ := hcs
          rw [dropX hu] at H
          have hbB : B ≤ wr.heap.size := Nat.le_trans hBw (unhide HB).size
          have hba := (Below.refl B wr).alloc hbB (.cells #[.int .i64 xk, .int .i64 yvk, .bool yvy, .int .i64 yvc, .int .i64 yvx, .string yvt, .slice yva yvn yvp, .string xs, .slice xa xn xp] 86)
          have hbw := (unhide HB).trans hba
          have C := hide (unhide HI u (List.mem_of_getElem? hu) _ _ p si (d + 1) ((d : Int) + 1) (by omega) (XMem.below hba hmu) hp ((unhide HS).below ((Below.refl _ _).alloc (Nat.le_refl _) _) (unhide HS).2.2) hsi (by omega) (unhide HGd _ hbw))
          have hbd := hide (xwF_bd (nB := nB) (vW := vW) u si (d + 1) hsi)
          have HNO := hide (fun h => (unhide H).trans (xwL_no (us := ks.drop (m + 1)) h))
          have HYES := hide (fun h => (unhide H).trans (xwL_ok (us := ks.drop (m + 1)) h))
          generalize xwF nB vW u si (d + 1) = r at *
          obtain ⟨r1, r2⟩ := r
          simp only at C hbd HNO HYES
          have hzz : (d : Int) ≤ 61 := by omega
          have HBW := hide hbw
          clear hu hmu hml2 H hba hbw
          go_wp2_with fail
          with_reducible refine (unhide C).mono ?_
          rintro e w3 ⟨rfl, hS3, hb3⟩
          have HB3 := hide ((unhide HBW).trans hb3)
          have HS3 := hide hS3
          clear hS3 hb3 HB HS HBW C c0 c1 c2 c3 c4 c5 c6 c7 c8
          by_cases hr : r1 = 0
          · subst hr
            have E2 := hide (unhide HYES rfl)
            have hle := ((unhide hbd).2 rfl).1
            clear HNO HYES hbd
            go_wp2
            go_roundw
            case rel => exact ⟨m + 1, r2, by omega, by go_num, E2, hle, HS3, HB3⟩
            case measure => simp [intOf]; omega
          · have E2 := hide (unhide HNO hr)
            have hr' : (r1 != 0) = true := by simpa using hr
            clear HNO HYES hbd hr
            go_wp2
            go_ret
            exact ⟨by rw [unhide E2]; rfl, by rw [unhide E2]; exact unhide HS3, unhide HB3⟩
        · obtain rfl : m = ks.length := by omega
          have E2 : Hid (R = (0, si)) := hide ((unhide H).trans (by rw [List.drop_length, xwL]))
          clear H HK HI
          go_wp2
          go_ret
          exact ⟨by rw [unhide E2]; rfl, by rw [unhide E2]; exact unhide HS, unhide HB⟩
    · rw [if_pos hr] at HF
      have hr' : (nx != 0) = true := by simpa using hr
      clear hr
      go_wp2
      go_ret
      exact ⟨by rw [unhide HF]; rfl, by rw [unhide HF]; exact unhide HS2, unhide HB2⟩
mutual
theorem xw_all {B : Nat} {Gd : World → Prop} {nB : ByteArray → Bool} {vW : Tree → Int} (E : EnvX B Gd nB vW) : ∀ x : XT, XwC B Gd nB vW x
  | .mk k v s ks => xw_of E k v s ks (fun u h => xw_alls E ks u h)
theorem xw_alls {B : Nat} {Gd : World → Prop} {nB : ByteArray → Bool} {vW : Tree → Int} (E : EnvX B Gd nB vW) : ∀ (ks : List XT) (u : XT), u ∈ ks → XwC B Gd nB vW u
  | [], u, h => by cases h
  | v :: vs, u, h => by
    by_cases e : u = v
    · rw [e]; exact xw_all E v
    · exact xw_alls E vs u ((List.mem_cons.1 h).resolve_left e)
end

set_option maxHeartbeats 2000000 in
theorem synWrong_any {B : Nat} {Gd : World → Prop} {nB : ByteArray → Bool} {vW : Tree → Int} (E : EnvX B Gd nB vW) (x : XT) (cs : Array Value) (w : World) (hx : XMem B w x cs) (hB : B ≤ w.heap.size) (hG : Gd w) :
    Calls Tryz.prog 106 #[.agg cs] w fun e w' => e = .returned (.int .i64 (xwF nB vW x 0 1).1) ∧ Below B w w' := by
  obtain ⟨k, vk, vy, vc, vx, vt, va, vn, vp, s, a, n, cap, rfl⟩ := hx.form
  have hb : Below B w ((w.alloc (.cells #[.int .i64 k, .int .i64 vk, .bool vy, .int .i64 vc, .int .i64 vx, .string vt, .slice va vn vp, .string s, .slice a n cap] 86)).alloc (.cells #[.int .i64 0] 226)) := ((Below.refl B w).alloc hB _).alloc (by simp; omega) _
  have C := hide (xw_all E x _ _ (w.heap.size + 1) 0 1 1 rfl (XMem.below hb hx) (by omega) ⟨by simp [go_sem], by simp [go_sem], by simp⟩ (by omega) (by omega) (E.keep _ _ hG hb))
  have HB := hide hb
  clear hb hx E hG
  go_enter Tryz.func106, Tryz.ntmps106
  go_wp2_with fail
  with_reducible refine (unhide C).mono ?_
  rintro e w1 ⟨rfl, _, hb1⟩
  have HB1 := hide ((unhide HB).trans hb1)
  clear hb1 C HB
  go_wp2
  go_ret
  exact ⟨rfl, unhide HB1⟩
end Go.Proofs.YtnegjbkbfgkkjaaGreatDoor
