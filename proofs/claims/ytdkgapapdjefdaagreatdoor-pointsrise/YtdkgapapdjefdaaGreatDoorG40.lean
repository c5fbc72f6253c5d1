/- A region that draws its order, makes one new block and stores in it what is told, the store amid the others. -/
import Derived.Test.YtdkgapapdjefdaaGreatDoorG39
namespace Go.Proofs.YtdkgapapdjefdaaGreatDoor
open Go.RowKit

/-- what a slot holds: a value; the new block; anything -/
inductive Du where
  | lit (v : Value)
  | blk (h : Nat)
  | any
abbrev zU6 : Array Value := #[.int .i64 0, .bool false, .int .i64 0, .int .i64 0, .string ⟨#[]⟩, .slice none 0 0]
def Du.ok (w0 : World) (st : Bool) : Du → Value → World → Prop
  | .lit v, x, _ => x = v
  | .blk h, x, w => ∃ p, x = .pointer (some ⟨p, 0, none⟩) ∧ w0.heap.size ≤ p ∧ (st = true → Box w p (toldA h)) ∧ (st = false → Box w p zU6)
  | .any, _, _ => True
theorem Du.keep {w0 w w' : World} {st : Bool} (hb : Below w.heap.size w w') : ∀ (x : Du) {v : Value}, x.ok w0 st v w → x.ok w0 st v w'
  | .lit _, _, h => h
  | .blk _, _, ⟨p, e, l, B, C⟩ => ⟨p, e, l, fun q => (B q).keep hb (B q).low, fun q => (C q).keep hb (C q).low⟩
  | .any, _, _ => trivial

structure RU (w0 : World) (a0 : Act) (N : Nat) (D : List Nat) (gi : Nat) (l : List Du) (L : Nat → Bool) (a : Act) (w : World) : Prop where
  size : a.tmps.size = N
  defs : a.defers = []
  rest : ∀ j, (∀ i d, L i = true → D[i]? = some d → d ≠ j) → G a j = G a0 j
  got : ∀ i d, L i = true → i ≠ gi → D[i]? = some d → ((l[i]?).getD .any).ok w0 (L gi) (G a d) w
  old : Below w0.heap.size w0 w
section
variable {w0 w w' : World} {a0 a a' : Act} {N gi : Nat} {D : List Nat} {l : List Du} {L : Nat → Bool} {ops : Array Oper} {Q : Exit → Act → World → Prop} {i d : Nat} {o : Oper}
theorem RU.keep (h : RU w0 a0 N D gi l L a w) {s : Nat} (hs : s ∉ D) : G a s = G a0 s :=
  h.rest s (fun _ _ _ hd e => hs (e ▸ List.mem_of_getElem? hd))
theorem RU.start (h1 : a0.tmps.size = N) (h2 : a0.defers = []) (h3 : Below w0.heap.size w0 w) : RU w0 a0 N D gi l (fun _ => false) a0 w :=
  ⟨h1, h2, fun _ _ => rfl, fun _ _ h => (by cases h), h3⟩
theorem RU.step (h : RU w0 a0 N D gi l L a w) (nd : D.Nodup) (i : Nat) {d : Nat} {v : Value} (hi : D[i]? = some d) (ne : gi ≠ i) (U : Upd a d v a') (hd : a'.defers = a.defers) (hb : Below w.heap.size w w')
    (ok : ((l[i]?).getD .any).ok w0 (L gi) v w') : RU w0 a0 N D gi l (fun j => j == i || L j) a' w' := by
  have eg : (gi == i || L gi) = L gi := by simp [ne]
  refine ⟨U.size.trans h.size, hd.trans h.defs, fun j hj => ?_, fun j e hj ng he => ?_, h.old.trans (hb.mono h.old.size)⟩
  · have hne : j ≠ d := fun e => hj i d (by simp) hi e.symm
    rw [U.rest j hne]
    exact h.rest j (fun i' d' hi' hd' => hj i' d' (by simp [hi']) hd')
  · show ((l[j]?).getD .any).ok w0 (gi == i || L gi) (G a' e) w'
    rw [eg]
    by_cases e1 : j = i
    · subst e1
      rw [hi] at he
      cases he
      rw [U.got]
      exact ok
    · have hL : L j = true := by simpa [e1] using hj
      have hne : e ≠ d := fun q => e1 (nodupS_at nd hi (q ▸ he))
      rw [U.rest e hne]
      exact Du.keep hb _ (h.got j e hL ng he)
theorem RU.store (h : RU w0 a0 N D gi l L a w) (i0 : Nat) {d0 p g : Nat} (ng0 : i0 ≠ gi) (hi : D[i0]? = some d0) (hl : l[i0]? = some (.blk g)) (uq : ∀ j g', l[j]? = some (.blk g') → j = i0) (hp : G a d0 = .pointer (some ⟨p, 0, none⟩)) (l0 : L i0 = true) (B : Box w' p (toldA g)) (hb : Below w0.heap.size w w') :
    RU w0 a0 N D gi l (fun j => j == gi || L j) a w' := by
  have lp : w0.heap.size ≤ p := by
    have q := h.got i0 d0 l0 ng0 hi
    rw [hl] at q
    obtain ⟨p', e', lp', _⟩ := q
    rw [hp] at e'
    simp only [Value.pointer.injEq, Option.some.injEq, Addr.mk.injEq, and_true] at e'
    rw [e']
    exact lp'
  refine ⟨h.size, h.defs, fun j hj => h.rest j (fun i' d' hi' hd' => hj i' d' (by simp [hi']) hd'), fun j e hj ng he => ?_, h.old.trans hb⟩
  have hL : L j = true := by simpa [ng] using hj
  have q := h.got j e hL ng he
  show ((l[j]?).getD .any).ok w0 (gi == gi || L gi) (G a e) w'
  cases hx : l[j]? with
  | none => trivial
  | some x =>
    rw [hx] at q
    cases x with
    | lit v => exact q
    | any => trivial
    | blk g' =>
      have e1 := uq j g' hx
      subst e1
      rw [hl] at hx
      cases hx
      rw [hi] at he
      cases he
      exact ⟨p, hp, lp, fun _ => B, fun q => by simp at q⟩
theorem RU.block (h : RU w0 a0 N D gi l L a w) (i : Nat) {d g : Nat} (ng : i ≠ gi) (hi : D[i]? = some d) (hl : l[i]? = some (.blk g)) (li : L i = true) (ls : L gi = true) :
    ∃ p, G a d = .pointer (some ⟨p, 0, none⟩) ∧ w0.heap.size ≤ p ∧ Box w p (toldA g) := by
  have q := h.got i d li ng hi
  rw [hl] at q
  obtain ⟨p, ep, lp, B, _⟩ := q
  exact ⟨p, ep, lp, B ls⟩
theorem ru_val (h : RU w0 a0 N D gi l L a w) (nd : D.Nodup) (hi : ops[i]? = some o) (hd : o.dst = some d) (hDi : D[i]? = some d) (hN : d < N) (ne : gi ≠ i) (hw : Region.wanted o (yielded ops a.tmps) = true) {v : Value} (r : (execOp a.eval o).run Tryz.prog w = .ok (.value v) w) (hl : (l[i]?).getD .any = .lit v) :
    wpOp Tryz.prog ops Q i (fun a' w' => RU w0 a0 N D gi l (fun j => j == i || L j) a' w') a w :=
  o_val hi hd hw (by rw [h.size]; exact hN) r fun _ U hf => h.step nd i hDi ne U hf (Below.refl _ _) (by rw [hl]; exact rfl)
theorem ru_call (h : RU w0 a0 N D gi l L a w) (nd : D.Nodup) (hi : ops[i]? = some o) (hd : o.dst = some d) (hDi : D[i]? = some d) (hN : d < N) (ne : gi ≠ i) (hw : Region.wanted o (yielded ops a.tmps) = true) {n : Nat} {args : Array Value} (r : (execOp a.eval o).run Tryz.prog w = .ok (.enter n args) w)
    {x : Value} (hl : (l[i]?).getD .any = .lit x) (hc : Calls Tryz.prog n args w fun e w' => e = .returned x ∧ Below w.heap.size w w') :
    wpOp Tryz.prog ops Q i (fun a' w' => RU w0 a0 N D gi l (fun j => j == i || L j) a' w') a w :=
  o_enter (R := fun v w' => v = x ∧ Below w.heap.size w w') hi hd hw (by rw [h.size]; exact hN) r (hc.mono fun _ _ q => ⟨x, q.1, rfl, q.2⟩) fun _ _ _ hR U hf => h.step nd i hDi ne U hf hR.2 (by rw [hl]; exact hR.1)
theorem ru_new (h : RU w0 a0 N D gi l L a w) (nd : D.Nodup) (hi : ops[i]? = some o) (hd : o.dst = some d) (hDi : D[i]? = some d) (hN : d < N) (ne : gi ≠ i) (hw : Region.wanted o (yielded ops a.tmps) = true) {t : TypeId} {g : Nat}
    (r : (execOp a.eval o).run Tryz.prog w = .ok (.value (.pointer (some ⟨w.heap.size, 0, none⟩))) (w.alloc (.cells zU6 t))) (hl : l[i]? = some (.blk g)) (hs : L gi = false) :
    wpOp Tryz.prog ops Q i (fun a' w' => RU w0 a0 N D gi l (fun j => j == i || L j) a' w') a w :=
  o_val hi hd hw (by rw [h.size]; exact hN) r fun _ U hf => h.step nd i hDi ne U hf (vbelow_new _ _) (by
    rw [hl, hs]
    exact ⟨_, rfl, h.old.size, fun q => (by cases q), fun _ => Box.new⟩)
theorem ru_store {t : TypeId} {p : String} {af : Array Edge} (h : RU w0 a0 N D gi l L a w) (i0 : Nat) {s x g : Nat} (ng0 : i0 ≠ gi) (hL : L gi = false) (hi : D[i0]? = some s) (hl : l[i0]? = some (.blk g)) (uq : ∀ j g', l[j]? = some (.blk g') → j = i0) (l0 : L i0 = true)
    (hop : ops[gi]? = some ⟨none, .store 27 (.tmp s) (.tmp x), t, p, af, none⟩) (g1 : G a x = told g) :
    wpOp Tryz.prog ops Q gi (fun a' w' => RU w0 a0 N D gi l (fun j => j == gi || L j) a' w') a w := by
  have q := h.got i0 s l0 ng0 hi
  rw [hl] at q
  obtain ⟨b, ep, lp, _, C⟩ := q
  exact os_store hop ep g1 (C hL) (h.store i0 ng0 hi hl uq ep l0 ((C hL).put _ _ _ _ _ _) (below_put6 (Below.refl _ _) lp))
end
section
variable {a : Act} {w : World} {d : Option Nat} {t : TypeId} {p : String} {af : Array Edge} {g : Option (Nat × Bool)}
theorem run_newU : (execOp a.eval ⟨d, .alloc 27, t, p, af, g⟩).run Tryz.prog w = .ok (.value (.pointer (some ⟨w.heap.size, 0, none⟩))) (w.alloc (.cells zU6 27)) := by
  generalize a.eval = E
  simp [go_sem]
theorem run_extU0 {x : Operand} {u v : Value} (h : a.eval x = .tuple #[u, v]) : (execOp a.eval ⟨d, .extract x 0, t, p, af, g⟩).run Tryz.prog w = .ok (.value u) w := by
  generalize a.eval = E at h ⊢
  simp [go_sem, h]
theorem run_extU1 {x : Operand} {u v : Value} (h : a.eval x = .tuple #[u, v]) : (execOp a.eval ⟨d, .extract x 1, t, p, af, g⟩).run Tryz.prog w = .ok (.value v) w := by
  generalize a.eval = E at h ⊢
  simp [go_sem, h]
theorem run_ixU {x y : Operand} {b n c m : Nat} (h : a.eval x = .slice (some ⟨b, 0, none⟩) n c) (hm : a.eval y = .int .i64 (m : Int)) (l : m < n) : (execOp a.eval ⟨d, .indexAddr 25 x y, t, p, af, g⟩).run Tryz.prog w = .ok (.value (.pointer (some ⟨b, m * 6, none⟩))) w := by
  have := run_ixV (a := a) (w := w) (d := d) (t := t) (p := p) (af := af) (g := g) h hm l
  rwa [Nat.zero_add] at this
end
theorem callDoesU (zs : Array Value) (w : World) : Sem.run Tryz.prog (callFunc 9 zs) w = .ok (.enter 9 zs) w := by simp [go_sem]
end Go.Proofs.YtdkgapapdjefdaaGreatDoor

/- PointsStand: the law's walk. -/
namespace Go.Proofs.YtdkgapapdjefdaaGreatDoor
open Go.RowKit Go.Sort

/-- six cells in a block -/
structure B6 (w : World) (p : Nat) (v0 v1 v2 v3 v4 v5 : Value) : Prop where
  c0 : w.cell? ⟨p, 0, none⟩ = some v0
  c1 : w.cell? ⟨p, 1, none⟩ = some v1
  c2 : w.cell? ⟨p, 2, none⟩ = some v2
  c3 : w.cell? ⟨p, 3, none⟩ = some v3
  c4 : w.cell? ⟨p, 4, none⟩ = some v4
  c5 : w.cell? ⟨p, 5, none⟩ = some v5
theorem B6.low {w : World} {p : Nat} {v0 v1 v2 v3 v4 v5 : Value} (h : B6 w p v0 v1 v2 v3 v4 v5) : p < w.heap.size := lt_of_cell h.c0
theorem B6.keep {w w' : World} {p : Nat} {v0 v1 v2 v3 v4 v5 : Value} (h : B6 w p v0 v1 v2 v3 v4 v5) (hb : Below w.heap.size w w') : B6 w' p v0 v1 v2 v3 v4 v5 :=
  ⟨(hb.cell (p := ⟨p, 0, none⟩) h.low).trans h.c0, (hb.cell (p := ⟨p, 1, none⟩) h.low).trans h.c1, (hb.cell (p := ⟨p, 2, none⟩) h.low).trans h.c2, (hb.cell (p := ⟨p, 3, none⟩) h.low).trans h.c3, (hb.cell (p := ⟨p, 4, none⟩) h.low).trans h.c4, (hb.cell (p := ⟨p, 5, none⟩) h.low).trans h.c5⟩
theorem B6.new (w : World) (t : TypeId) (v0 v1 v2 v3 v4 v5 : Value) : B6 (w.alloc (.cells #[v0, v1, v2, v3, v4, v5] t)) w.heap.size v0 v1 v2 v3 v4 v5 :=
  ⟨by simp [go_sem], by simp [go_sem], by simp [go_sem], by simp [go_sem], by simp [go_sem], by simp [go_sem]⟩

/-- what is told of halves, in a block -/
def BTold (w : World) (p h : Nat) : Prop := B6 w p (.int .i64 (kd h)) (.bool (yd h)) (.int .i64 0) (.int .i64 0) (.string ⟨#[]⟩) (.slice none 0 0)

theorem leaf_mem {w : World} {g n : Nat} {ps : List Tree} {q : Tree} (hr : RowL w g ps) (hn : ps[n]? = some q) (hl : Leaf q) : ∃ k y c x t, q = .mk k y c x t [] ∧ Mem w.heap.size w q #[.int .i64 k, .bool y, .int .i64 c, .int .i64 x, .string t, .slice none 0 0] ∧ w.cell? ⟨g, n * 6, none⟩ = some (.int .i64 k) ∧ w.cell? ⟨g, n * 6 + 1, none⟩ = some (.bool y) ∧ w.cell? ⟨g, n * 6 + 2, none⟩ = some (.int .i64 c) ∧ w.cell? ⟨g, n * 6 + 3, none⟩ = some (.int .i64 x) ∧ w.cell? ⟨g, n * 6 + 4, none⟩ = some (.string t) ∧ w.cell? ⟨g, n * 6 + 5, none⟩ = some (.slice none 0 0) := by
  obtain ⟨k, y, c, x, t, rfl⟩ := hl.nil
  refine ⟨k, y, c, x, t, rfl, ?_, hr.at0 n _ 0 _ hn rfl, hr.at0 n _ 1 _ hn rfl, hr.at0 n _ 2 _ hn rfl, hr.at0 n _ 3 _ hn rfl, hr.at0 n _ 4 _ hn rfl, hr.at0 n _ 5 _ hn rfl⟩
  rw [Mem]
  have hz : t.size ≤ 1000 := hl.sz
  exact ⟨by omega, by simp, none, 0, rfl, fun q => absurd rfl q⟩

set_option maxRecDepth 100000 in
set_option maxHeartbeats 8000000 in
theorem stand_walk (kind : Int) (ts : List TS) (l : Value) (v : Tree) (qv : Array Value) (B : Nat) (w : World) (hB : B ≤ w.heap.size) (hl : SlT B w ts l) (hv : Mem B w v qv) (hT : TabsIn B w) :
    Calls Tryz.prog 3 #[.int .i64 kind, l, .agg qv] w fun e w' => e = .returned (.bool true) ∧ Below w.heap.size w w' := by
  have AL := hide (fun wx (hb : Below w.heap.size w wx) => alive9_any B wx (Nat.le_trans hB hb.size) (hT.below (hb.mono hB)))
  have PT := hide (fun wx (hb : Below w.heap.size w wx) => points_any kind ts l B wx (Nat.le_trans hB hb.size) (hl.below (hb.mono hB)) (hT.below (hb.mono hB)))
  have LK := hide (fun wx (hb : Below w.heap.size w wx) => like_any kind ts l v qv B wx (Nat.le_trans hB hb.size) (hl.below (hb.mono hB)) (Mem.below (hb.mono hB) hv) (hT.below (hb.mono hB)))
  have DV := hide (fun (T : TS) (q : Array Value) wx (hb : Below w.heap.size w wx) (hM : MemS B wx T q) (h0 : wrongS T 1 = 0) => tDoes_val T v q qv B wx (Nat.le_trans hB hb.size) hM (Mem.below (hb.mono hB) hv) (hT.below (hb.mono hB)) h0)
  have DQ := hide (fun (T : TS) (q : Array Value) (u : Tree) (uq : Array Value) wx (hb : Below w.heap.size w wx) (hM : MemS B wx T q) (hu : Mem wx.heap.size wx u uq) (h0 : wrongS T 1 = 0) => tDoes_val T u q uq wx.heap.size wx (Nat.le_refl _) (MemS.mono (Nat.le_trans hB hb.size) hM) hu (TabsIn.mono (hT.below (hb.mono hB)) (Nat.le_trans hB hb.size)) h0)
  obtain ⟨_, ad, cap, rfl, hm⟩ := hl
  have hm' := hide hm
  have hwf : (wrongF v 0 1).1 = 0 ∨ ¬ (wrongF v 0 1).1 = 0 := Decidable.em _
  obtain ⟨V, hV⟩ : ∃ V, V = v := ⟨_, rfl⟩
  obtain ⟨k, y, c, x, t, ks⟩ := v
  rw [Mem] at hv
  obtain ⟨_, _, a, vc, rfl, _⟩ := hv
  rw [← hV] at LK DV hwf
  have HV := hide hV
  clear hT hm hV
  go_enter Tryz.func3, Tryz.ntmps3
  go_wp2_with fail
  have hba := vbelow_new w (.cells #[.int .i64 k, .bool y, .int .i64 c, .int .i64 x, .string t, .slice a ks.length vc] 27)
  have X0 := B6.new w 27 (.int .i64 k) (.bool y) (.int .i64 c) (.int .i64 x) (.string t) (.slice a ks.length vc)
  refine (unhide AL _ hba).mono ?_
  rintro e w1 ⟨rfl, hb1⟩
  have HB1 := hide (bv hba hb1)
  have X1 := hide (X0.keep hb1)
  clear hba hb1 X0 AL
  go_wp2_with fail
  refine (unhide PT _ (unhide HB1)).mono ?_
  rintro e w2 ⟨u, er, ps, rfl, hp, ho, hb2⟩
  have HB2 := hide (bv (unhide HB1) hb2)
  have X2 := hide ((unhide X1).keep hb2)
  have HP := hide hp
  have HO := hide ho
  have her := isPoints_err hp
  clear hb2 X1 HB1 PT hp ho
  by_cases h0 : er = 0
  · have E0 := hide h0
    rw [h0]
    have x0 := (unhide X2).c0
    have x1 := (unhide X2).c1
    have x2 := (unhide X2).c2
    have x3 := (unhide X2).c3
    have x4 := (unhide X2).c4
    have x5 := (unhide X2).c5
    have hz2 := (unhide X2).low
    have PE : ptsErr kind ts = 0 := by rw [← her, h0]
    have LF : likeF kind ts V = if (wrongF V 0 1).1 = 0 then (if V.kd = kind then (likeI kind ts V, 0) else (0, 9)) else (0, (wrongF V 0 1).1) := by rw [likeF, if_pos PE]
    clear her h0 PE
    go_wp2_with fail
    refine (unhide LK _ (unhide HB2)).mono ?_
    rintro e w3 ⟨rfl, hb3⟩
    have HB3 := hide (bv (unhide HB2) hb3)
    have X3 := hide ((unhide X2).keep hb3)
    have HO3 := hide (own_keep9 (unhide HO) hb3)
    clear hb3 X2 HB2 LK x0 x1 x2 x3 x4 x5 HO hz2
    rw [LF]
    clear LF
    rcases hwf with hwf | hwf
    · rw [if_pos hwf]
      by_cases hkd : V.kd = kind
      · rw [if_pos hkd]
        obtain ⟨n, q, hn, hq, hlf, hst⟩ := stand_plain (unhide HP) (unhide E0) hwf hkd
        rw [hn]
        obtain ⟨g, pc, rfl, _, RL⟩ := rowL_of (unhide HO3) (by rintro rfl; simp at hq)
        have hnl : n < ps.length := (List.getElem?_eq_some_iff.1 hq).1
        have hnl' : (n : Int) < (ps.length : Int) := by omega
        have hask := (isPoints_ok (unhide HP) (unhide E0)).1
        have HA := hide (asked_right hask).2.2.2.1
        have RL' := hide RL
        have hq' := hide hq
        have hlf' := hide hlf
        have hst' := hide hst
        have hwf1 := hide hwf
        clear hask RL hq hlf hst hn hkd HP HO3 E0 hwf
        go_wp2
        have hge1 : decide (ps.length ≤ n) = false := by simp; omega
        have hge2 : decide ((n : Int) < 0) = false := by simp
        simp only [hge1, hge2, Bool.or_false]
        clear hge1 hge2
        go_loopw [45] (fun i wr => ∃ m : Nat, m ≤ ts.length ∧ i = .int .i64 (m : Int) ∧ Hid (Below w3.heap.size w3 wr)) (fun i _ => ts.length - (intOf i).toNat)
        case atStart => exact ⟨0, Nat.zero_le _, rfl, hide (Below.refl _ _)⟩
        case round =>
          obtain ⟨m, hml, rfl, HB⟩ := hrel
          have HBw := hide (bv (unhide HB3) (unhide HB))
          by_cases hlt2 : m < ts.length
          · have hi1 : (m : Int) < (ts.length : Int) := by omega
            obtain ⟨T, hT⟩ : ∃ u, ts[m]? = some u := ⟨_, List.getElem?_eq_getElem hlt2⟩
            obtain ⟨bl, off, rfl, hlt, hm⟩ := unhide hm' (by rintro rfl; simp at hlt2)
            have hTw := (unhide HA T (List.mem_of_getElem? hT)).1
            have hTs := unhide hst' T (List.mem_of_getElem? hT)
            obtain ⟨cs, h6, hmu⟩ := MemSL.at (MemSL.below ((unhide HBw).mono hB) hlt hm) m T hT
            have HMu := hide hmu
            have hwr : w.heap.size ≤ wr.heap.size := (unhide HBw).size
            have X := (unhide X3).keep (unhide HB)
            have x0 := X.c0
            have x1 := X.c1
            have x2 := X.c2
            have x3 := X.c3
            have x4 := X.c4
            have x5 := X.c5
            have hx := X.low
            obtain ⟨U, hU⟩ : ∃ U, U = T := ⟨_, rfl⟩
            rw [← hU] at HMu hTw hTs
            have DV1 := hide (fun q wx (hb : Below w.heap.size w wx) (hM : MemS B wx U q) => unhide DV U q wx hb hM hTw)
            rw [if_pos (unhide hwf1), unhide hwf1] at DV1
            have DQ1 := hide (fun qq uq wx (hb : Below w.heap.size w wx) (hM : MemS B wx U qq) (hu : Mem wx.heap.size wx q uq) => unhide DQ U qq q uq wx hb hM hu hTw)
            have hqk := (unhide hlf').ok
            rw [if_pos hqk, hqk, ← hTs] at DQ1
            obtain ⟨k9, y9, c9, x9, t9, hq9, hmq, e0, e1, e2, e3, e4, e5⟩ := leaf_mem ((unhide RL').keep (unhide HB)) (unhide hq') (unhide hlf')
            have HMq := hide hmq
            have hgl := ((unhide RL').keep (unhide HB)).low
            generalize doesS U V = h at *
            cases T with
            | mk k' ta tb oa' ob' kk =>
              rw [MemS] at hmu
              obtain ⟨_, d0, d1, d2, d3, d4, d5, e0', e1', e2', e3', e4', e5', ad', cp, hta, htb, rfl, _⟩ := hmu
              obtain ⟨y3, r3, z3, t3, l3, n3, p3, rfl, rfl, rfl, rfl, rfl, rfl⟩ := hta.six
              obtain ⟨y4, r4, z4, t4, l4, n4, p4, rfl, rfl, rfl, rfl, rfl, rfl⟩ := htb.six
              clear hta htb
              obtain ⟨c0, c1, c2, c3, c4, c5, c6, c7, c8, c9', c10, c11, c12, c13, c14, c15⟩ := h6.tell
              clear hT h6 hm hTw hTs hU hq9 hmq hqk
              go_wp2_with fail
              have hba := vbelow_new wr (.cells #[.int .i64 k', .int .i64 ta.kd, .bool y3, .int .i64 r3, .int .i64 z3, .string t3, .slice l3 n3 p3, .int .i64 tb.kd, .bool y4, .int .i64 r4, .int .i64 z4, .string t4, .slice l4 n4 p4, .bool oa', .bool ob', .slice ad' kk.length cp] 35)
              have B0 := B16.new (w := wr) (t := 35) (u := #[.int .i64 k', .int .i64 ta.kd, .bool y3, .int .i64 r3, .int .i64 z3, .string t3, .slice l3 n3 p3, .int .i64 tb.kd, .bool y4, .int .i64 r4, .int .i64 z4, .string t4, .slice l4 n4 p4, .bool oa', .bool ob', .slice ad' kk.length cp])
              refine (unhide DV1 _ _ (bv (unhide HBw) hba) (MemS.below (hba.mono (by omega)) (unhide HMu))).mono ?_
              rintro e w4 ⟨rfl, hb4⟩
              have b4 : Below wr.heap.size wr w4 := hba.trans (hb4.mono (by simp))
              have F4 := B0.keep hb4 (by simp)
              have HF := hide F4
              have g0 := (b4.cell (p := ⟨g, n * 6, none⟩) hgl).trans e0
              have g1 := (b4.cell (p := ⟨g, n * 6 + 1, none⟩) hgl).trans e1
              have g2 := (b4.cell (p := ⟨g, n * 6 + 2, none⟩) hgl).trans e2
              have g3 := (b4.cell (p := ⟨g, n * 6 + 3, none⟩) hgl).trans e3
              have g4 := (b4.cell (p := ⟨g, n * 6 + 4, none⟩) hgl).trans e4
              have g5 := (b4.cell (p := ⟨g, n * 6 + 5, none⟩) hgl).trans e5
              have lg4 : g < w4.heap.size := Nat.lt_of_lt_of_le hgl b4.size
              have hb4' := hide b4
              have HMu4 := hide (MemS.below (b4.mono (Nat.le_trans hB hwr)) (unhide HMu))
              have HMq4 := hide (Mem.mono b4.size (Mem.below b4 (unhide HMq)))
              have HBw4 := hide (bv (unhide HBw) b4)
              clear hba hb4 b4 B0 F4 c0 c1 c2 c3 c4 c5 c6 c7 c8 c9' c10 c11 c12 c13 c14 c15 e0 e1 e2 e3 e4 e5 x0 x1 x2 x3 x4 x5 hx X HMu HMq DV1 hgl
              go_wp2_with fail
              obtain ⟨Wb, hWb⟩ : ∃ Wb, Wb = w4.alloc (.cells #[.int .i64 (kd h), .bool (yd h), .int .i64 0, .int .i64 0, .string ⟨#[]⟩, .slice none 0 0] 27) := ⟨_, rfl⟩
              have bb : Below w4.heap.size w4 Wb := by rw [hWb]; exact vbelow_new _ _
              have BT12 : BTold Wb w4.heap.size h := by rw [hWb]; exact B6.new _ _ _ _ _ _ _ _
              have lb : w4.heap.size < Wb.heap.size := BT12.low
              have BTh := hide BT12
              have bw := fun (q : Addr) (hq : q.block < w4.heap.size) => bb.cell (p := q) hq
              have FB := hide ((unhide HF).keep bb (unhide HF).low)
              have g0 := (bw ⟨g, n * 6, none⟩ lg4).trans g0
              have g1 := (bw ⟨g, n * 6 + 1, none⟩ lg4).trans g1
              have g2 := (bw ⟨g, n * 6 + 2, none⟩ lg4).trans g2
              have g3 := (bw ⟨g, n * 6 + 3, none⟩ lg4).trans g3
              have g4 := (bw ⟨g, n * 6 + 4, none⟩ lg4).trans g4
              have g5 := (bw ⟨g, n * 6 + 5, none⟩ lg4).trans g5
              have lg' : g < Wb.heap.size := Nat.lt_of_lt_of_le lg4 bb.size
              have HBb := hide (bv (unhide HBw4) bb)
              have hzb : w.heap.size ≤ w4.heap.size := (unhide HBw4).size
              have DQ2 := hide (fun wx (hb : Below Wb.heap.size Wb wx) => unhide DQ1 _ _ wx (bv (unhide HBb) hb) (MemS.below ((bb.trans (hb.mono bb.size)).mono (Nat.le_trans hB hzb)) (unhide HMu4)) (Mem.mono (Nat.le_trans bb.size hb.size) (Mem.below (bb.trans (hb.mono bb.size)) (unhide HMq4))))
              have HW3 := hide (bv (bv (unhide HB) (unhide hb4')) bb)
              rw [← hWb]
              clear hWb bb BT12 bw lg4 DQ1 HMu4 HMq4 HF
              go_upto_region 15 with fail
              refine frame_name ?_
              intro f0 hf0
              have s11 : G f0 11 = .pointer (some ⟨wr.heap.size, 0, none⟩) := by rw [hf0]; rfl
              have s7 : G f0 7 = .slice (some ⟨g, 0, none⟩) ps.length pc := by rw [hf0]; rfl
              have s9 : G f0 9 = .int .i64 (n : Int) := by rw [hf0]; rfl
              have hsz : f0.tmps.size = 77 := by rw [hf0]; rfl
              have hdf : f0.defers = [] := by rw [hf0]
              have uq9 : ∀ j g', ([.lit (.agg #[.int .i64 k', .int .i64 ta.kd, .bool y3, .int .i64 r3, .int .i64 z3, .string t3, .slice l3 n3 p3, .int .i64 tb.kd, .bool y4, .int .i64 r4, .int .i64 z4, .string t4, .slice l4 n4 p4, .bool oa', .bool ob', .slice ad' kk.length cp]), .lit (.slice (some ⟨g, 0, none⟩) ps.length pc), .lit (.int .i64 (n : Int)), .lit (.pointer (some ⟨g, n * 6, none⟩)), .lit (.agg #[.int .i64 k9, .bool y9, .int .i64 c9, .int .i64 x9, .string t9, .slice none 0 0]), .lit (.tuple #[told h, .int .i64 0]), .lit (.tuple #[told h, .int .i64 0]), .lit (told h), .lit (.int .i64 0), .blk h, .any, .lit (.int .i64 0)] : List Du)[j]? = some (.blk g') → j = 9 := by
                intro j g' hj
                rcases j with _ | _ | _ | _ | _ | _ | _ | _ | _ | _ | _ | _ | j <;> simp at hj ⊢
              refine region_any (I := RU Wb f0 77 [56, 57, 58, 59, 60, 61, 55, 62, 63, 14, 76, 15] 10 [.lit (.agg #[.int .i64 k', .int .i64 ta.kd, .bool y3, .int .i64 r3, .int .i64 z3, .string t3, .slice l3 n3 p3, .int .i64 tb.kd, .bool y4, .int .i64 r4, .int .i64 z4, .string t4, .slice l4 n4 p4, .bool oa', .bool ob', .slice ad' kk.length cp]), .lit (.slice (some ⟨g, 0, none⟩) ps.length pc), .lit (.int .i64 (n : Int)), .lit (.pointer (some ⟨g, n * 6, none⟩)), .lit (.agg #[.int .i64 k9, .bool y9, .int .i64 c9, .int .i64 x9, .string t9, .slice none 0 0]), .lit (.tuple #[told h, .int .i64 0]), .lit (.tuple #[told h, .int .i64 0]), .lit (told h), .lit (.int .i64 0), .blk h, .any, .lit (.int .i64 0)]) (by kernel_rfl) ?wait ?step ?done ?start
              case wait => exact ⟨by first | (simp; done) | (simp; rfl), by first | (simp; done) | (simp; rfl), by first | (simp; done) | (simp; rfl), by first | (simp; done) | (simp; rfl), by first | (simp; done) | (simp; rfl), by first | (simp; done) | (simp; rfl), by first | (simp; done) | (simp; rfl), by first | (simp; done) | (simp; rfl), by first | (simp; done) | (simp; rfl), by first | (simp; done) | (simp; rfl), by first | (simp; done) | (simp; rfl), by first | (simp; done) | (simp; rfl), trivial⟩
              case start => exact RU.start hsz hdf ((Below.refl _ _).drew)
              case step =>
                refine ⟨?_, ?_, ?_, ?_, ?_, ?_, ?_, ?_, ?_, ?_, ?_, ?_, trivial⟩
                · rintro L fa wx h' hcl hL hw2
                  exact ru_val h' (by decide) rfl rfl rfl (by decide) (by decide) rfl (run_ldT (eval_G ((h'.keep (s := 11) (by decide)).trans s11)) ((unhide FB).keep h'.old (unhide FB).low)) rfl
                · rintro L fa wx h' hcl hL hw2
                  exact ru_val h' (by decide) rfl rfl rfl (by decide) (by decide) rfl (run_mv (eval_G ((h'.keep (s := 7) (by decide)).trans s7))) rfl
                · rintro L fa wx h' hcl hL hw2
                  exact ru_val h' (by decide) rfl rfl rfl (by decide) (by decide) rfl (run_mv (eval_G ((h'.keep (s := 9) (by decide)).trans s9))) rfl
                · rintro L fa wx h' hcl hL hw2
                  exact ru_val h' (by decide) rfl rfl rfl (by decide) (by decide) rfl (run_ixU (eval_G (show G fa 57 = .slice (some ⟨g, 0, none⟩) ps.length pc from h'.got 1 57 (hw2 ⟨1, .data⟩ (by simp) rfl) (by decide) rfl)) (eval_G (show G fa 58 = .int .i64 (n : Int) from h'.got 2 58 (hw2 ⟨2, .data⟩ (by simp) rfl) (by decide) rfl)) hnl) rfl
                · rintro L fa wx h' hcl hL hw2
                  exact ru_val h' (by decide) rfl rfl rfl (by decide) (by decide) rfl (run_ld6 (eval_G (show G fa 59 = .pointer (some ⟨g, n * 6, none⟩) from h'.got 3 59 (hw2 ⟨3, .data⟩ (by simp) rfl) (by decide) rfl)) ((h'.old.cell (p := ⟨g, n * 6, none⟩) lg').trans g0) ((h'.old.cell (p := ⟨g, n * 6 + 1, none⟩) lg').trans g1) ((h'.old.cell (p := ⟨g, n * 6 + 2, none⟩) lg').trans g2) ((h'.old.cell (p := ⟨g, n * 6 + 3, none⟩) lg').trans g3) ((h'.old.cell (p := ⟨g, n * 6 + 4, none⟩) lg').trans g4) ((h'.old.cell (p := ⟨g, n * 6 + 5, none⟩) lg').trans g5)) rfl
                · rintro L fa wx h' hcl hL hw2
                  exact ru_call h' (by decide) rfl rfl rfl (by decide) (by decide) rfl (run_call2 (eval_G (show G fa 56 = .agg #[.int .i64 k', .int .i64 ta.kd, .bool y3, .int .i64 r3, .int .i64 z3, .string t3, .slice l3 n3 p3, .int .i64 tb.kd, .bool y4, .int .i64 r4, .int .i64 z4, .string t4, .slice l4 n4 p4, .bool oa', .bool ob', .slice ad' kk.length cp] from h'.got 0 56 (hw2 ⟨0, .data⟩ (by simp) rfl) (by decide) rfl)) (eval_G (show G fa 60 = .agg #[.int .i64 k9, .bool y9, .int .i64 c9, .int .i64 x9, .string t9, .slice none 0 0] from h'.got 4 60 (hw2 ⟨4, .data⟩ (by simp) rfl) (by decide) rfl)) callDoesU) rfl (unhide DQ2 _ h'.old)
                · rintro L fa wx h' hcl hL hw2
                  exact ru_val h' (by decide) rfl rfl rfl (by decide) (by decide) rfl (run_mv (eval_G (show G fa 61 = .tuple #[told h, .int .i64 0] from h'.got 5 61 (hw2 ⟨5, .data⟩ (by simp) rfl) (by decide) rfl))) rfl
                · rintro L fa wx h' hcl hL hw2
                  exact ru_val h' (by decide) rfl rfl rfl (by decide) (by decide) rfl (run_extU0 (eval_G (show G fa 55 = .tuple #[told h, .int .i64 0] from h'.got 6 55 (hw2 ⟨6, .data⟩ (by simp) rfl) (by decide) rfl))) rfl
                · rintro L fa wx h' hcl hL hw2
                  exact ru_val h' (by decide) rfl rfl rfl (by decide) (by decide) rfl (run_extU1 (eval_G (show G fa 55 = .tuple #[told h, .int .i64 0] from h'.got 6 55 (hw2 ⟨6, .data⟩ (by simp) rfl) (by decide) rfl))) rfl
                · rintro L fa wx h' hcl hL hw2
                  have ns : L 10 = false := by
                    cases e : L 10 with
                    | false => rfl
                    | true =>
                      have q := hcl 10 _ rfl e ⟨9, .data⟩ (by simp) rfl
                      simp only [] at q
                      rw [hL] at q
                      cases q
                  exact ru_new h' (by decide) rfl rfl rfl (by decide) (by decide) rfl run_newU rfl ns
                · rintro L fa wx h' hcl hL hw2
                  exact ru_store h' 9 (by decide) hL rfl rfl uq9 (hw2 ⟨9, .data⟩ (by simp) rfl) rfl (show G fa 62 = told h from h'.got 7 62 (hw2 ⟨7, .data⟩ (by simp) rfl) (by decide) rfl)
                · rintro L fa wx h' hcl hL hw2
                  exact ru_val h' (by decide) rfl rfl rfl (by decide) (by decide) rfl (run_asg (eval_G (show G fa 63 = .int .i64 0 from h'.got 8 63 (hw2 ⟨8, .data⟩ (by simp) rfl) (by decide) rfl))) rfl
              case done =>
                rintro L f1 wd h' hall
                obtain ⟨p14, e14, _, B14⟩ := h'.block 9 (by decide) rfl rfl (hall 9 (by simp)) (hall 10 (by simp))
                have e15 : G f1 15 = .int .i64 0 := h'.got 11 15 (hall 11 (by simp)) (by decide) rfl
                have HBc := hide h'.old
                have e := puts_is [56, 57, 58, 59, 60, 61, 55, 62, 63, 14, 76, 15] f0 (h'.size.trans hsz.symm) (h'.defs.trans hdf.symm) (by rw [hsz]; decide) (fun i hi => h'.keep hi)
                rw [hf0] at e
                simp only [List.foldl_cons, List.foldl_nil] at e
                rw [e14, e15] at e
                generalize G f1 56 = q56 at e
                generalize G f1 57 = q57 at e
                generalize G f1 58 = q58 at e
                generalize G f1 59 = q59 at e
                generalize G f1 60 = q60 at e
                generalize G f1 61 = q61 at e
                generalize G f1 55 = q55 at e
                generalize G f1 62 = q62 at e
                generalize G f1 63 = q63 at e
                generalize G f1 76 = q76 at e
                clear h' hall hsz hdf s11 s7 s9 hf0 f0 e14 e15 uq9 DQ2 FB g0 g1 g2 g3 g4 g5
                subst e
                have T12 := (unhide BTh).keep (unhide HBc)
                have T14 := B14
                have s0 := T12.c0
                have s1 := T12.c1
                have s2 := T12.c2
                have s3 := T12.c3
                have s4 := T12.c4
                have s5 := T12.c5
                obtain ⟨r0, r1, r2, r3, r4, r5⟩ := T14.tell
                have ls := T12.low
                have lr := T14.low
                have SM := hide (fun wx => same_told h wx)
                clear T12 T14 B14 BTh
                go_wp2_with fail
                refine (unhide SM _).mono ?_
                rintro e w6 ⟨rfl, hb6⟩
                have HB6 := hide (bv (bv (unhide HW3) (unhide HBc)) hb6)
                clear s0 s1 s2 s3 s4 s5 r0 r1 r2 r3 r4 r5 ls lr hb6 SM
                go_wp2
                go_round
                case rel => exact ⟨m + 1, by omega, by go_num, HB6⟩
                case measure => simp [intOf]; omega
          · obtain rfl : m = ts.length := by omega
            go_wp2
            go_ret
            exact ⟨rfl, unhide HBw⟩
      · rw [if_neg hkd]
        go_wp2
        go_ret
        exact ⟨rfl, unhide HB3⟩
    · have hwf' : ((wrongF V 0 1).1 != 0) = true := by simp [hwf]
      rw [if_neg hwf]
      clear hwf
      go_wp2
      go_ret
      exact ⟨rfl, unhide HB3⟩
  · have h0' : (er != 0) = true := by simp [h0]
    clear h0 her
    go_wp2
    go_ret
    exact ⟨rfl, unhide HB2⟩
end Go.Proofs.YtdkgapapdjefdaaGreatDoor
