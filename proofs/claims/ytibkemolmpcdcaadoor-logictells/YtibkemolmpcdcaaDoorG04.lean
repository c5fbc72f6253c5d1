/- A region that draws its order and whose last call writes: by a list that says what each slot holds. -/
import Derived.Test.YtibkemolmpcdcaaDoorG03
namespace Go.Proofs.YtibkemolmpcdcaaDoor
open Go.RowKit

def Ds.isLit : Ds → Value → Prop
  | .lit v, x => x = v
  | .mem _ _, _ => True
  | .any, _ => True
def OkX (g : Bool) (l : List Ds) (i : Nat) (v : Value) (w : World) : Prop := if g = true then ((l[i]?).getD .any).isLit v else OkL l i v w
theorem okx_lit {g : Bool} {l : List Ds} {i : Nat} {v u : Value} {w : World} (h : OkX g l i v w) (hl : (l[i]?).getD .any = .lit u) : v = u := by
  unfold OkX at h
  split at h
  · rw [hl] at h; exact h
  · unfold OkL at h
    rw [hl] at h; exact h
theorem okx_mem {g : Bool} {l : List Ds} {i : Nat} {v : Value} {w : World} (h : OkX g l i v w) (hg : g = false) : OkL l i v w := by
  unfold OkX at h
  rw [hg] at h
  exact h
theorem okx_of {g : Bool} {l : List Ds} {i : Nat} {u : Value} {w : World} (hl : (l[i]?).getD .any = .lit u) : OkX g l i u w := by
  unfold OkX
  split
  · rw [hl]; exact rfl
  · unfold OkL
    rw [hl]; exact rfl

structure RO (w0 : World) (a0 : Act) (N : Nat) (D : List Nat) (gi : Nat) (Fin : World → Prop) (l : List Ds) (L : Nat → Bool) (a : Act) (w : World) : Prop where
  size : a.tmps.size = N
  defs : a.defers = []
  rest : ∀ j, (∀ i d, L i = true → D[i]? = some d → d ≠ j) → G a j = G a0 j
  got : ∀ i d, L i = true → D[i]? = some d → OkX (L gi) l i (G a d) w
  old : L gi = false → Below w0.heap.size w0 w
  fin : L gi = true → Fin w
section
variable {w0 w w' : World} {a0 a a' : Act} {N gi : Nat} {D : List Nat} {Fin : World → Prop} {l : List Ds} {L : Nat → Bool} {ops : Array Oper} {Q : Exit → Act → World → Prop} {i d : Nat} {o : Oper}
theorem RO.keep (h : RO w0 a0 N D gi Fin l L a w) {s : Nat} (hs : s ∉ D) : G a s = G a0 s :=
  h.rest s (fun _ _ _ hd e => hs (e ▸ List.mem_of_getElem? hd))
theorem RO.start (h1 : a0.tmps.size = N) (h2 : a0.defers = []) (h3 : Below w0.heap.size w0 w) : RO w0 a0 N D gi Fin l (fun _ => false) a0 w :=
  ⟨h1, h2, fun _ _ => rfl, fun _ _ h => (by cases h), fun _ => h3, fun h => (by cases h)⟩
theorem nodup_at (nd : D.Nodup) {j : Nat} (hi : D[i]? = some d) (hj : D[j]? = some d) : j = i := by
  obtain ⟨l1, e1⟩ := List.getElem?_eq_some_iff.1 hi
  obtain ⟨l2, e2⟩ := List.getElem?_eq_some_iff.1 hj
  exact (List.getElem_inj nd).1 (e2.trans e1.symm)
theorem RO.step (h : RO w0 a0 N D gi Fin l L a w) (nd : D.Nodup) (i : Nat) {d : Nat} {v : Value} (hi : D[i]? = some d) (ne : gi ≠ i) (U : Upd a d v a') (hd : a'.defers = a.defers) (hw : w' = w ∨ (L gi = false ∧ Below w.heap.size w w')) (ok : OkX (L gi) l i v w') :
    RO w0 a0 N D gi Fin l (fun j => j == i || L j) a' w' := by
  have eg : (gi == i || L gi) = L gi := by simp [ne]
  refine ⟨U.size.trans h.size, hd.trans h.defs, fun j hj => ?_, fun j e hj he => ?_, fun hg => ?_, fun hg => ?_⟩
  · have hne : j ≠ d := fun e => hj i d (by simp) hi e.symm
    rw [U.rest j hne]
    exact h.rest j (fun i' d' hi' hd' => hj i' d' (by simp [hi']) hd')
  · show OkX (gi == i || L gi) l j (G a' e) w'
    rw [eg]
    by_cases e1 : j = i
    · subst e1
      rw [hi] at he
      cases he
      rw [U.got]
      exact ok
    · have hL : L j = true := by simpa [e1] using hj
      have hne : e ≠ d := fun q => e1 (nodup_at nd hi (q ▸ he))
      rw [U.rest e hne]
      have g := h.got j e hL he
      rcases hw with rfl | ⟨hg, hb⟩
      · exact g
      · unfold OkX at *
        rw [hg] at g ⊢
        exact OkL.mono l j _ _ _ hb g
  · have hg' : L gi = false := by rw [← eg]; exact hg
    rcases hw with rfl | ⟨_, hb⟩
    · exact h.old hg'
    · exact (h.old hg').trans (hb.mono (h.old hg').size)
  · have hg' : L gi = true := by rw [← eg]; exact hg
    rcases hw with rfl | ⟨hq, _⟩
    · exact h.fin hg'
    · rw [hg'] at hq; cases hq
theorem RO.last (h : RO w0 a0 N D gi Fin l L a w) (nd : D.Nodup) {d : Nat} {v : Value} (hi : D[gi]? = some d) (hg : L gi = false) (U : Upd a d v a') (hd : a'.defers = a.defers) (ok : ((l[gi]?).getD .any).isLit v) (fin : Fin w') :
    RO w0 a0 N D gi Fin l (fun j => j == gi || L j) a' w' := by
  have eg : (gi == gi || L gi) = true := by simp
  refine ⟨U.size.trans h.size, hd.trans h.defs, fun j hj => ?_, fun j e hj he => ?_, fun hq => ?_, fun _ => fin⟩
  · have hne : j ≠ d := fun e => hj gi d (by simp) hi e.symm
    rw [U.rest j hne]
    exact h.rest j (fun i' d' hi' hd' => hj i' d' (by simp [hi']) hd')
  · show OkX (gi == gi || L gi) l j (G a' e) w'
    rw [eg]
    unfold OkX
    rw [if_pos rfl]
    by_cases e1 : j = gi
    · subst e1
      rw [hi] at he
      cases he
      rw [U.got]
      exact ok
    · have hL : L j = true := by simpa [e1] using hj
      have hne : e ≠ d := fun q => e1 (nodup_at nd hi (q ▸ he))
      rw [U.rest e hne]
      have g := okx_mem (h.got j e hL he) hg
      unfold OkL at g
      generalize (l[j]?).getD .any = x at g ⊢
      cases x with
      | lit u => exact g
      | mem P k => trivial
      | any => trivial
  · simp at hq
theorem ro_val (h : RO w0 a0 N D gi Fin l L a w) (nd : D.Nodup) (hi : ops[i]? = some o) (hd : o.dst = some d) (hDi : D[i]? = some d) (hN : d < N) (ne : gi ≠ i) (hw : Region.wanted o (yielded ops a.tmps) = true) {v : Value} (r : (execOp a.eval o).run Tryd.prog w = .ok (.value v) w) (hl : (l[i]?).getD .any = .lit v) :
    wpOp Tryd.prog ops Q i (fun a' w' => RO w0 a0 N D gi Fin l (fun j => j == i || L j) a' w') a w :=
  o_val hi hd hw (by rw [h.size]; exact hN) r fun _ U hf => h.step nd i hDi ne U hf (.inl rfl) (okx_of hl)
theorem ro_call (h : RO w0 a0 N D gi Fin l L a w) (nd : D.Nodup) (hi : ops[i]? = some o) (hd : o.dst = some d) (hDi : D[i]? = some d) (hN : d < N) (ne : gi ≠ i) (hg : L gi = false) (hw : Region.wanted o (yielded ops a.tmps) = true) {n : Nat} {args : Array Value} (r : (execOp a.eval o).run Tryd.prog w = .ok (.enter n args) w)
    {R : Value → World → Prop} (hc : Calls Tryd.prog n args w fun e w' => ∃ v, e = .returned v ∧ R v w' ∧ Below w.heap.size w w') (ok : ∀ v w', R v w' → OkL l i v w') :
    wpOp Tryd.prog ops Q i (fun a' w' => RO w0 a0 N D gi Fin l (fun j => j == i || L j) a' w') a w :=
  o_enter (R := fun v w' => R v w' ∧ Below w.heap.size w w') hi hd hw (by rw [h.size]; exact hN) r hc fun v _ w' hR U hf => h.step nd i hDi ne U hf (.inr ⟨hg, hR.2⟩) (by unfold OkX; rw [hg]; exact ok v w' hR.1)
theorem ro_last (h : RO w0 a0 N D gi Fin l L a w) (nd : D.Nodup) (hi : ops[gi]? = some o) (hd : o.dst = some d) (hDi : D[gi]? = some d) (hN : d < N) (hg : L gi = false) (hw : Region.wanted o (yielded ops a.tmps) = true) {n : Nat} {args : Array Value} (r : (execOp a.eval o).run Tryd.prog w = .ok (.enter n args) w)
    {R : Value → World → Prop} (hc : Calls Tryd.prog n args w fun e w' => ∃ v, e = .returned v ∧ R v w') (ok : ∀ v w', R v w' → ((l[gi]?).getD .any).isLit v ∧ Fin w') :
    wpOp Tryd.prog ops Q gi (fun a' w' => RO w0 a0 N D gi Fin l (fun j => j == gi || L j) a' w') a w :=
  o_enter (R := R) hi hd hw (by rw [h.size]; exact hN) r hc fun v _ w' hR U hf => h.last nd hDi hg U hf (ok v w' hR).1 (ok v w' hR).2
end

section
variable {a : Act} {w : World} {d : Option Nat} {t : TypeId} {p : String} {af : Array Edge} {g : Option (Nat × Bool)}
theorem run_nil {x : Operand} {ad : Addr} (h : a.eval x = .pointer (some ad)) : (execOp a.eval ⟨d, .nilCheck x, t, p, af, g⟩).run Tryd.prog w = .ok (.value (.pointer (some ad))) w := by
  generalize a.eval = E at h ⊢
  simp [go_sem, h]
theorem run_fld0 {x : Operand} {b o : Nat} (h : a.eval x = .pointer (some ⟨b, o, none⟩)) : (execOp a.eval ⟨d, .fieldAddr 71 x 0, t, p, af, g⟩).run Tryd.prog w = .ok (.value (.pointer (some ⟨b, o, none⟩))) w := by
  generalize a.eval = E at h ⊢
  simp [go_sem, h]
theorem run_fld1 {x : Operand} {b o : Nat} (h : a.eval x = .pointer (some ⟨b, o, none⟩)) : (execOp a.eval ⟨d, .fieldAddr 71 x 1, t, p, af, g⟩).run Tryd.prog w = .ok (.value (.pointer (some ⟨b, o + 1, none⟩))) w := by
  generalize a.eval = E at h ⊢
  simp [go_sem, h]
theorem run_ldB {x : Operand} {ad : Addr} {v : Bool} (h : a.eval x = .pointer (some ad)) (hc : w.cell? ad = some (.bool v)) : (execOp a.eval ⟨d, .load 4 x, t, p, af, g⟩).run Tryd.prog w = .ok (.value (.bool v)) w := by
  generalize a.eval = E at h ⊢
  simp [go_sem, h, hc]
theorem run_ldW {x : Operand} {ad : Addr} {s : Option Addr} {n c : Nat} (h : a.eval x = .pointer (some ad)) (hc : w.cell? ad = some (.slice s n c)) : (execOp a.eval ⟨d, .load 69 x, t, p, af, g⟩).run Tryd.prog w = .ok (.value (.slice s n c)) w := by
  generalize a.eval = E at h ⊢
  simp [go_sem, h, hc]
theorem run_neB {x y : Operand} {u v : Bool} (hx : a.eval x = .bool u) (hy : a.eval y = .bool v) : (execOp a.eval ⟨d, .binOp .neq 4 x y 4, t, p, af, g⟩).run Tryd.prog w = .ok (.value (.bool (u != v))) w := by
  generalize a.eval = E at hx hy ⊢
  simp [go_sem, hx, hy]
  cases u <;> cases v <;> rfl
theorem run_call3 {n : Nat} {x y z : Operand} {vx vy vz : Value} {ts : Array TypeId} (hx : a.eval x = vx) (hy : a.eval y = vy) (hz : a.eval z = vz) (hf : ∀ (zs : Array Value) (w : World), Sem.run Tryd.prog (callFunc n zs) w = .ok (.enter n zs) w) :
    (execOp a.eval ⟨d, .call { callee := .value (.func n), args := #[x, y, z], argTypes := ts }, t, p, af, g⟩).run Tryd.prog w = .ok (.enter n #[vx, vy, vz]) w := by
  have e1 : a.eval (.func n) = .func (.func n) #[] #[] := rfl
  generalize a.eval = E at hx hy hz e1 ⊢
  simp [go_sem, hx, hy, hz, e1, hf]
end
theorem callMul (zs : Array Value) (w : World) : Sem.run Tryd.prog (callFunc 62 zs) w = .ok (.enter 62 zs) w := by simp [go_sem]
theorem callGive (zs : Array Value) (w : World) : Sem.run Tryd.prog (callFunc 61 zs) w = .ok (.enter 61 zs) w := by simp [go_sem]
end Go.Proofs.YtibkemolmpcdcaaDoor

/- Walks: SetInt64, NewInt, Mul. -/
namespace Go.Proofs.YtibkemolmpcdcaaDoor
open Go.RowKit

set_option maxHeartbeats 1000000 in
theorem setInt64_any (b o : Nat) (x : Int) (w : World) (hz : ZA w b o) (h1 : -9223372036854775808 ≤ x) (h2 : x ≤ 9223372036854775807) :
    Calls Tryd.prog 59 #[.pointer (some ⟨b, o, none⟩), .int .i64 x] w fun e w' => e = .returned (.pointer (some ⟨b, o, none⟩)) ∧ IA w' b o x ∧ Out b o w w' := by
  have WW := hide (words_any x.natAbs (by omega) w)
  have GG := hide (fun (wx : World) (v : Value) (hb : Below w.heap.size w wx) (hv : WS wx v (Bg.wd x.natAbs)) => give_any b o (decide (x < 0)) x.natAbs v wx (hz.below hb) hv)
  have HX : Hid ((if decide (x < 0) = true then -(x.natAbs : Int) else (x.natAbs : Int)) = x) := hide (by
    split
    · rename_i h; simp at h; omega
    · rename_i h; simp at h; omega)
  obtain ⟨n, hn⟩ : ∃ n, n = x.natAbs := ⟨_, rfl⟩
  rw [← hn] at WW GG HX
  have HN := hide hn
  go_enter Tryd.func59, Tryd.ntmps59
  by_cases hx : x < 0
  · have e1 : IntKind.u64.wrap x = ((18446744073709551616 - n : Nat) : Int) := by rw [IntKind.wrap_u64]; omega
    have e2 : IntKind.u64.wrap (-((18446744073709551616 - n : Nat) : Int)) = (n : Int) := by rw [IntKind.wrap_u64]; omega
    rw [decide_eq_true hx] at GG HX
    clear hn
    go_wp2_with fail
    refine (unhide WW).mono ?_
    rintro e w1 ⟨v1, rfl, hv1, hb1⟩
    have GC := hide (unhide GG w1 v1 hb1 hv1)
    have HB1 := hide hb1
    clear hv1 hb1 GG WW
    go_wp2_with fail
    refine (unhide GC).mono ?_
    rintro e w2 ⟨rfl, hi2, ho2⟩
    have HI := hide hi2
    have HO := hide ho2
    clear hi2 ho2
    go_wp2
    go_ret
    refine ⟨rfl, ?_, (Out.of (unhide HB1)).trans (unhide HO)⟩
    have := unhide HI
    rw [unhide HX] at this
    exact this
  · have e1 : IntKind.u64.wrap x = (n : Int) := by rw [IntKind.wrap_u64]; omega
    rw [decide_eq_false hx] at GG HX
    clear hn
    go_wp2_with fail
    refine (unhide WW).mono ?_
    rintro e w1 ⟨v1, rfl, hv1, hb1⟩
    have GC := hide (unhide GG w1 v1 hb1 hv1)
    have HB1 := hide hb1
    clear hv1 hb1 GG WW
    go_wp2_with fail
    refine (unhide GC).mono ?_
    rintro e w2 ⟨rfl, hi2, ho2⟩
    have HI := hide hi2
    have HO := hide ho2
    clear hi2 ho2
    go_wp2
    go_ret
    refine ⟨rfl, ?_, (Out.of (unhide HB1)).trans (unhide HO)⟩
    have := unhide HI
    rw [unhide HX] at this
    exact this

theorem IA.drew {w : World} {b o : Nat} {z : Int} (h : IA w b o z) : IA w.drew b o z := h.below (Below.refl _ _).drew
theorem Out.drew {w w' : World} {b o : Nat} (h : Out b o w w') : Out b o w w'.drew := h.trans (Out.of (Below.refl _ _).drew)
theorem mul_sign (x y : Int) : (if (decide (x < 0) != decide (y < 0)) = true then -((x.natAbs * y.natAbs : Nat) : Int) else ((x.natAbs * y.natAbs : Nat) : Int)) = x * y := by
  rw [Int.natCast_mul]
  rcases Int.lt_or_le x 0 with hx | hx <;> rcases Int.lt_or_le y 0 with hy | hy
  · rw [decide_eq_true hx, decide_eq_true hy, if_neg (by decide), Int.ofNat_natAbs_of_nonpos (by omega), Int.ofNat_natAbs_of_nonpos (by omega), Int.neg_mul_neg]
  · rw [decide_eq_true hx, decide_eq_false (by omega), if_pos (by decide), Int.ofNat_natAbs_of_nonpos (by omega), Int.natAbs_of_nonneg hy, Int.neg_mul, Int.neg_neg]
  · rw [decide_eq_false (by omega), decide_eq_true hy, if_pos (by decide), Int.natAbs_of_nonneg hx, Int.ofNat_natAbs_of_nonpos (by omega), Int.mul_neg, Int.neg_neg]
  · rw [decide_eq_false (by omega), decide_eq_false (by omega), if_neg (by decide), Int.natAbs_of_nonneg hx, Int.natAbs_of_nonneg hy]

set_option maxHeartbeats 1000000 in
theorem newInt_any (x : Int) (w : World) (h1 : -9223372036854775808 ≤ x) (h2 : x ≤ 9223372036854775807) :
    Calls Tryd.prog 49 #[.int .i64 x] w fun e w' => e = .returned (.pointer (some ⟨w.heap.size, 0, none⟩)) ∧ IA w' w.heap.size 0 x ∧ Below w.heap.size w w' := by
  have hz : ZA (w.alloc (.cells #[.bool false, .slice none 0 0] 71)) w.heap.size 0 := ⟨#[.bool false, .slice none 0 0], 71, by show (w.heap.push _)[w.heap.size]? = _; simp, by decide, by simp⟩
  have SI := hide (setInt64_any w.heap.size 0 x _ hz h1 h2)
  clear hz
  go_enter Tryd.func49, Tryd.ntmps49
  go_wp2_with fail
  refine (unhide SI).mono ?_
  rintro e w2 ⟨rfl, hi2, ho2⟩
  have HI := hide hi2
  have HO := hide ho2
  clear hi2 ho2
  go_wp2
  go_ret
  exact ⟨rfl, unhide HI, (below_new _ _).trans ((unhide HO).below (Nat.le_refl _) (by simp))⟩
end Go.Proofs.YtibkemolmpcdcaaDoor

/- Walks: Mul of whole numbers. -/
namespace Go.Proofs.YtibkemolmpcdcaaDoor
open Go.RowKit

def dws (n : Nat) : Ds := .mem (fun v w => WS w v (Bg.wd n)) (fun _ _ _ hb h => h.below hb)
theorem frame27 {a : Act} (hs : a.tmps.size = 27) (hd : a.defers = []) : a = { tmps := #[G a 0, G a 1, G a 2, G a 3, G a 4, G a 5, G a 6, G a 7, G a 8, G a 9, G a 10, G a 11, G a 12, G a 13, G a 14, G a 15, G a 16, G a 17, G a 18, G a 19, G a 20, G a 21, G a 22, G a 23, G a 24, G a 25, G a 26], defers := [] } := frame_is hs hd

set_option maxRecDepth 100000 in
set_option maxHeartbeats 4000000 in
theorem imul_any (b o bx ox b2 oy : Nat) (x y : Int) (w : World) (hz : ZA w b o) (hx : IA w bx ox x) (hy : IA w b2 oy y) (lx : (Bg.wd x.natAbs).length ≤ 100000) (ly : (Bg.wd y.natAbs).length ≤ 100000) :
    Calls Tryd.prog 53 #[.pointer (some ⟨b, o, none⟩), .pointer (some ⟨bx, ox, none⟩), .pointer (some ⟨b2, oy, none⟩)] w fun e w' => e = .returned (.pointer (some ⟨b, o, none⟩)) ∧ IA w' b o (x * y) ∧ Out b o w w' := by
  obtain ⟨vx, x1, x2⟩ := hx.abs
  obtain ⟨vy, y1, y2⟩ := hy.abs
  obtain ⟨px, cx, rfl, -⟩ := id x2
  obtain ⟨py, cy, rfl, -⟩ := id y2
  have x0 := hx.neg
  have y0 := hy.neg
  have bx0 := hx.place.low
  have by0 := hy.place.low
  have M : Hid (∀ wx, Below w.heap.size w wx → Calls Tryd.prog 62 #[.slice px (Bg.wd x.natAbs).length cx, .slice py (Bg.wd y.natAbs).length cy] wx fun e w' => ∃ v, e = .returned v ∧ WS w' v (Bg.wd (x.natAbs * y.natAbs)) ∧ Below wx.heap.size wx w') := hide fun wx hb => mul_any _ _ x.natAbs y.natAbs wx (x2.below hb) (y2.below hb) lx ly
  have GV : Hid (∀ wx v, Below w.heap.size w wx → WS wx v (Bg.wd (x.natAbs * y.natAbs)) → Calls Tryd.prog 61 #[.pointer (some ⟨b, o, none⟩), .bool (decide (x < 0) != decide (y < 0)), v] wx fun e w' => ∃ v, e = .returned v ∧ v = .pointer (some ⟨b, o, none⟩) ∧ IA w' b o (x * y) ∧ Out b o w w') := hide fun wx v hb hv => by
    refine (give_any b o _ _ v wx (hz.below hb) hv).mono ?_
    rintro e w' ⟨rfl, hi, ho⟩
    rw [mul_sign] at hi
    exact ⟨_, rfl, rfl, hi, (Out.of hb).trans ho⟩
  clear x2 y2 hx hy lx ly
  go_enter Tryd.func53, Tryd.ntmps53
  go_upto_region 1 with fail
  refine frame_intro (fun a => G a 0 = .pointer (some ⟨b, o, none⟩) ∧ G a 1 = .pointer (some ⟨bx, ox, none⟩) ∧ G a 2 = .pointer (some ⟨b2, oy, none⟩) ∧ a.tmps.size = 27 ∧ a.defers = []) ⟨rfl, rfl, rfl, rfl, rfl⟩ ?_
  rintro f0 ⟨s0, s1, s2, hsz, hdf⟩
  refine region_any (I := RO w f0 27 [7, 8, 9, 10, 11, 12, 13, 14, 15, 16, 17, 18, 19, 20, 21, 22, 23, 24, 25, 26, 6] 19 (fun w' => IA w' b o (x * y) ∧ Out b o w w') [.lit (.pointer (some ⟨b, o, none⟩)), .lit (.pointer (some ⟨bx, ox, none⟩)), .lit (.pointer (some ⟨bx, ox, none⟩)), .lit (.pointer (some ⟨bx, ox, none⟩)), .lit (.bool (decide (x < 0))), .lit (.pointer (some ⟨b2, oy, none⟩)), .lit (.pointer (some ⟨b2, oy, none⟩)), .lit (.pointer (some ⟨b2, oy, none⟩)), .lit (.bool (decide (y < 0))), .lit (.bool ((decide (x < 0)) != (decide (y < 0)))), .lit (.pointer (some ⟨bx, ox, none⟩)), .lit (.pointer (some ⟨bx, ox, none⟩)), .lit (.pointer (some ⟨bx, ox + 1, none⟩)), .lit (.slice px (Bg.wd x.natAbs).length cx), .lit (.pointer (some ⟨b2, oy, none⟩)), .lit (.pointer (some ⟨b2, oy, none⟩)), .lit (.pointer (some ⟨b2, oy + 1, none⟩)), .lit (.slice py (Bg.wd y.natAbs).length cy), dws (x.natAbs * y.natAbs), .lit (.pointer (some ⟨b, o, none⟩)), .lit (.pointer (some ⟨b, o, none⟩))]) (by kernel_rfl) ?wait ?step ?done ?start
  case wait => exact ⟨by simp, by simp, by simp, by simp, by simp, by simp, by simp, by simp, by simp, by simp, by simp, by simp, by simp, by simp, by simp, by simp, by simp, by simp, by simp, by simp, by simp, trivial⟩
  case start => exact RO.start hsz hdf ((Below.refl _ _).drew)
  case step =>
    refine ⟨?_, ?_, ?_, ?_, ?_, ?_, ?_, ?_, ?_, ?_, ?_, ?_, ?_, ?_, ?_, ?_, ?_, ?_, ?_, ?_, ?_, trivial⟩
    · rintro L fa wx h hcl hL hw2
      exact ro_val h (by decide) rfl rfl rfl (by decide) (by decide) rfl (run_mv (eval_G ((h.keep (s := 0) (by decide)).trans s0))) rfl
    · rintro L fa wx h hcl hL hw2
      exact ro_val h (by decide) rfl rfl rfl (by decide) (by decide) rfl (run_mv (eval_G ((h.keep (s := 1) (by decide)).trans s1))) rfl
    · rintro L fa wx h hcl hL hw2
      exact ro_val h (by decide) rfl rfl rfl (by decide) (by decide) rfl (run_nil (eval_G (show G fa 8 = .pointer (some ⟨bx, ox, none⟩) from okx_lit (h.got 1 8 (hw2 ⟨1, .data⟩ (by simp) rfl) rfl) rfl))) rfl
    · rintro L fa wx h hcl hL hw2
      exact ro_val h (by decide) rfl rfl rfl (by decide) (by decide) rfl (run_fld0 (eval_G (show G fa 9 = .pointer (some ⟨bx, ox, none⟩) from okx_lit (h.got 2 9 (hw2 ⟨2, .data⟩ (by simp) rfl) rfl) rfl))) rfl
    · rintro L fa wx h hcl hL hw2
      exact ro_val h (by decide) rfl rfl rfl (by decide) (by decide) rfl (run_ldB (eval_G (show G fa 10 = .pointer (some ⟨bx, ox, none⟩) from okx_lit (h.got 3 10 (hw2 ⟨3, .data⟩ (by simp) rfl) rfl) rfl)) (((h.old (Bool.eq_false_iff.2 fun hq => by have hz := (hcl 9 _ rfl (hcl 19 _ rfl hq ⟨9, .data⟩ (by simp) rfl) ⟨4, .data⟩ (by simp) rfl); rw [hL] at hz; cases hz)).cell (p := ⟨bx, ox, none⟩) bx0).trans x0)) rfl
    · rintro L fa wx h hcl hL hw2
      exact ro_val h (by decide) rfl rfl rfl (by decide) (by decide) rfl (run_mv (eval_G ((h.keep (s := 2) (by decide)).trans s2))) rfl
    · rintro L fa wx h hcl hL hw2
      exact ro_val h (by decide) rfl rfl rfl (by decide) (by decide) rfl (run_nil (eval_G (show G fa 12 = .pointer (some ⟨b2, oy, none⟩) from okx_lit (h.got 5 12 (hw2 ⟨5, .data⟩ (by simp) rfl) rfl) rfl))) rfl
    · rintro L fa wx h hcl hL hw2
      exact ro_val h (by decide) rfl rfl rfl (by decide) (by decide) rfl (run_fld0 (eval_G (show G fa 13 = .pointer (some ⟨b2, oy, none⟩) from okx_lit (h.got 6 13 (hw2 ⟨6, .data⟩ (by simp) rfl) rfl) rfl))) rfl
    · rintro L fa wx h hcl hL hw2
      exact ro_val h (by decide) rfl rfl rfl (by decide) (by decide) rfl (run_ldB (eval_G (show G fa 14 = .pointer (some ⟨b2, oy, none⟩) from okx_lit (h.got 7 14 (hw2 ⟨7, .data⟩ (by simp) rfl) rfl) rfl)) (((h.old (Bool.eq_false_iff.2 fun hq => by have hz := (hcl 9 _ rfl (hcl 19 _ rfl hq ⟨9, .data⟩ (by simp) rfl) ⟨8, .data⟩ (by simp) rfl); rw [hL] at hz; cases hz)).cell (p := ⟨b2, oy, none⟩) by0).trans y0)) rfl
    · rintro L fa wx h hcl hL hw2
      exact ro_val h (by decide) rfl rfl rfl (by decide) (by decide) rfl (run_neB (eval_G (show G fa 11 = .bool (decide (x < 0)) from okx_lit (h.got 4 11 (hw2 ⟨4, .data⟩ (by simp) rfl) rfl) rfl)) (eval_G (show G fa 15 = .bool (decide (y < 0)) from okx_lit (h.got 8 15 (hw2 ⟨8, .data⟩ (by simp) rfl) rfl) rfl))) rfl
    · rintro L fa wx h hcl hL hw2
      exact ro_val h (by decide) rfl rfl rfl (by decide) (by decide) rfl (run_mv (eval_G ((h.keep (s := 1) (by decide)).trans s1))) rfl
    · rintro L fa wx h hcl hL hw2
      exact ro_val h (by decide) rfl rfl rfl (by decide) (by decide) rfl (run_nil (eval_G (show G fa 17 = .pointer (some ⟨bx, ox, none⟩) from okx_lit (h.got 10 17 (hw2 ⟨10, .data⟩ (by simp) rfl) rfl) rfl))) rfl
    · rintro L fa wx h hcl hL hw2
      exact ro_val h (by decide) rfl rfl rfl (by decide) (by decide) rfl (run_fld1 (eval_G (show G fa 18 = .pointer (some ⟨bx, ox, none⟩) from okx_lit (h.got 11 18 (hw2 ⟨11, .data⟩ (by simp) rfl) rfl) rfl))) rfl
    · rintro L fa wx h hcl hL hw2
      exact ro_val h (by decide) rfl rfl rfl (by decide) (by decide) rfl (run_ldW (eval_G (show G fa 19 = .pointer (some ⟨bx, ox + 1, none⟩) from okx_lit (h.got 12 19 (hw2 ⟨12, .data⟩ (by simp) rfl) rfl) rfl)) (((h.old (Bool.eq_false_iff.2 fun hq => by have hz := (hcl 18 _ rfl (hcl 19 _ rfl hq ⟨18, .data⟩ (by simp) rfl) ⟨13, .data⟩ (by simp) rfl); rw [hL] at hz; cases hz)).cell (p := ⟨bx, ox + 1, none⟩) bx0).trans x1)) rfl
    · rintro L fa wx h hcl hL hw2
      exact ro_val h (by decide) rfl rfl rfl (by decide) (by decide) rfl (run_mv (eval_G ((h.keep (s := 2) (by decide)).trans s2))) rfl
    · rintro L fa wx h hcl hL hw2
      exact ro_val h (by decide) rfl rfl rfl (by decide) (by decide) rfl (run_nil (eval_G (show G fa 21 = .pointer (some ⟨b2, oy, none⟩) from okx_lit (h.got 14 21 (hw2 ⟨14, .data⟩ (by simp) rfl) rfl) rfl))) rfl
    · rintro L fa wx h hcl hL hw2
      exact ro_val h (by decide) rfl rfl rfl (by decide) (by decide) rfl (run_fld1 (eval_G (show G fa 22 = .pointer (some ⟨b2, oy, none⟩) from okx_lit (h.got 15 22 (hw2 ⟨15, .data⟩ (by simp) rfl) rfl) rfl))) rfl
    · rintro L fa wx h hcl hL hw2
      exact ro_val h (by decide) rfl rfl rfl (by decide) (by decide) rfl (run_ldW (eval_G (show G fa 23 = .pointer (some ⟨b2, oy + 1, none⟩) from okx_lit (h.got 16 23 (hw2 ⟨16, .data⟩ (by simp) rfl) rfl) rfl)) (((h.old (Bool.eq_false_iff.2 fun hq => by have hz := (hcl 18 _ rfl (hcl 19 _ rfl hq ⟨18, .data⟩ (by simp) rfl) ⟨17, .data⟩ (by simp) rfl); rw [hL] at hz; cases hz)).cell (p := ⟨b2, oy + 1, none⟩) by0).trans y1)) rfl
    · rintro L fa wx h hcl hL hw2
      exact ro_call (R := fun v w' => WS w' v (Bg.wd (x.natAbs * y.natAbs))) h (by decide) rfl rfl rfl (by decide) (by decide) (Bool.eq_false_iff.2 fun hq => by have hz := (hcl 19 _ rfl hq ⟨18, .data⟩ (by simp) rfl); rw [hL] at hz; cases hz) rfl (run_call2 (eval_G (show G fa 20 = .slice px (Bg.wd x.natAbs).length cx from okx_lit (h.got 13 20 (hw2 ⟨13, .data⟩ (by simp) rfl) rfl) rfl)) (eval_G (show G fa 24 = .slice py (Bg.wd y.natAbs).length cy from okx_lit (h.got 17 24 (hw2 ⟨17, .data⟩ (by simp) rfl) rfl) rfl)) callMul) (unhide M wx (h.old (Bool.eq_false_iff.2 fun hq => by have hz := (hcl 19 _ rfl hq ⟨18, .data⟩ (by simp) rfl); rw [hL] at hz; cases hz))) (fun _ _ q => q)
    · rintro L fa wx h hcl hL hw2
      have m2 := okx_mem (h.got 18 25 (hw2 ⟨18, .data⟩ (by simp) rfl) rfl) hL
      exact ro_last (R := fun v w' => v = .pointer (some ⟨b, o, none⟩) ∧ IA w' b o (x * y) ∧ Out b o w w') h (by decide) rfl rfl rfl (by decide) hL rfl (run_call3 (eval_G (show G fa 7 = .pointer (some ⟨b, o, none⟩) from okx_lit (h.got 0 7 (hw2 ⟨0, .data⟩ (by simp) rfl) rfl) rfl)) (eval_G (show G fa 16 = .bool ((decide (x < 0)) != (decide (y < 0))) from okx_lit (h.got 9 16 (hw2 ⟨9, .data⟩ (by simp) rfl) rfl) rfl)) rfl callGive) (unhide GV wx _ (h.old hL) m2) (fun _ _ q => ⟨q.1, q.2⟩)
    · rintro L fa wx h hcl hL hw2
      exact ro_val h (by decide) rfl rfl rfl (by decide) (by decide) rfl (run_asg (eval_G (show G fa 26 = .pointer (some ⟨b, o, none⟩) from okx_lit (h.got 19 26 (hw2 ⟨19, .data⟩ (by simp) rfl) rfl) rfl))) rfl
  case done =>
    rintro L f1 w3 h hall
    have q6 : G f1 6 = .pointer (some ⟨b, o, none⟩) := okx_lit (h.got 20 6 (hall 20 (by simp)) rfl) rfl
    have HF := hide (h.fin (hall 19 (by simp)))
    rw [frame27 h.size h.defs, q6]
    clear h hall q6
    go_wp2
    go_ret
    exact ⟨rfl, unhide HF⟩
end Go.Proofs.YtibkemolmpcdcaaDoor

/- Walks: Set and Neg of whole numbers; sum. -/
namespace Go.Proofs.YtibkemolmpcdcaaDoor
open Go.RowKit

theorem callTwin (zs : Array Value) (w : World) : Sem.run Tryd.prog (callFunc 63 zs) w = .ok (.enter 63 zs) w := by simp [go_sem]
theorem own_sign (x : Int) : (if decide (x < 0) = true then -(x.natAbs : Int) else (x.natAbs : Int)) = x := by
  split
  · rename_i h; simp at h; omega
  · rename_i h; simp at h; omega
theorem opp_sign (x : Int) : (if (!decide (x < 0)) = true then -(x.natAbs : Int) else (x.natAbs : Int)) = -x := by
  split
  · rename_i h; simp at h; omega
  · rename_i h; simp at h; omega

theorem frame16 {a : Act} (hs : a.tmps.size = 16) (hd : a.defers = []) : a = { tmps := #[G a 0, G a 1, G a 2, G a 3, G a 4, G a 5, G a 6, G a 7, G a 8, G a 9, G a 10, G a 11, G a 12, G a 13, G a 14, G a 15], defers := [] } := frame_is hs hd

set_option maxRecDepth 100000 in
set_option maxHeartbeats 4000000 in
theorem iset_any (b o bx ox : Nat) (x : Int) (w : World) (hz : ZA w b o) (hx : IA w bx ox x) (lx : (Bg.wd x.natAbs).length ≤ 100000) :
    Calls Tryd.prog 57 #[.pointer (some ⟨b, o, none⟩), .pointer (some ⟨bx, ox, none⟩)] w fun e w' => e = .returned (.pointer (some ⟨b, o, none⟩)) ∧ IA w' b o (x) ∧ Out b o w w' := by
  obtain ⟨vx, x1, x2⟩ := hx.abs
  obtain ⟨px, cx, rfl, -⟩ := id x2
  have x0 := hx.neg
  have bx0 := hx.place.low
  have M : Hid (∀ wx, Below w.heap.size w wx → Calls Tryd.prog 63 #[.slice px (Bg.wd x.natAbs).length cx] wx fun e w' => ∃ v, e = .returned v ∧ WS w' v (Bg.wd x.natAbs) ∧ Below wx.heap.size wx w') := hide fun wx hb => twin_any _ x.natAbs wx (x2.below hb) lx
  have GV : Hid (∀ wx v, Below w.heap.size w wx → WS wx v (Bg.wd x.natAbs) → Calls Tryd.prog 61 #[.pointer (some ⟨b, o, none⟩), .bool (decide (x < 0)), v] wx fun e w' => ∃ v, e = .returned v ∧ v = .pointer (some ⟨b, o, none⟩) ∧ IA w' b o (x) ∧ Out b o w w') := hide fun wx v hb hv => by
    refine (give_any b o _ _ v wx (hz.below hb) hv).mono ?_
    rintro e w' ⟨rfl, hi, ho⟩
    rw [own_sign] at hi
    exact ⟨_, rfl, rfl, hi, (Out.of hb).trans ho⟩
  clear x2 hx lx
  go_enter Tryd.func57, Tryd.ntmps57
  go_upto_region 1 with fail
  refine frame_intro (fun a => G a 0 = .pointer (some ⟨b, o, none⟩) ∧ G a 1 = .pointer (some ⟨bx, ox, none⟩) ∧ a.tmps.size = 16 ∧ a.defers = []) ⟨rfl, rfl, rfl, rfl⟩ ?_
  rintro f0 ⟨s0, s1, hsz, hdf⟩
  refine region_any (I := RO w f0 16 [5, 6, 7, 8, 9, 10, 11, 12, 13, 14, 15, 4] 10 (fun w' => IA w' b o (x) ∧ Out b o w w') [.lit (.pointer (some ⟨b, o, none⟩)), .lit (.pointer (some ⟨bx, ox, none⟩)), .lit (.pointer (some ⟨bx, ox, none⟩)), .lit (.pointer (some ⟨bx, ox, none⟩)), .lit (.bool (decide (x < 0))), .lit (.pointer (some ⟨bx, ox, none⟩)), .lit (.pointer (some ⟨bx, ox, none⟩)), .lit (.pointer (some ⟨bx, ox + 1, none⟩)), .lit (.slice px (Bg.wd x.natAbs).length cx), dws x.natAbs, .lit (.pointer (some ⟨b, o, none⟩)), .lit (.pointer (some ⟨b, o, none⟩))]) (by kernel_rfl) ?wait ?step ?done ?start
  case wait => exact ⟨by simp, by simp, by simp, by simp, by simp, by simp, by simp, by simp, by simp, by simp, by simp, by simp, trivial⟩
  case start => exact RO.start hsz hdf ((Below.refl _ _).drew)
  case step =>
    refine ⟨?_, ?_, ?_, ?_, ?_, ?_, ?_, ?_, ?_, ?_, ?_, ?_, trivial⟩
    · rintro L fa wx h hcl hL hw2
      exact ro_val h (by decide) rfl rfl rfl (by decide) (by decide) rfl (run_mv (eval_G ((h.keep (s := 0) (by decide)).trans s0))) rfl
    · rintro L fa wx h hcl hL hw2
      exact ro_val h (by decide) rfl rfl rfl (by decide) (by decide) rfl (run_mv (eval_G ((h.keep (s := 1) (by decide)).trans s1))) rfl
    · rintro L fa wx h hcl hL hw2
      exact ro_val h (by decide) rfl rfl rfl (by decide) (by decide) rfl (run_nil (eval_G (show G fa 6 = .pointer (some ⟨bx, ox, none⟩) from okx_lit (h.got 1 6 (hw2 ⟨1, .data⟩ (by simp) rfl) rfl) rfl))) rfl
    · rintro L fa wx h hcl hL hw2
      exact ro_val h (by decide) rfl rfl rfl (by decide) (by decide) rfl (run_fld0 (eval_G (show G fa 7 = .pointer (some ⟨bx, ox, none⟩) from okx_lit (h.got 2 7 (hw2 ⟨2, .data⟩ (by simp) rfl) rfl) rfl))) rfl
    · rintro L fa wx h hcl hL hw2
      exact ro_val h (by decide) rfl rfl rfl (by decide) (by decide) rfl (run_ldB (eval_G (show G fa 8 = .pointer (some ⟨bx, ox, none⟩) from okx_lit (h.got 3 8 (hw2 ⟨3, .data⟩ (by simp) rfl) rfl) rfl)) (((h.old (Bool.eq_false_iff.2 fun hq => by have hz := (hcl 10 _ rfl hq ⟨4, .data⟩ (by simp) rfl); rw [hL] at hz; cases hz)).cell (p := ⟨bx, ox, none⟩) bx0).trans x0)) rfl
    · rintro L fa wx h hcl hL hw2
      exact ro_val h (by decide) rfl rfl rfl (by decide) (by decide) rfl (run_mv (eval_G ((h.keep (s := 1) (by decide)).trans s1))) rfl
    · rintro L fa wx h hcl hL hw2
      exact ro_val h (by decide) rfl rfl rfl (by decide) (by decide) rfl (run_nil (eval_G (show G fa 10 = .pointer (some ⟨bx, ox, none⟩) from okx_lit (h.got 5 10 (hw2 ⟨5, .data⟩ (by simp) rfl) rfl) rfl))) rfl
    · rintro L fa wx h hcl hL hw2
      exact ro_val h (by decide) rfl rfl rfl (by decide) (by decide) rfl (run_fld1 (eval_G (show G fa 11 = .pointer (some ⟨bx, ox, none⟩) from okx_lit (h.got 6 11 (hw2 ⟨6, .data⟩ (by simp) rfl) rfl) rfl))) rfl
    · rintro L fa wx h hcl hL hw2
      exact ro_val h (by decide) rfl rfl rfl (by decide) (by decide) rfl (run_ldW (eval_G (show G fa 12 = .pointer (some ⟨bx, ox + 1, none⟩) from okx_lit (h.got 7 12 (hw2 ⟨7, .data⟩ (by simp) rfl) rfl) rfl)) (((h.old (Bool.eq_false_iff.2 fun hq => by have hz := (hcl 9 _ rfl (hcl 10 _ rfl hq ⟨9, .data⟩ (by simp) rfl) ⟨8, .data⟩ (by simp) rfl); rw [hL] at hz; cases hz)).cell (p := ⟨bx, ox + 1, none⟩) bx0).trans x1)) rfl
    · rintro L fa wx h hcl hL hw2
      exact ro_call (R := fun v w' => WS w' v (Bg.wd x.natAbs)) h (by decide) rfl rfl rfl (by decide) (by decide) (Bool.eq_false_iff.2 fun hq => by have hz := (hcl 10 _ rfl hq ⟨9, .data⟩ (by simp) rfl); rw [hL] at hz; cases hz) rfl (run_call1 (eval_G (show G fa 13 = .slice px (Bg.wd x.natAbs).length cx from okx_lit (h.got 8 13 (hw2 ⟨8, .data⟩ (by simp) rfl) rfl) rfl)) callTwin) (unhide M wx (h.old (Bool.eq_false_iff.2 fun hq => by have hz := (hcl 10 _ rfl hq ⟨9, .data⟩ (by simp) rfl); rw [hL] at hz; cases hz))) (fun _ _ q => q)
    · rintro L fa wx h hcl hL hw2
      have m2 := okx_mem (h.got 9 14 (hw2 ⟨9, .data⟩ (by simp) rfl) rfl) hL
      exact ro_last (R := fun v w' => v = .pointer (some ⟨b, o, none⟩) ∧ IA w' b o (x) ∧ Out b o w w') h (by decide) rfl rfl rfl (by decide) hL rfl (run_call3 (eval_G (show G fa 5 = .pointer (some ⟨b, o, none⟩) from okx_lit (h.got 0 5 (hw2 ⟨0, .data⟩ (by simp) rfl) rfl) rfl)) (eval_G (show G fa 9 = .bool (decide (x < 0)) from okx_lit (h.got 4 9 (hw2 ⟨4, .data⟩ (by simp) rfl) rfl) rfl)) rfl callGive) (unhide GV wx _ (h.old hL) m2) (fun _ _ q => ⟨q.1, q.2⟩)
    · rintro L fa wx h hcl hL hw2
      exact ro_val h (by decide) rfl rfl rfl (by decide) (by decide) rfl (run_asg (eval_G (show G fa 15 = .pointer (some ⟨b, o, none⟩) from okx_lit (h.got 10 15 (hw2 ⟨10, .data⟩ (by simp) rfl) rfl) rfl))) rfl
  case done =>
    rintro L f1 w3 h hall
    have q6 : G f1 4 = .pointer (some ⟨b, o, none⟩) := okx_lit (h.got 11 4 (hall 11 (by simp)) rfl) rfl
    have HF := hide (h.fin (hall 10 (by simp)))
    rw [frame16 h.size h.defs, q6]
    clear h hall q6
    go_wp2
    go_ret
    exact ⟨rfl, unhide HF⟩

theorem frame17 {a : Act} (hs : a.tmps.size = 17) (hd : a.defers = []) : a = { tmps := #[G a 0, G a 1, G a 2, G a 3, G a 4, G a 5, G a 6, G a 7, G a 8, G a 9, G a 10, G a 11, G a 12, G a 13, G a 14, G a 15, G a 16], defers := [] } := frame_is hs hd

set_option maxRecDepth 100000 in
set_option maxHeartbeats 4000000 in
theorem ineg_any (b o bx ox : Nat) (x : Int) (w : World) (hz : ZA w b o) (hx : IA w bx ox x) (lx : (Bg.wd x.natAbs).length ≤ 100000) :
    Calls Tryd.prog 64 #[.pointer (some ⟨b, o, none⟩), .pointer (some ⟨bx, ox, none⟩)] w fun e w' => e = .returned (.pointer (some ⟨b, o, none⟩)) ∧ IA w' b o (-x) ∧ Out b o w w' := by
  obtain ⟨vx, x1, x2⟩ := hx.abs
  obtain ⟨px, cx, rfl, -⟩ := id x2
  have x0 := hx.neg
  have bx0 := hx.place.low
  have M : Hid (∀ wx, Below w.heap.size w wx → Calls Tryd.prog 63 #[.slice px (Bg.wd x.natAbs).length cx] wx fun e w' => ∃ v, e = .returned v ∧ WS w' v (Bg.wd x.natAbs) ∧ Below wx.heap.size wx w') := hide fun wx hb => twin_any _ x.natAbs wx (x2.below hb) lx
  have GV : Hid (∀ wx v, Below w.heap.size w wx → WS wx v (Bg.wd x.natAbs) → Calls Tryd.prog 61 #[.pointer (some ⟨b, o, none⟩), .bool (!decide (x < 0)), v] wx fun e w' => ∃ v, e = .returned v ∧ v = .pointer (some ⟨b, o, none⟩) ∧ IA w' b o (-x) ∧ Out b o w w') := hide fun wx v hb hv => by
    refine (give_any b o _ _ v wx (hz.below hb) hv).mono ?_
    rintro e w' ⟨rfl, hi, ho⟩
    rw [opp_sign] at hi
    exact ⟨_, rfl, rfl, hi, (Out.of hb).trans ho⟩
  clear x2 hx lx
  go_enter Tryd.func64, Tryd.ntmps64
  go_upto_region 1 with fail
  refine frame_intro (fun a => G a 0 = .pointer (some ⟨b, o, none⟩) ∧ G a 1 = .pointer (some ⟨bx, ox, none⟩) ∧ a.tmps.size = 17 ∧ a.defers = []) ⟨rfl, rfl, rfl, rfl⟩ ?_
  rintro f0 ⟨s0, s1, hsz, hdf⟩
  refine region_any (I := RO w f0 17 [5, 6, 7, 8, 9, 10, 11, 12, 13, 14, 15, 16, 4] 11 (fun w' => IA w' b o (-x) ∧ Out b o w w') [.lit (.pointer (some ⟨b, o, none⟩)), .lit (.pointer (some ⟨bx, ox, none⟩)), .lit (.pointer (some ⟨bx, ox, none⟩)), .lit (.pointer (some ⟨bx, ox, none⟩)), .lit (.bool (decide (x < 0))), .lit (.bool (!(decide (x < 0)))), .lit (.pointer (some ⟨bx, ox, none⟩)), .lit (.pointer (some ⟨bx, ox, none⟩)), .lit (.pointer (some ⟨bx, ox + 1, none⟩)), .lit (.slice px (Bg.wd x.natAbs).length cx), dws x.natAbs, .lit (.pointer (some ⟨b, o, none⟩)), .lit (.pointer (some ⟨b, o, none⟩))]) (by kernel_rfl) ?wait ?step ?done ?start
  case wait => exact ⟨by simp, by simp, by simp, by simp, by simp, by simp, by simp, by simp, by simp, by simp, by simp, by simp, by simp, trivial⟩
  case start => exact RO.start hsz hdf ((Below.refl _ _).drew)
  case step =>
    refine ⟨?_, ?_, ?_, ?_, ?_, ?_, ?_, ?_, ?_, ?_, ?_, ?_, ?_, trivial⟩
    · rintro L fa wx h hcl hL hw2
      exact ro_val h (by decide) rfl rfl rfl (by decide) (by decide) rfl (run_mv (eval_G ((h.keep (s := 0) (by decide)).trans s0))) rfl
    · rintro L fa wx h hcl hL hw2
      exact ro_val h (by decide) rfl rfl rfl (by decide) (by decide) rfl (run_mv (eval_G ((h.keep (s := 1) (by decide)).trans s1))) rfl
    · rintro L fa wx h hcl hL hw2
      exact ro_val h (by decide) rfl rfl rfl (by decide) (by decide) rfl (run_nil (eval_G (show G fa 6 = .pointer (some ⟨bx, ox, none⟩) from okx_lit (h.got 1 6 (hw2 ⟨1, .data⟩ (by simp) rfl) rfl) rfl))) rfl
    · rintro L fa wx h hcl hL hw2
      exact ro_val h (by decide) rfl rfl rfl (by decide) (by decide) rfl (run_fld0 (eval_G (show G fa 7 = .pointer (some ⟨bx, ox, none⟩) from okx_lit (h.got 2 7 (hw2 ⟨2, .data⟩ (by simp) rfl) rfl) rfl))) rfl
    · rintro L fa wx h hcl hL hw2
      exact ro_val h (by decide) rfl rfl rfl (by decide) (by decide) rfl (run_ldB (eval_G (show G fa 8 = .pointer (some ⟨bx, ox, none⟩) from okx_lit (h.got 3 8 (hw2 ⟨3, .data⟩ (by simp) rfl) rfl) rfl)) (((h.old (Bool.eq_false_iff.2 fun hq => by have hz := (hcl 5 _ rfl (hcl 11 _ rfl hq ⟨5, .data⟩ (by simp) rfl) ⟨4, .data⟩ (by simp) rfl); rw [hL] at hz; cases hz)).cell (p := ⟨bx, ox, none⟩) bx0).trans x0)) rfl
    · rintro L fa wx h hcl hL hw2
      exact ro_val h (by decide) rfl rfl rfl (by decide) (by decide) rfl (run_not (eval_G (show G fa 9 = .bool (decide (x < 0)) from okx_lit (h.got 4 9 (hw2 ⟨4, .data⟩ (by simp) rfl) rfl) rfl))) rfl
    · rintro L fa wx h hcl hL hw2
      exact ro_val h (by decide) rfl rfl rfl (by decide) (by decide) rfl (run_mv (eval_G ((h.keep (s := 1) (by decide)).trans s1))) rfl
    · rintro L fa wx h hcl hL hw2
      exact ro_val h (by decide) rfl rfl rfl (by decide) (by decide) rfl (run_nil (eval_G (show G fa 11 = .pointer (some ⟨bx, ox, none⟩) from okx_lit (h.got 6 11 (hw2 ⟨6, .data⟩ (by simp) rfl) rfl) rfl))) rfl
    · rintro L fa wx h hcl hL hw2
      exact ro_val h (by decide) rfl rfl rfl (by decide) (by decide) rfl (run_fld1 (eval_G (show G fa 12 = .pointer (some ⟨bx, ox, none⟩) from okx_lit (h.got 7 12 (hw2 ⟨7, .data⟩ (by simp) rfl) rfl) rfl))) rfl
    · rintro L fa wx h hcl hL hw2
      exact ro_val h (by decide) rfl rfl rfl (by decide) (by decide) rfl (run_ldW (eval_G (show G fa 13 = .pointer (some ⟨bx, ox + 1, none⟩) from okx_lit (h.got 8 13 (hw2 ⟨8, .data⟩ (by simp) rfl) rfl) rfl)) (((h.old (Bool.eq_false_iff.2 fun hq => by have hz := (hcl 10 _ rfl (hcl 11 _ rfl hq ⟨10, .data⟩ (by simp) rfl) ⟨9, .data⟩ (by simp) rfl); rw [hL] at hz; cases hz)).cell (p := ⟨bx, ox + 1, none⟩) bx0).trans x1)) rfl
    · rintro L fa wx h hcl hL hw2
      exact ro_call (R := fun v w' => WS w' v (Bg.wd x.natAbs)) h (by decide) rfl rfl rfl (by decide) (by decide) (Bool.eq_false_iff.2 fun hq => by have hz := (hcl 11 _ rfl hq ⟨10, .data⟩ (by simp) rfl); rw [hL] at hz; cases hz) rfl (run_call1 (eval_G (show G fa 14 = .slice px (Bg.wd x.natAbs).length cx from okx_lit (h.got 9 14 (hw2 ⟨9, .data⟩ (by simp) rfl) rfl) rfl)) callTwin) (unhide M wx (h.old (Bool.eq_false_iff.2 fun hq => by have hz := (hcl 11 _ rfl hq ⟨10, .data⟩ (by simp) rfl); rw [hL] at hz; cases hz))) (fun _ _ q => q)
    · rintro L fa wx h hcl hL hw2
      have m2 := okx_mem (h.got 10 15 (hw2 ⟨10, .data⟩ (by simp) rfl) rfl) hL
      exact ro_last (R := fun v w' => v = .pointer (some ⟨b, o, none⟩) ∧ IA w' b o (-x) ∧ Out b o w w') h (by decide) rfl rfl rfl (by decide) hL rfl (run_call3 (eval_G (show G fa 5 = .pointer (some ⟨b, o, none⟩) from okx_lit (h.got 0 5 (hw2 ⟨0, .data⟩ (by simp) rfl) rfl) rfl)) (eval_G (show G fa 10 = .bool (!(decide (x < 0))) from okx_lit (h.got 5 10 (hw2 ⟨5, .data⟩ (by simp) rfl) rfl) rfl)) rfl callGive) (unhide GV wx _ (h.old hL) m2) (fun _ _ q => ⟨q.1, q.2⟩)
    · rintro L fa wx h hcl hL hw2
      exact ro_val h (by decide) rfl rfl rfl (by decide) (by decide) rfl (run_asg (eval_G (show G fa 16 = .pointer (some ⟨b, o, none⟩) from okx_lit (h.got 11 16 (hw2 ⟨11, .data⟩ (by simp) rfl) rfl) rfl))) rfl
  case done =>
    rintro L f1 w3 h hall
    have q6 : G f1 4 = .pointer (some ⟨b, o, none⟩) := okx_lit (h.got 12 4 (hall 12 (by simp)) rfl) rfl
    have HF := hide (h.fin (hall 11 (by simp)))
    rw [frame17 h.size h.defs, q6]
    clear h hall q6
    go_wp2
    go_ret
    exact ⟨rfl, unhide HF⟩

/-- the sign and the size of a sum -/
def sumS (xn yn : Bool) (a b : Nat) : Bool := if xn = yn then xn else if b ≤ a then xn else yn
def sumN (xn yn : Bool) (a b : Nat) : Nat := if xn = yn then a + b else if b ≤ a then a - b else b - a
theorem sum_is (xn yn : Bool) (a b : Nat) : (if sumS xn yn a b = true then -(sumN xn yn a b : Int) else (sumN xn yn a b : Int)) = (if xn = true then -(a : Int) else a) + (if yn = true then -(b : Int) else b) := by
  unfold sumS sumN
  by_cases h : b ≤ a
  · cases xn <;> cases yn <;> simp [h] <;> omega
  · cases xn <;> cases yn <;> simp [h] <;> omega
end Go.Proofs.YtibkemolmpcdcaaDoor

/- Walks: Add and Sub of whole numbers. -/
namespace Go.Proofs.YtibkemolmpcdcaaDoor
open Go.RowKit

theorem frame28 {a : Act} (hs : a.tmps.size = 28) (hd : a.defers = []) : a = { tmps := #[G a 0, G a 1, G a 2, G a 3, G a 4, G a 5, G a 6, G a 7, G a 8, G a 9, G a 10, G a 11, G a 12, G a 13, G a 14, G a 15, G a 16, G a 17, G a 18, G a 19, G a 20, G a 21, G a 22, G a 23, G a 24, G a 25, G a 26, G a 27], defers := [] } := frame_is hs hd

theorem frame29 {a : Act} (hs : a.tmps.size = 29) (hd : a.defers = []) : a = { tmps := #[G a 0, G a 1, G a 2, G a 3, G a 4, G a 5, G a 6, G a 7, G a 8, G a 9, G a 10, G a 11, G a 12, G a 13, G a 14, G a 15, G a 16, G a 17, G a 18, G a 19, G a 20, G a 21, G a 22, G a 23, G a 24, G a 25, G a 26, G a 27, G a 28], defers := [] } := frame_is hs hd
end Go.Proofs.YtibkemolmpcdcaaDoor

/- Walks: Sign, Cmp, CmpAbs of whole numbers. -/
namespace Go.Proofs.YtibkemolmpcdcaaDoor
open Go.RowKit

def sgnZ (x : Int) : Int := if x < 0 then -1 else if x = 0 then 0 else 1
end Go.Proofs.YtibkemolmpcdcaaDoor

/- Walks: small. -/
namespace Go.Proofs.YtibkemolmpcdcaaDoor
open Go.RowKit

set_option maxHeartbeats 2000000 in
theorem small_go (p : Option Addr) (cap d : Nat) (us : List Nat) (w : World) (hu : WS w (.slice p us.length cap) us) (l1 : us.length ≤ 1000000) (hd0 : 0 < d) (hd : d < 4294967296) :
    Calls Tryd.prog 70 #[.slice p us.length cap, .int .u32 (d : Int)] w fun e w' => ∃ u, e = .returned (.tuple #[u, .int .u32 ((Bg.val us % d : Nat) : Int)]) ∧ WS w' u (Bg.wd (Bg.val us / d)) ∧ Below w.heap.size w w' := by
  have CA := hide (WS.at hu)
  have OA := hide (fun i x h => hu.cells.2.2.2.1.at (i := i) (x := x) h)
  clear hu
  have hmk := mkw w us.length (us.length : Int) rfl (by omega)
  have hdn : ((d : Int) == 0) = false := by rw [beq_eq_false_iff_ne]; omega
  go_enter Tryd.func70, Tryd.ntmps70
  go_wp2_with fail
  go_loopw [7, 8] (fun rv i wr => ∃ (m r : Nat) (qs : List Nat), m ≤ us.length ∧ i = .int .i64 ((m : Int) - 1) ∧ rv = .int .u64 (r : Int) ∧ r < d ∧ qs.length = us.length ∧ Hid (Bg.Ok qs) ∧ Hid (∀ j x, j < m → qs[j]? = some x → x = 0) ∧ Hid (Bg.val (us.drop m) = Bg.val (qs.drop m) * d + r) ∧ Hid (RW wr w.heap.size qs) ∧ Hid (Below w.heap.size w wr)) (fun _ i _ => (intOf i + 1).toNat)
  case atStart => exact ⟨us.length, 0, List.replicate us.length 0, Nat.le_refl _, rfl, rfl, hd0, by simp, hide (Bg.Ok.zeros _), hide (fun j x _ => Bg.zero_rep _ j x (Nat.zero_le _)), hide (by rw [List.drop_length, List.drop_of_length_le (by simp)]; simp [Bg.val]), hide (RW.made _ _), hide (below_new _ _)⟩
  case round =>
    obtain ⟨m, r, qs, hml, rfl, rfl, hrd, hql, HO, HZ, HE, HR, HB⟩ := hrel
    clear hmk
    have fz := (unhide HR).frozen
    rcases Nat.eq_zero_or_pos m with h0 | h0
    · subst h0
      have T : Hid (∀ wx, RW wx w.heap.size qs → Calls Tryd.prog 68 #[.slice (some ⟨w.heap.size, 0, none⟩) us.length us.length] wx fun e w' => ∃ u, e = .returned u ∧ WS w' u (Bg.wd (Bg.val us / d)) ∧ Below wx.heap.size wx w') := hide fun wx h => by
        have e := unhide HE
        rw [List.drop_zero, List.drop_zero] at e
        have t := trim_any (.slice (some ⟨w.heap.size, 0, none⟩) us.length us.length) qs wx (by
          have := WS.whole h (unhide HO) (cap := us.length) (by simp [hql]) (by omega)
          simpa [hql] using this)
        rwa [show Bg.val qs = Bg.val us / d by rw [e, Nat.mul_comm, Nat.mul_add_div hd0, Nat.div_eq_of_lt hrd, Nat.add_zero]] at t
      have HM : Hid (r = Bg.val us % d) := hide (by
        have e := unhide HE
        rw [List.drop_zero, List.drop_zero] at e
        rw [e, Nat.mul_comm, Nat.mul_add_mod, Nat.mod_eq_of_lt hrd])
      have hr32 : r < 4294967296 := by omega
      clear fz
      go_wp2_with fail
      refine (unhide T _ (unhide HR)).mono ?_
      rintro e w1 ⟨u, rfl, hu, hb⟩
      have HU := hide hu
      have HB1 := hide hb
      clear hu hb
      go_wp2
      refine bodyPost_ret (v := .tuple #[u, .int .u32 (r : Int)]) (by simp [results, Tryd.results70, go_sem]) rfl ?_
      rw [← unhide HM]
      exact ⟨_, rfl, unhide HU, below_via (unhide HB) (unhide HB1)⟩
    · obtain ⟨k, rfl⟩ : ∃ k, m = k + 1 := ⟨m - 1, by omega⟩
      obtain ⟨x, hx⟩ : ∃ x, us[k]? = some x := ⟨_, List.getElem?_eq_getElem (by omega)⟩
      obtain ⟨b1, o1, rfl, l1, c1⟩ := unhide CA k x hx
      have d1 := ((unhide HB).cell (p := ⟨b1, o1 + k, none⟩) l1).trans c1
      have hxb : x < 4294967296 := unhide OA k x hx
      obtain ⟨r0, hr0⟩ : ∃ r0, qs[k]? = some r0 := ⟨_, List.getElem?_eq_getElem (by omega)⟩
      have d0 := (unhide HR).cell hr0
      have f0 := fz k
      have hk1 : ((k + 1 : Nat) : Int) - 1 = (k : Int) := by omega
      have hkl : (k : Int) < (us.length : Int) := by omega
      have hpos : (0 : Int) ≤ (k : Int) := by omega
      rw [hk1]
      have hr32 : r < 4294967296 := by omega
      have HOR := hide (or_shift2 hxb hr32)
      obtain ⟨h, hh⟩ : ∃ h, h = x + 4294967296 * r := ⟨_, rfl⟩
      rw [← hh] at HOR
      have hlt := Bg.small_lt hrd hxb hh
      have ht1 : ((h : Nat) : Int).tdiv (d : Int) = ((h / d : Nat) : Int) := rfl
      have ht2 : ((h : Nat) : Int).tmod (d : Int) = ((h % d : Nat) : Int) := rfl
      have HH := hide hh
      clear hh
      have HX := hide hx
      clear hx c1 hr0 fz hk1
      go_wp2
      rw [unhide HOR, ht1, ht2]
      obtain ⟨t, ht⟩ : ∃ t, t = h / d := ⟨_, rfl⟩
      rw [← ht] at hlt ⊢
      have hwt : IntKind.u64.wrap (t : Int) = (t : Int) := by rw [IntKind.wrap_u64]; omega
      have hwm : (t : Int) % 4294967296 = (t : Int) := by omega
      rw [hwt, hwm]
      go_roundw
      case rel => exact ⟨k, h % d, qs.set k t, by omega, rfl, rfl, Nat.mod_lt _ hd0, by simpa using hql, hide ((unhide HO).set _ hlt), hide (fun j z hj hz => by
          rw [List.getElem?_set_ne (by omega)] at hz
          exact unhide HZ j z (by omega) hz), hide (by
          rw [Bg.drop_set (by omega), List.drop_eq_getElem_cons (by omega : k < us.length), Bg.val, Bg.val, (List.getElem?_eq_some_iff.1 (unhide HX)).2, ht]
          exact Bg.small_step (unhide HE) (unhide HH)), hide ((unhide HR).set k t), hide (below_set (unhide HB) (Nat.le_refl _))⟩
      case measure => simp [intOf]

theorem small_any (u : Value) (a d : Nat) (w : World) (hu : WS w u (Bg.wd a)) (ha : (Bg.wd a).length ≤ 100000) (hd0 : 0 < d) (hd : d < 4294967296) :
    Calls Tryd.prog 70 #[u, .int .u32 (d : Int)] w fun e w' => ∃ u, e = .returned (.tuple #[u, .int .u32 ((a % d : Nat) : Int)]) ∧ WS w' u (Bg.wd (a / d)) ∧ Below w.heap.size w w' := by
  obtain ⟨p, cap, rfl, _⟩ := id hu
  have := small_go p cap d _ w hu (by omega) hd0 hd
  rwa [Bg.val_wd] at this
end Go.Proofs.YtibkemolmpcdcaaDoor

/- Walks: left. -/
namespace Go.Proofs.YtibkemolmpcdcaaDoor
open Go.RowKit

theorem bits_or_u32_nat (a b : Nat) (ha : a < 4294967296) (hb : b < 4294967296) :
    bits .or .u32 (a : Int) (b : Int) = ((a ||| b : Nat) : Int) := by
  have hx : a ||| b < 2 ^ 32 := Nat.or_lt_two_pow (by omega) (by omega)
  have h1 : (BitVec.ofInt 32 (a : Int)).toNat = a := by
    rw [BitVec.ofInt_natCast, BitVec.toNat_ofNat]; exact Nat.mod_eq_of_lt (by omega)
  have h2 : (BitVec.ofInt 32 (b : Int)).toNat = b := by
    rw [BitVec.ofInt_natCast, BitVec.toNat_ofNat]; exact Nat.mod_eq_of_lt (by omega)
  show IntKind.u32.wrap ((BitVec.ofInt 32 (a : Int) ||| BitVec.ofInt 32 (b : Int)).toNat : Int) = _
  rw [BitVec.toNat_or, h1, h2]
  have e : IntKind.u32.wrap ((a ||| b : Nat) : Int) = ((a ||| b : Nat) : Int) % 4294967296 := rfl
  rw [e]
  omega
theorem shl_wrap {x s : Nat} (hx : x < 4294967296) (hs : s < 32) : IntKind.u64.wrap ((x : Int) * 2 ^ s) = ((x * 2 ^ s : Nat) : Int) ∧ x * 2 ^ s < 18446744073709551616 := by
  have l : 2 ^ s ≤ 2 ^ 31 := Nat.pow_le_pow_right (by omega) (by omega)
  have l2 : x * 2 ^ s ≤ 4294967295 * 2 ^ 31 := Nat.mul_le_mul (by omega) l
  have e : (x : Int) * 2 ^ s = ((x * 2 ^ s : Nat) : Int) := by simp
  rw [e, IntKind.wrap_u64]
  omega

set_option maxHeartbeats 2000000 in
theorem left_go (p : Option Addr) (cap s : Nat) (us : List Nat) (w : World) (hu : WS w (.slice p us.length cap) us) (h1 : 1 ≤ us.length) (l1 : us.length ≤ 1000000) (hs : s < 32) :
    Calls Tryd.prog 72 #[.slice p us.length cap, .int .u64 (s : Int)] w fun e w' => ∃ u, e = .returned u ∧ WS w' u (Bg.wd (Bg.val us * 2 ^ s)) ∧ Below w.heap.size w w' := by
  have CA := hide (WS.at hu)
  have OA := hide (fun i x h => hu.cells.2.2.2.1.at (i := i) (x := x) h)
  clear hu
  have g1 : ((us.length : Int) == 0) = false := by rw [beq_eq_false_iff_ne]; omega
  have hmk := mkw w (us.length + 1) ((us.length : Int) + 1) (by omega) (by omega)
  have q1 : ((s : Int)).tdiv 32 = 0 := by rw [Int.tdiv_eq_ediv_of_nonneg (by omega)]; omega
  have q2 : ((s : Int)).tmod 32 = (s : Int) := by rw [Int.tmod_eq_emod_of_nonneg (by omega)]; omega
  go_enter Tryd.func72, Tryd.ntmps72
  go_wp2_with fail
  go_loopw [8] (fun i wr => ∃ (m h : Nat) (rs : List Nat), m ≤ us.length ∧ i = .int .i64 (m : Int) ∧ rs.length = us.length + 1 ∧ Hid (Bg.Ok rs) ∧ Hid (∀ j x, m + 1 ≤ j → rs[j]? = some x → x = 0) ∧ Hid (rs[m]? = some h) ∧ h < 2 ^ s ∧ Hid (Bg.val rs = Bg.val (us.take m) * 2 ^ s) ∧ Hid (RW wr w.heap.size rs) ∧ Hid (Below w.heap.size w wr)) (fun i _ => us.length - (intOf i).toNat)
  case atStart => exact ⟨0, 0, List.replicate (us.length + 1) 0, Nat.zero_le _, rfl, by simp, hide (Bg.Ok.zeros _), hide (fun j x _ => Bg.zero_rep _ j x (Nat.zero_le _)), hide (by simp), Nat.pow_pos (by omega), hide (by rw [Bg.val_zeros]; simp [Bg.val]), hide (RW.made _ _), hide (below_new _ _)⟩
  case round =>
    obtain ⟨m, h, rs, hml, rfl, hrl, HO, HZ, HH, hh, HE, HR, HB⟩ := hrel
    clear hmk
    have fz := (unhide HR).frozen
    by_cases hlt : m < us.length
    · have hlt' : (m : Int) < (us.length : Int) := by omega
      have hlt2 : (m : Int) < (us.length : Int) + 1 := by omega
      have hlt3 : (m : Int) + 1 < (us.length : Int) + 1 := by omega
      obtain ⟨x, hx⟩ : ∃ x, us[m]? = some x := ⟨_, List.getElem?_eq_getElem hlt⟩
      obtain ⟨b1, o1, rfl, lb1, c1⟩ := unhide CA m x hx
      have hxb : x < 4294967296 := unhide OA m x hx
      have d1 := ((unhide HB).cell (p := ⟨b1, o1 + m, none⟩) lb1).trans c1
      have d0 := (unhide HR).cell (unhide HH)
      have f0 := fz m
      have f1 := fz (m + 1)
      have hne : ¬ b1 = w.heap.size := by omega
      have d3 : wr.cell? ⟨w.heap.size, m + 1, none⟩ = some (.int .u32 (0 : Int)) := by
        have e := List.getElem?_eq_getElem (show m + 1 < rs.length by omega)
        rw [unhide HZ (m + 1) _ (Nat.le_refl _) e] at e
        exact (unhide HR).cell e
      have HX := hide hx
      clear hx c1 fz
      obtain ⟨a1, a2, a3, a4⟩ := Bg.left_facts hs hxb hh
      obtain ⟨w1, w2⟩ := shl_wrap hxb hs
      obtain ⟨V, hV⟩ : ∃ V, V = x * 2 ^ s := ⟨_, rfl⟩
      rw [← hV] at a1 a2 a3 w1 w2
      have v1 : bits .or .u32 (h : Int) ((V : Int) % 4294967296) = ((h + V % 4294967296 : Nat) : Int) := by
        rw [← a1, ← bits_or_u32_nat h (V % 4294967296) (by omega) (by omega)]
        rfl
      have v2 : bits .or .u32 0 ((V : Int) / 4294967296) = ((V / 4294967296 : Nat) : Int) := by
        have := bits_or_u32_nat 0 (V / 4294967296) (by omega) (by omega)
        rw [Nat.zero_or] at this
        rw [← this]
        rfl
      have HV := hide hV
      clear hV
      go_wp2
      go_roundw
      case rel => exact ⟨m + 1, V / 4294967296, (rs.set m (h + V % 4294967296)).set (m + 1) (V / 4294967296), by omega, by go_num, by simpa using hrl, hide (((unhide HO).set _ a2).set _ (by omega)), hide (fun j z hj hz => by
          rw [List.getElem?_set_ne (by omega), List.getElem?_set_ne (by omega)] at hz
          exact unhide HZ j z (by omega) hz), hide (by rw [List.getElem?_set_self (by simp; omega)]), a3, hide (by
          have h1 := Bg.val_set rs m h (h + V % 4294967296) (unhide HH)
          have h2 : Bg.val ((rs.set m (h + V % 4294967296)).set (m + 1) (V / 4294967296)) = Bg.val (rs.set m (h + V % 4294967296)) + 4294967296 ^ m * 4294967296 * (V / 4294967296) := by
            rw [← Nat.pow_succ]
            exact Bg.val_set0 (fun j z hj hz => by
              rw [List.getElem?_set_ne (by omega)] at hz
              exact unhide HZ j z hj hz) (by simp; omega)
          rw [Bg.left_step h1 h2, Bg.val_succ us m x (unhide HX), unhide HE, Nat.add_mul, unhide HV, Nat.mul_assoc]), hide (by
          have := ((unhide HR).set m (h + V % 4294967296)).set (m + 1) (V / 4294967296)
          simpa using this), hide (below_set (below_set (unhide HB) (Nat.le_refl _)) (Nat.le_refl _))⟩
      case measure => simp [intOf]; omega
    · obtain rfl : m = us.length := by omega
      have T : Hid (∀ wx, RW wx w.heap.size rs → Calls Tryd.prog 68 #[.slice (some ⟨w.heap.size, 0, none⟩) (us.length + 1) (us.length + 1)] wx fun e w' => ∃ u, e = .returned u ∧ WS w' u (Bg.wd (Bg.val us * 2 ^ s)) ∧ Below wx.heap.size wx w') := hide fun wx h => by
        have e := unhide HE
        rw [List.take_length] at e
        have t := trim_any (.slice (some ⟨w.heap.size, 0, none⟩) (us.length + 1) (us.length + 1)) rs wx (by
          have := WS.whole h (unhide HO) (cap := us.length + 1) (by simp [hrl]) (by omega)
          simpa [hrl] using this)
        rwa [e] at t
      clear fz
      go_wp2_with fail
      refine (unhide T _ (unhide HR)).mono ?_
      rintro e w1 ⟨u, rfl, hu, hb⟩
      have HU := hide hu
      have HB1 := hide hb
      clear hu hb
      go_wp2
      go_ret
      exact ⟨_, rfl, unhide HU, below_via (unhide HB) (unhide HB1)⟩

theorem left_any (u : Value) (a s : Nat) (w : World) (hu : WS w u (Bg.wd a)) (ha : (Bg.wd a).length ≤ 100000) (h0 : a ≠ 0) (hs : s < 32) :
    Calls Tryd.prog 72 #[u, .int .u64 (s : Int)] w fun e w' => ∃ u, e = .returned u ∧ WS w' u (Bg.wd (a * 2 ^ s)) ∧ Below w.heap.size w w' := by
  obtain ⟨p, cap, rfl, _⟩ := id hu
  have := left_go p cap s _ w hu (by rw [Bg.wd_pos h0]; simp) (by omega) hs
  rwa [Bg.val_wd] at this

set_option maxHeartbeats 2000000 in
theorem len_go (b off cap n x : Nat) (w : World) (hn : n ≤ 1000000) (hc : w.cell? ⟨b, off + n, none⟩ = some (.int .u32 (x : Int))) (hx : x < 4294967296) (h0 : 0 < x) :
    Calls Tryd.prog 71 #[.slice (some ⟨b, off, none⟩) (n + 1) cap] w fun e w' => ∃ k, e = .returned (.int .i64 ((n * 32 + k : Nat) : Int)) ∧ 0 < k ∧ k ≤ 32 ∧ x < 2 ^ k ∧ 2 ^ k ≤ 2 * x ∧ w' = w := by
  have g1 : ((n : Int) + 1 == 0) = false := by rw [beq_eq_false_iff_ne]; omega
  have g2 : (n : Int) + 1 - 1 = (n : Int) := by omega
  have g3 : (n : Int) < (n : Int) + 1 := by omega
  go_enter Tryd.func71, Tryd.ntmps71
  go_wp2_with fail
  go_loopw [3, 4] (fun nv tv wr => ∃ k t : Nat, nv = .int .i64 (k : Int) ∧ tv = .int .u32 (t : Int) ∧ k ≤ 32 ∧ wr = w ∧ Hid (t = x / 2 ^ k) ∧ Hid (k = 0 ∨ 2 ^ k ≤ 2 * x)) (fun _ tv _ => (intOf tv).toNat)
  case atStart => exact ⟨0, x, rfl, rfl, by omega, rfl, hide (by simp), hide (.inl rfl)⟩
  case round =>
    obtain ⟨k, t, rfl, rfl, hk, rfl, HT, HK⟩ := hrel
    by_cases ht : t = 0
    · subst ht
      have HF : Hid (x < 2 ^ k) := hide (by
        have := (unhide HT).symm
        rcases Nat.div_eq_zero_iff.1 this with e | e
        · exact absurd e (Nat.pos_iff_ne_zero.1 (Nat.pow_pos (by omega)))
        · exact e)
      have hk0 : 0 < k := by
        rcases Nat.eq_zero_or_pos k with e | e
        · have := unhide HF; rw [e] at this; omega
        · exact e
      go_wp2
      go_ret
      refine ⟨k, ?_, hk0, hk, unhide HF, (unhide HK).resolve_left (by omega), rfl⟩
      rw [Int.natCast_add, Int.natCast_mul]
      rfl
    · have ht' : ((t : Int) != 0) = true := by simp; omega
      have HL : Hid (2 ^ k ≤ x) := hide (by
        rcases Nat.lt_or_ge x (2 ^ k) with e | e
        · have := unhide HT; rw [Nat.div_eq_of_lt e] at this; exact absurd this ht
        · exact e)
      have hk1 : k + 1 ≤ 32 := by
        rcases Nat.lt_or_ge k 32 with e | e
        · exact e
        · have h1 : 2 ^ 32 ≤ 2 ^ k := Nat.pow_le_pow_right (by omega) e
          have h2 := unhide HL
          omega
      go_wp2
      go_roundw
      case rel => exact ⟨k + 1, t / 2, by go_num, by go_num, hk1, trivial, hide (by rw [unhide HT, Nat.pow_succ, Nat.div_div_eq_div_mul]), hide (.inr (by have := unhide HL; rw [Nat.pow_succ]; omega))⟩
      case measure => simp [intOf]; omega
end Go.Proofs.YtibkemolmpcdcaaDoor
