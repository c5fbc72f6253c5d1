/- A region that draws its order, makes new blocks, and stores in each what is told. -/
import Derived.Test.YtcidbhegnnedoaaGreatDoorG09
import Derived.Test.YtcidbhegnnedoaaGreatDoorG16
namespace Go.Proofs.YtcidbhegnnedoaaGreatDoor
open Go.RowKit

/-- what a slot holds: a value; a new block (filled by the store of that number); anything -/
inductive Dt where
  | lit (v : Value)
  | blk (k : Nat) (z u : Array Value)
  | any
def Dt.key : Dt → Option Nat
  | .blk k _ _ => some k
  | _ => none
def Dt.ok (w0 : World) (st : Nat → Bool) : Dt → Value → World → Prop
  | .lit v, x, _ => x = v
  | .blk k z u, x, w => ∃ p, x = .pointer (some ⟨p, 0, none⟩) ∧ w0.heap.size ≤ p ∧ BkA w p (if st k = true then u else z)
  | .any, _, _ => True
theorem Dt.keep {w0 w w' : World} {st : Nat → Bool} (hb : Below w.heap.size w w') : ∀ (x : Dt) {v : Value}, x.ok w0 st v w → x.ok w0 st v w'
  | .lit _, _, h => h
  | .blk _ _ _, _, ⟨p, e, l, B⟩ => ⟨p, e, l, B.keep hb B.low⟩
  | .any, _, _ => trivial
def keyOk (l : List Dt) (k i : Nat) : Bool := (List.range l.length).all fun j => (l[j]?.bind Dt.key) != some k || j == i
theorem keyOk_at {l : List Dt} {k i j : Nat} (h : keyOk l k i = true) (hk : (l[j]?.bind Dt.key) = some k) : j = i := by
  unfold keyOk at h
  have hj : j < l.length := by
    rcases Nat.lt_or_ge j l.length with q | q
    · exact q
    · rw [List.getElem?_eq_none q] at hk; cases hk
  have := List.all_eq_true.1 h j (List.mem_range.2 hj)
  rw [hk] at this
  simpa using this

structure RT (w0 : World) (a0 : Act) (N : Nat) (D : List Nat) (l : List Dt) (L : Nat → Bool) (a : Act) (w : World) : Prop where
  size : a.tmps.size = N
  defs : a.defers = []
  rest : ∀ j, (∀ i d, L i = true → D[i]? = some d → d ≠ j) → G a j = G a0 j
  got : ∀ i d, L i = true → D[i]? = some d → ((l[i]?).getD .any).ok w0 (fun k => L (D.length + k)) (G a d) w
  uniq : ∀ i j d e, L i = true → L j = true → ((l[i]?).getD .any).key.isSome = true → ((l[j]?).getD .any).key.isSome = true → i ≠ j → D[i]? = some d → D[j]? = some e → G a d ≠ G a e
  old : Below w0.heap.size w0 w
section
variable {w0 w w' : World} {a0 a a' : Act} {N : Nat} {D : List Nat} {l : List Dt} {L : Nat → Bool} {ops : Array Oper} {Q : Exit → Act → World → Prop} {i d : Nat} {o : Oper}
theorem RT.keep (h : RT w0 a0 N D l L a w) {s : Nat} (hs : s ∉ D) : G a s = G a0 s :=
  h.rest s (fun _ _ _ hd e => hs (e ▸ List.mem_of_getElem? hd))
theorem RT.start (h1 : a0.tmps.size = N) (h2 : a0.defers = []) (h3 : Below w0.heap.size w0 w) : RT w0 a0 N D l (fun _ => false) a0 w :=
  ⟨h1, h2, fun _ _ => rfl, fun _ _ h => (by cases h), fun _ _ _ _ h => (by cases h), h3⟩
theorem RT.step (h : RT w0 a0 N D l L a w) (nd : D.Nodup) (i : Nat) {d : Nat} {v : Value} (hi : D[i]? = some d) (U : Upd a d v a') (hd : a'.defers = a.defers) (hb : Below w.heap.size w w')
    (ok : ((l[i]?).getD .any).ok w0 (fun k => L (D.length + k)) v w') (un : ((l[i]?).getD .any).key.isSome = true → ∀ j e, L j = true → ((l[j]?).getD .any).key.isSome = true → D[j]? = some e → v ≠ G a e) :
    RT w0 a0 N D l (fun j => j == i || L j) a' w' := by
  have hlt : i < D.length := (List.getElem?_eq_some_iff.1 hi).1
  have est : (fun k => ((D.length + k == i) || L (D.length + k))) = fun k => L (D.length + k) := funext fun k => by
    have : ¬ (D.length + k = i) := by omega
    simp [this]
  refine ⟨U.size.trans h.size, hd.trans h.defs, fun j hj => ?_, fun j e hj he => ?_, fun j k e f hj hk uj uk ne he hf => ?_, h.old.trans (hb.mono h.old.size)⟩
  · have hne : j ≠ d := fun e => hj i d (by simp) hi e.symm
    rw [U.rest j hne]
    exact h.rest j (fun i' d' hi' hd' => hj i' d' (by simp [hi']) hd')
  · show ((l[j]?).getD .any).ok w0 (fun k => ((D.length + k == i) || L (D.length + k))) (G a' e) w'
    rw [est]
    by_cases e1 : j = i
    · subst e1
      rw [hi] at he
      cases he
      rw [U.got]
      exact ok
    · have hL : L j = true := by simpa [e1] using hj
      have hne : e ≠ d := fun q => e1 (nodupS_at nd hi (q ▸ he))
      rw [U.rest e hne]
      exact Dt.keep hb _ (h.got j e hL he)
  · by_cases e1 : j = i
    · subst e1
      rw [hi] at he
      cases he
      have hL : L k = true := by simpa [Ne.symm ne] using hk
      have hne : f ≠ d := fun q => ne (nodupS_at nd hi (q ▸ hf)).symm
      rw [U.got, U.rest f hne]
      exact un uj k f hL uk hf
    · have hLj : L j = true := by simpa [e1] using hj
      have hne : e ≠ d := fun q => e1 (nodupS_at nd hi (q ▸ he))
      rw [U.rest e hne]
      by_cases e2 : k = i
      · subst e2
        rw [hi] at hf
        cases hf
        rw [U.got]
        exact fun q => un uk j e hLj uj he q.symm
      · have hLk : L k = true := by simpa [e2] using hk
        have hne2 : f ≠ d := fun q => e2 (nodupS_at nd hi (q ▸ hf))
        rw [U.rest f hne2]
        exact h.uniq j k e f hLj hLk uj uk ne he hf
theorem RT.store (h : RT w0 a0 N D l L a w) (k i0 : Nat) {d0 p : Nat} {z u : Array Value} (hi : D[i0]? = some d0) (hl : l[i0]? = some (.blk k z u)) (uq : keyOk l k i0 = true) (hp : G a d0 = .pointer (some ⟨p, 0, none⟩)) (l0 : L i0 = true) (B : BkA w' p u) (hb : But p w w') :
    RT w0 a0 N D l (fun j => j == D.length + k || L j) a w' := by
  have lp : w0.heap.size ≤ p := by
    have g := h.got i0 d0 l0 hi
    rw [hl] at g
    obtain ⟨p', e', lp', _⟩ := g
    rw [hp] at e'
    simp only [Value.pointer.injEq, Option.some.injEq, Addr.mk.injEq, and_true] at e'
    rw [e']
    exact lp'
  refine ⟨h.size, h.defs, fun j hj => h.rest j (fun i' d' hi' hd' => hj i' d' (by simp [hi']) hd'), fun j e hj he => ?_, fun j m e f hj hm uj um ne he hf => ?_, h.old.trans (hb.below lp h.old.size)⟩
  · have hjl : j < D.length := (List.getElem?_eq_some_iff.1 he).1
    have hL : L j = true := by
      have : ¬ (j = D.length + k) := by omega
      simpa [this] using hj
    have g := h.got j e hL he
    show ((l[j]?).getD .any).ok w0 (fun k' => ((D.length + k' == D.length + k) || L (D.length + k'))) (G a e) w'
    by_cases e1 : j = i0
    · subst e1
      rw [hi] at he
      cases he
      rw [hl]
      exact ⟨p, hp, lp, by simpa using B⟩
    · cases hx : l[j]? with
      | none => trivial
      | some x =>
        rw [hx] at g
        cases x with
        | lit v => exact g
        | any => trivial
        | blk k' z' u' =>
          obtain ⟨p', e', l', B'⟩ := g
          have hk : k' ≠ k := fun q => e1 (keyOk_at uq (by rw [hx, q]; rfl))
          have hne : p' ≠ p := fun q => h.uniq j i0 e d0 hL l0 (by rw [hx]; rfl) (by rw [hl]; rfl) e1 he hi (by rw [e', hp, q])
          refine ⟨p', e', l', ?_⟩
          have ee : ((D.length + k' == D.length + k) || L (D.length + k')) = L (D.length + k') := by
            have : ¬ (k' = k) := hk
            simp [this]
          show BkA w' p' (if ((D.length + k' == D.length + k) || L (D.length + k')) = true then u' else z')
          rw [ee]
          exact B'.but hb hne
  · have h1 : j < D.length := (List.getElem?_eq_some_iff.1 he).1
    have h2 : m < D.length := (List.getElem?_eq_some_iff.1 hf).1
    have hLj : L j = true := by
      have : ¬ (j = D.length + k) := by omega
      simpa [this] using hj
    have hLm : L m = true := by
      have : ¬ (m = D.length + k) := by omega
      simpa [this] using hm
    exact h.uniq j m e f hLj hLm uj um ne he hf
theorem RT.block (h : RT w0 a0 N D l L a w) (i k : Nat) {d : Nat} {z u : Array Value} (hi : D[i]? = some d) (hl : l[i]? = some (.blk k z u)) (li : L i = true) (ls : L (D.length + k) = true) :
    ∃ p, G a d = .pointer (some ⟨p, 0, none⟩) ∧ w0.heap.size ≤ p ∧ BkA w p u := by
  have g := h.got i d li hi
  rw [hl] at g
  obtain ⟨p, ep, lp, B⟩ := g
  rw [if_pos (show L (D.length + k) = true from ls)] at B
  exact ⟨p, ep, lp, B⟩
theorem rt_val (h : RT w0 a0 N D l L a w) (nd : D.Nodup) (hi : ops[i]? = some o) (hd : o.dst = some d) (hDi : D[i]? = some d) (hN : d < N) (hw : Region.wanted o (yielded ops a.tmps) = true) {v : Value} (r : (execOp a.eval o).run Tryz.prog w = .ok (.value v) w) (hl : (l[i]?).getD .any = .lit v) :
    wpOp Tryz.prog ops Q i (fun a' w' => RT w0 a0 N D l (fun j => j == i || L j) a' w') a w :=
  o_val hi hd hw (by rw [h.size]; exact hN) r fun _ U hf => h.step nd i hDi U hf (Below.refl _ _) (by rw [hl]; exact rfl) (fun q => by rw [hl] at q; cases q)
theorem rt_call (h : RT w0 a0 N D l L a w) (nd : D.Nodup) (hi : ops[i]? = some o) (hd : o.dst = some d) (hDi : D[i]? = some d) (hN : d < N) (hw : Region.wanted o (yielded ops a.tmps) = true) {n : Nat} {args : Array Value} (r : (execOp a.eval o).run Tryz.prog w = .ok (.enter n args) w)
    {x : Value} (hl : (l[i]?).getD .any = .lit x) (hc : Calls Tryz.prog n args w fun e w' => ∃ v, e = .returned v ∧ v = x ∧ Below w.heap.size w w') :
    wpOp Tryz.prog ops Q i (fun a' w' => RT w0 a0 N D l (fun j => j == i || L j) a' w') a w :=
  o_enter (R := fun v w' => v = x ∧ Below w.heap.size w w') hi hd hw (by rw [h.size]; exact hN) r hc fun _ _ _ hR U hf => h.step nd i hDi U hf hR.2 (by rw [hl]; exact hR.1) (fun q => by rw [hl] at q; cases q)
theorem rt_new (h : RT w0 a0 N D l L a w) (nd : D.Nodup) (hi : ops[i]? = some o) (hd : o.dst = some d) (hDi : D[i]? = some d) (hN : d < N) (hw : Region.wanted o (yielded ops a.tmps) = true) {t : TypeId} {k : Nat} {z u : Array Value}
    (r : (execOp a.eval o).run Tryz.prog w = .ok (.value (.pointer (some ⟨w.heap.size, 0, none⟩))) (w.alloc (.cells z t))) (hl : l[i]? = some (.blk k z u)) (hs : L (D.length + k) = false) :
    wpOp Tryz.prog ops Q i (fun a' w' => RT w0 a0 N D l (fun j => j == i || L j) a' w') a w :=
  o_val hi hd hw (by rw [h.size]; exact hN) r fun _ U hf => h.step nd i hDi U hf (vbelow_new _ _) (by
    rw [hl]
    refine ⟨_, rfl, h.old.size, ?_⟩
    rw [if_neg (by show ¬ L (D.length + k) = true; rw [hs]; decide)]
    exact BkA.new) (fun _ j e hj uj he q => by
    have g := h.got j e hj he
    cases hx : l[j]? with
    | none => rw [hx] at uj; cases uj
    | some x =>
      rw [hx] at uj g
      cases x with
      | lit v => cases uj
      | any => cases uj
      | blk k' z' u' =>
        obtain ⟨p', e', _, B'⟩ := g
        rw [← q] at e'
        have := B'.low
        simp only [Value.pointer.injEq, Option.some.injEq, Addr.mk.injEq, and_true] at e'
        omega)
theorem rt_store (h : RT w0 a0 N D l L a w) (k i0 gi : Nat) (hgi : gi = D.length + k) {d0 : Nat} {z u : Array Value} (hop : ops[gi]? = some o) (hg : o.guard = none) (hdst : o.dst = none) (hL : L gi = false) (hi : D[i0]? = some d0) (hl : l[i0]? = some (.blk k z u)) (uq : keyOk l k i0 = true) (l0 : L i0 = true)
    (r : ∀ p, G a d0 = .pointer (some ⟨p, 0, none⟩) → BkA w p z → ∃ w', (execOp a.eval o).run Tryz.prog w = .ok .skip w' ∧ But p w w' ∧ BkA w' p u) :
    wpOp Tryz.prog ops Q gi (fun a' w' => RT w0 a0 N D l (fun j => j == gi || L j) a' w') a w := by
  subst hgi
  have g := h.got i0 d0 l0 hi
  rw [hl] at g
  obtain ⟨p, ep, lp, B⟩ := g
  rw [if_neg (by show ¬ L (D.length + k) = true; rw [hL]; decide)] at B
  obtain ⟨w', rr, hb, B'⟩ := r p ep B
  unfold wpOp
  rw [hop]
  simp only [Region.wanted, hg, if_true]
  left
  unfold Oper.wp
  rw [rr, Oper.upon_skip, hdst]
  exact h.store k i0 hi hl uq ep l0 B' hb
end

section
variable {a : Act} {w : World} {d : Option Nat} {t : TypeId} {p : String} {af : Array Edge} {g : Option (Nat × Bool)}
/-- what is told, in cells -/
abbrev tdB (h : Nat) : Array Value := #[.int .i64 (kd h), .bool (yd h), .int .i64 0, .int .i64 0, .string ⟨#[]⟩, .slice none 0 0]
abbrev zT6 : Array Value := #[.int .i64 0, .bool false, .int .i64 0, .int .i64 0, .string ⟨#[]⟩, .slice none 0 0]
theorem run_newV : (execOp a.eval ⟨d, .alloc 26, t, p, af, g⟩).run Tryz.prog w = .ok (.value (.pointer (some ⟨w.heap.size, 0, none⟩))) (w.alloc (.cells zT6 26)) := by
  generalize a.eval = E
  simp [go_sem]
/-- a test with a kind and A -/
abbrev tA (k ka : Int) (y : Bool) (c x : Int) (s : ByteArray) (l : Option Addr) (n m : Nat) : Array Value :=
  #[.int .i64 k, .int .i64 ka, .bool y, .int .i64 c, .int .i64 x, .string s, .slice l n m, .int .i64 0, .bool false, .int .i64 0, .int .i64 0, .string ⟨#[]⟩, .slice none 0 0, .bool false, .bool false, .slice none 0 0]
abbrev vA (ka : Int) (y : Bool) (c x : Int) (s : ByteArray) (l : Option Addr) (n m : Nat) : Array Value := #[.int .i64 ka, .bool y, .int .i64 c, .int .i64 x, .string s, .slice l n m]
theorem run_bldT {q : Operand} {k ka c x : Int} {y : Bool} {s : ByteArray} {l : Option Addr} {n m : Nat} (h : a.eval q = .agg (vA ka y c x s l n m)) :
    (execOp a.eval ⟨d, .build 29 #[(0, .const (.int .i64 k)), (1, q)], t, p, af, g⟩).run Tryz.prog w = .ok (.value (.agg (tA k ka y c x s l n m))) w := by
  have e1 : a.eval (.const (.int .i64 k)) = .int .i64 k := rfl
  generalize a.eval = E at h e1 ⊢
  simp [go_sem, h, e1]
theorem store_told {s q b g' : Nat} (g0 : G a s = .pointer (some ⟨b, 0, none⟩)) (g1 : G a q = told g') (B : BkA w b zT6) :
    ∃ w', (execOp a.eval ⟨none, .store 26 (.tmp s) (.tmp q), t, p, af, none⟩).run Tryz.prog w = .ok .skip w' ∧ But b w w' ∧ BkA w' b (tdB g') := by
  refine ⟨put6 w b (.int .i64 (kd g')) (.bool (yd g')) (.int .i64 0) (.int .i64 0) (.string ⟨#[]⟩) (.slice none 0 0), ?_, But.put, ?_⟩
  · have c0 := B.cell 0 _ rfl
    have c1 := B.cell 1 _ rfl
    have c2 := B.cell 2 _ rfl
    have c3 := B.cell 3 _ rfl
    have c4 := B.cell 4 _ rfl
    have c5 := B.cell 5 _ rfl
    have fr := B.free
    have e0 := eval_G g0
    have e1 := eval_G g1
    unfold told at e1
    generalize a.eval = E at e0 e1 ⊢
    simp [go_sem, e0, e1, c0, c1, c2, c3, c4, c5, fr]
  · have := (((((B.set 0 (.int .i64 (kd g')) (by simp)).set 1 (.bool (yd g')) (by simp)).set 2 (.int .i64 0) (by simp)).set 3 (.int .i64 0) (by simp)).set 4 (.string ⟨#[]⟩) (by simp)).set 5 (.slice none 0 0) (by simp)
    simpa using this
end
end Go.Proofs.YtcidbhegnnedoaaGreatDoor
