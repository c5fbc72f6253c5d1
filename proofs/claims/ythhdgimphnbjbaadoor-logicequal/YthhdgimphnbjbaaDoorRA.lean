/- A region that draws its order: what has come up, kept slot by slot. -/
import Derived.Test.YthhdgimphnbjbaaDoorQ2d
namespace Go.Proofs.YthhdgimphnbjbaaDoor
open Go.RowKit

section
variable {ops : Array Oper} {Q : Exit → Act → World → Prop} {i d : Nat} {a : Act} {w : World} {K : Act → World → Prop} {t : TypeId} {p : String} {af : Array Edge}
theorem o_val {o : Oper} {v : Value} {w' : World} (hi : ops[i]? = some o) (hd : o.dst = some d) (hw : Region.wanted o (yielded ops a.tmps) = true) (hs : d < a.tmps.size) (r : (execOp a.eval o).run Tryd.prog w = .ok (.value v) w')
    (h : ∀ a', Upd a d v a' → a'.defers = a.defers → K a' w') : wpOp Tryd.prog ops Q i K a w := by
  unfold wpOp
  rw [hi]
  simp only [hw, if_true]
  left
  unfold Oper.wp
  rw [r]
  have q : K (a.put o.dst v) w' := by rw [hd]; exact h _ (upd_put hs) rfl
  exact q
theorem o_skip {o : Oper} (hi : ops[i]? = some o) (hd : o.dst = some d) (hw : Region.wanted o (yielded ops a.tmps) = false) (hs : d < a.tmps.size)
    (h : ∀ a', Upd a d undef a' → a'.defers = a.defers → K a' w) : wpOp Tryd.prog ops Q i K a w := by
  unfold wpOp
  rw [hi]
  simp only [hw, Bool.false_eq_true, if_false]
  rw [hd]
  exact h _ (upd_put hs) rfl
theorem o_enter {o : Oper} {n : Nat} {args : Array Value} {R : Value → World → Prop} (hi : ops[i]? = some o) (hd : o.dst = some d) (hw : Region.wanted o (yielded ops a.tmps) = true) (hs : d < a.tmps.size) (r : (execOp a.eval o).run Tryd.prog w = .ok (.enter n args) w)
    (hc : Calls Tryd.prog n args w fun e w' => ∃ v, e = .returned v ∧ R v w') (h : ∀ v a' w', R v w' → Upd a d v a' → a'.defers = a.defers → K a' w') : wpOp Tryd.prog ops Q i K a w := by
  unfold wpOp
  rw [hi]
  simp only [hw, if_true]
  left
  unfold Oper.wp
  rw [r]
  refine hc.mono ?_
  rintro e w' ⟨v, rfl, hR⟩
  have q : K (a.put o.dst v) w' := by rw [hd]; exact h v _ _ hR (upd_put hs) rfl
  exact q
theorem wanted_is {ops : Array Oper} {a : Act} {o : Oper} {j dj : Nat} {b c : Bool} (h : o.guard = some (j, c)) (D : (ops[j]?).bind (·.dst) = some dj) (hs : dj < a.tmps.size) (hg : G a dj = .bool b) : Region.wanted o (yielded ops a.tmps) = (b == c) := by
  have e : a.tmps[dj]? = some (.bool b) := by
    simp only [G, Array.getD_eq_getD_getElem?] at hg
    rw [Array.getElem?_eq_getElem hs] at hg ⊢
    simpa using hg
  simp [Region.wanted, h, yielded, D, e]
end

/-- what has come up, slot by slot -/
structure RI (w0 : World) (a0 : Act) (N : Nat) (D : List Nat) (Ok : Nat → Value → World → Prop) (Un : Nat → Bool) (L : Nat → Bool) (a : Act) (w : World) : Prop where
  size : a.tmps.size = N
  defs : a.defers = []
  rest : ∀ j, (∀ i d, L i = true → D[i]? = some d → d ≠ j) → G a j = G a0 j
  got : ∀ i d, L i = true → D[i]? = some d → Ok i (G a d) w
  uniq : ∀ i j d e, L i = true → L j = true → Un i = true → Un j = true → i ≠ j → D[i]? = some d → D[j]? = some e → G a d ≠ G a e
  old : Below w0.heap.size w0 w
theorem RI.keep {w0 : World} {a0 : Act} {N : Nat} {D : List Nat} {Ok : Nat → Value → World → Prop} {Un L : Nat → Bool} {a : Act} {w : World} (h : RI w0 a0 N D Ok Un L a w) {s : Nat} (hs : s ∉ D) : G a s = G a0 s :=
  h.rest s (fun _ _ _ hd e => hs (e ▸ List.mem_of_getElem? hd))
theorem RI.start {w0 : World} {a0 : Act} {N : Nat} {D : List Nat} {Ok : Nat → Value → World → Prop} {Un : Nat → Bool} {w : World} (h1 : a0.tmps.size = N) (h2 : a0.defers = []) (h3 : Below w0.heap.size w0 w) : RI w0 a0 N D Ok Un (fun _ => false) a0 w :=
  ⟨h1, h2, fun _ _ => rfl, fun _ _ h => (by cases h), fun _ _ _ _ h => (by cases h), h3⟩
theorem RI.step {w0 : World} {a0 : Act} {N : Nat} {D : List Nat} {Ok : Nat → Value → World → Prop} {Un L : Nat → Bool} {a a' : Act} {w w' : World} (h : RI w0 a0 N D Ok Un L a w) (hD : D.Nodup) (mono : ∀ i v w w', Below w.heap.size w w' → Ok i v w → Ok i v w')
    (i : Nat) {d : Nat} {v : Value} (hi : D[i]? = some d) (U : Upd a d v a') (hd : a'.defers = a.defers) (hb : Below w.heap.size w w') (ok : Ok i v w') (un : Un i = true → ∀ j e, L j = true → Un j = true → D[j]? = some e → v ≠ G a e) : RI w0 a0 N D Ok Un (fun j => j == i || L j) a' w' := by
  have inj : ∀ j, D[j]? = some d → j = i := by
    intro j hj
    have h1 := (List.getElem?_eq_some_iff.1 hi)
    have h2 := (List.getElem?_eq_some_iff.1 hj)
    obtain ⟨l1, e1⟩ := h1
    obtain ⟨l2, e2⟩ := h2
    exact (List.getElem_inj hD).1 (e2.trans e1.symm)
  refine ⟨U.size.trans h.size, hd.trans h.defs, fun j hj => ?_, fun j e hj he => ?_, fun j k e f hj hk uj uk ne he hf => ?_, h.old.trans (hb.mono h.old.size)⟩
  · have hne : j ≠ d := fun e => hj i d (by simp) hi e.symm
    rw [U.rest j hne]
    exact h.rest j (fun i' d' hi' hd' => hj i' d' (by simp [hi']) hd')
  · by_cases e1 : j = i
    · subst e1
      rw [hi] at he
      cases he
      rw [U.got]
      exact ok
    · have hL : L j = true := by simpa [e1] using hj
      have hne : e ≠ d := fun q => e1 (inj j (q ▸ he))
      rw [U.rest e hne]
      exact mono _ _ _ _ hb (h.got j e hL he)
  · by_cases e1 : j = i
    · subst e1
      rw [hi] at he
      cases he
      have hL : L k = true := by simpa [Ne.symm ne] using hk
      have hne : f ≠ d := fun q => ne (inj k (q ▸ hf)).symm
      rw [U.got, U.rest f hne]
      exact un uj k f hL uk hf
    · have hLj : L j = true := by simpa [e1] using hj
      have hne : e ≠ d := fun q => e1 (inj j (q ▸ he))
      rw [U.rest e hne]
      by_cases e2 : k = i
      · subst e2
        rw [hi] at hf
        cases hf
        rw [U.got]
        exact fun q => un uk j e hLj uj he q.symm
      · have hLk : L k = true := by simpa [e2] using hk
        have hne2 : f ≠ d := fun q => e2 (inj k (q ▸ hf))
        rw [U.rest f hne2]
        exact h.uniq j k e f hLj hLk uj uk ne he hf
/-- a frame, slot by slot -/
theorem frame_eqs {a : Act} {N : Nat} (h : a.tmps.size = N) : a.tmps = ((List.range N).map (G a)).toArray := by
  apply Array.ext
  · simp [h]
  · intro i h1 h2
    simp [G, Array.getD_eq_getD_getElem?, Array.getElem?_eq_getElem h1]
end Go.Proofs.YthhdgimphnbjbaaDoor
