/- A region that draws its order and in which new places are made and written by calls: by a list that says what each slot holds, a place of its own having a code. -/
import Derived.Test.YtbdgngfpofohpaaDoorG06
import Derived.Test.YtbdgngfpofohpaaDoorG11
import Derived.Test.YtbdgngfpofohpaaDoorG12
namespace Go.Proofs.YtbdgngfpofohpaaDoor
open Go.RowKit

/-- the block of a pointer -/
def vb : Value → Nat
  | .pointer (some ⟨b, _, _⟩) => b
  | _ => 0
theorem vb_ptr (b o : Nat) : vb (.pointer (some ⟨b, o, none⟩)) = b := rfl
/-- one block and all words are as they were -/
structure Kept (b : Nat) (w w' : World) : Prop where
  blk : w'.heap[b]? = w.heap[b]?
  kw : KW w w'
theorem Kept.of {b : Nat} {w w' : World} (h : Below w.heap.size w w') (l : b < w.heap.size) : Kept b w w' := ⟨h.block b l, KW.of h⟩
theorem Kept.blk' {b p q : Nat} {w w' : World} (h : Blk p w w') (hz : ZA w p q) (l : b < w.heap.size) (ne : b ≠ p) : Kept b w w' := ⟨h.block b l ne, h.kw hz⟩
theorem ZA.kept {w w' : World} {b o : Nat} (h : ZA w b o) (k : Kept b w w') : ZA w' b o := by
  obtain ⟨c, t, h1, h2⟩ := h
  exact ⟨c, t, k.blk.trans h1, h2⟩
theorem IA.kept {w w' : World} {b o : Nat} {z : Int} (h : IA w b o z) (k : Kept b w w') : IA w' b o z := by
  obtain ⟨v, h1, hw⟩ := h.abs
  have key : ∀ i, w'.cell? ⟨b, i, none⟩ = w.cell? ⟨b, i, none⟩ := fun i => World.cell?_of_block (w := w) k.blk
  exact ⟨h.place.kept k, (key o).trans h.neg, v, (key (o + 1)).trans h1, hw.keep k.kw⟩

/-- what a place holds: it stays as long as its block and all words do -/
structure Pl where
  is : World → Nat → Nat → Prop
  low : ∀ {w b o}, is w b o → b < w.heap.size
  kept : ∀ {w w' b o}, is w b o → Kept b w w' → is w' b o
/-- a whole number -/
def pI (z : Int) : Pl := ⟨fun w b o => IA w b o z, fun h => h.place.low, fun h k => h.kept k⟩
/-- an empty place of cells up to q + 1 -/
def pZ (q : Nat) : Pl := ⟨fun w b o => o = 0 ∧ ZA w b q, fun h => h.2.low, fun h k => ⟨h.1, h.2.kept k⟩⟩

inductive Dn where
  | lit (v : Value)
  | ptr (m : Nat) (P : Pl)
  | new (m : Nat) (q : Nat)
  | any
def Dn.ok (B : Nat) : Dn → Value → World → Prop
  | .lit u, v, _ => v = u
  | .ptr _ P, v, w => ∃ b o, v = .pointer (some ⟨b, o, none⟩) ∧ P.is w b o
  | .new _ q, v, w => ∃ b, v = .pointer (some ⟨b, 0, none⟩) ∧ ZA w b q ∧ B ≤ b
  | .any, _, _ => True
def Dn.isLit : Dn → Value → Prop
  | .lit v, x => x = v
  | _, _ => True
def Dn.code : Dn → Option Nat
  | .lit _ => none
  | .ptr m _ => some m
  | .new m _ => some m
  | .any => none
theorem Dn.low {B : Nat} {x : Dn} {v : Value} {w : World} {m : Nat} (h : x.ok B v w) (hm : x.code = some m) : vb v < w.heap.size := by
  cases x with
  | lit u => cases hm
  | ptr m P => obtain ⟨b, o, rfl, hp⟩ := h; exact P.low hp
  | new m q => obtain ⟨b, rfl, hz, _⟩ := h; exact hz.low
  | any => cases hm
theorem Dn.keep {B : Nat} {x : Dn} {v : Value} {w w' : World} (h : x.ok B v w) (k : x.code ≠ none → Kept (vb v) w w') : x.ok B v w' := by
  cases x with
  | lit u => exact h
  | ptr m P => obtain ⟨b, o, rfl, hp⟩ := h; exact ⟨b, o, rfl, P.kept hp (k (by simp [Dn.code]))⟩
  | new m q => obtain ⟨b, rfl, hz, hb⟩ := h; exact ⟨b, rfl, hz.kept (k (by simp [Dn.code])), hb⟩
  | any => trivial
def dn (l : List Dn) (i : Nat) : Dn := (l[i]?).getD .any
def OkN (B : Nat) (g : Bool) (l : List Dn) (i : Nat) (v : Value) (w : World) : Prop := if g = true then (dn l i).isLit v else (dn l i).ok B v w

structure RP (w0 : World) (a0 : Act) (N : Nat) (D : List Nat) (gi : Nat) (Fin : World → Prop) (l : List Dn) (L : Nat → Bool) (a : Act) (w : World) : Prop where
  size : a.tmps.size = N
  defs : a.defers = []
  rest : ∀ j, (∀ i d, L i = true → D[i]? = some d → d ≠ j) → G a j = G a0 j
  got : ∀ i d, L i = true → D[i]? = some d → OkN w0.heap.size (L gi) l i (G a d) w
  sep : L gi = false → ∀ i j d e m n, L i = true → L j = true → D[i]? = some d → D[j]? = some e → (dn l i).code = some m → (dn l j).code = some n → m ≠ n → vb (G a d) ≠ vb (G a e) ∨ vb (G a d) < w0.heap.size
  old : L gi = false → Below w0.heap.size w0 w
  fin : L gi = true → Fin w
  nogi : D.length ≤ gi → L gi = false
section
variable {w0 w w' : World} {a0 a a' : Act} {N gi : Nat} {D : List Nat} {Fin : World → Prop} {l : List Dn} {L : Nat → Bool} {ops : Array Oper} {Q : Exit → Act → World → Prop} {i d : Nat} {o : Oper}
theorem RP.keep (h : RP w0 a0 N D gi Fin l L a w) {s : Nat} (hs : s ∉ D) : G a s = G a0 s :=
  h.rest s (fun _ _ _ hd e => hs (e ▸ List.mem_of_getElem? hd))
theorem RP.start (h1 : a0.tmps.size = N) (h2 : a0.defers = []) (h3 : Below w0.heap.size w0 w) : RP w0 a0 N D gi Fin l (fun _ => false) a0 w :=
  ⟨h1, h2, fun _ _ => rfl, fun _ _ h => (by cases h), fun _ _ _ _ _ _ _ h => (by cases h), fun _ => h3, fun h => (by cases h), fun _ => rfl⟩
theorem RP.lit (h : RP w0 a0 N D gi Fin l L a w) (hL : L i = true) (hD : D[i]? = some d) {u : Value} (hl : dn l i = .lit u) : G a d = u := by
  have g := h.got i d hL hD
  unfold OkN at g
  split at g
  · rw [hl] at g; exact g
  · rw [hl] at g; exact g
theorem RP.ptr (h : RP w0 a0 N D gi Fin l L a w) (hg : L gi = false) (hL : L i = true) (hD : D[i]? = some d) {m : Nat} {P : Pl} (hl : dn l i = .ptr m P) : ∃ b o, G a d = .pointer (some ⟨b, o, none⟩) ∧ P.is w b o := by
  have g := h.got i d hL hD
  unfold OkN at g
  rw [hg, hl] at g
  exact g
theorem RP.new (h : RP w0 a0 N D gi Fin l L a w) (hg : L gi = false) (hL : L i = true) (hD : D[i]? = some d) {m q : Nat} (hl : dn l i = .new m q) : ∃ b, G a d = .pointer (some ⟨b, 0, none⟩) ∧ ZA w b q ∧ w0.heap.size ≤ b := by
  have g := h.got i d hL hD
  unfold OkN at g
  rw [hg, hl] at g
  exact g
/-- any step but the last one: what the others hold is kept, the new one is apart -/
theorem RP.step (h : RP w0 a0 N D gi Fin l L a w) (nd : D.Nodup) (i : Nat) {d : Nat} {v : Value} (hi : D[i]? = some d) (ne : gi ≠ i) (U : Upd a d v a') (hd : a'.defers = a.defers)
    (hw : w' = w ∨ (L gi = false ∧ Below w0.heap.size w0 w' ∧ ∀ j e, L j = true → j ≠ i → D[j]? = some e → (dn l j).ok w0.heap.size (G a e) w'))
    (ok : OkN w0.heap.size (L gi) l i v w')
    (hs : L gi = false → ∀ j e m n, L j = true → j ≠ i → D[j]? = some e → (dn l i).code = some m → (dn l j).code = some n → m ≠ n → (vb v ≠ vb (G a e) ∨ vb v < w0.heap.size) ∧ (vb (G a e) ≠ vb v ∨ vb (G a e) < w0.heap.size)) :
    RP w0 a0 N D gi Fin l (fun j => j == i || L j) a' w' := by
  have eg : (gi == i || L gi) = L gi := by simp [ne]
  have oth : ∀ j e, (j == i || L j) = true → D[j]? = some e → j ≠ i → L j = true ∧ G a' e = G a e := fun j e hj he e1 => by
    have hL : L j = true := by simpa [e1] using hj
    have hne : e ≠ d := fun q => e1 (nodup_at nd hi (q ▸ he))
    exact ⟨hL, U.rest e hne⟩
  refine ⟨U.size.trans h.size, hd.trans h.defs, fun j hj => ?_, fun j e hj he => ?_, fun hg j k e f m n hj hk he hf hm hn hmn => ?_, fun hg => ?_, fun hg => ?_, fun hg => ?_⟩
  · have hne : j ≠ d := fun e => hj i d (by simp) hi e.symm
    rw [U.rest j hne]
    exact h.rest j (fun i' d' hi' hd' => hj i' d' (by simp [hi']) hd')
  · show OkN w0.heap.size (gi == i || L gi) l j (G a' e) w'
    rw [eg]
    by_cases e1 : j = i
    · subst e1
      rw [hi] at he
      cases he
      rw [U.got]
      exact ok
    · obtain ⟨hL, hG⟩ := oth j e hj he e1
      rw [hG]
      rcases hw with rfl | ⟨hg, _, hk⟩
      · exact h.got j e hL he
      · unfold OkN
        rw [hg]
        exact hk j e hL e1 he
  · have hg' : L gi = false := by rw [← eg]; exact hg
    by_cases e1 : j = i
    · subst e1
      rw [hi] at he
      cases he
      by_cases e2 : k = j
      · subst e2
        rw [hm] at hn
        cases hn
        exact absurd rfl hmn
      · obtain ⟨hL, hG⟩ := oth k f hk hf e2
        rw [U.got, hG]
        exact (hs hg' k f m n hL e2 hf hm hn hmn).1
    · obtain ⟨hL1, hG1⟩ := oth j e hj he e1
      by_cases e2 : k = i
      · subst e2
        rw [hi] at hf
        cases hf
        rw [U.got, hG1]
        exact (hs hg' j e n m hL1 e1 he hn hm (Ne.symm hmn)).2
      · obtain ⟨hL2, hG2⟩ := oth k f hk hf e2
        rw [hG1, hG2]
        exact h.sep hg' j k e f m n hL1 hL2 he hf hm hn hmn
  · have hg' : L gi = false := by rw [← eg]; exact hg
    rcases hw with rfl | ⟨_, hb, _⟩
    · exact h.old hg'
    · exact hb
  · have hg' : L gi = true := by rw [← eg]; exact hg
    rcases hw with rfl | ⟨hq, _⟩
    · exact h.fin hg'
    · rw [hg'] at hq; cases hq
  · show (gi == i || L gi) = false
    rw [eg]
    exact h.nogi hg
theorem RP.last (h : RP w0 a0 N D gi Fin l L a w) (nd : D.Nodup) {d : Nat} {v : Value} (hi : D[gi]? = some d) (hg : L gi = false) (U : Upd a d v a') (hd : a'.defers = a.defers) (ok : (dn l gi).isLit v) (fin : Fin w') :
    RP w0 a0 N D gi Fin l (fun j => j == gi || L j) a' w' := by
  have eg : (gi == gi || L gi) = true := by simp
  refine ⟨U.size.trans h.size, hd.trans h.defs, fun j hj => ?_, fun j e hj he => ?_, fun hq => (by simp at hq), fun hq => (by simp at hq), fun _ => fin, fun hq => ?_⟩
  · have hne : j ≠ d := fun e => hj gi d (by simp) hi e.symm
    rw [U.rest j hne]
    exact h.rest j (fun i' d' hi' hd' => hj i' d' (by simp [hi']) hd')
  · show OkN w0.heap.size (gi == gi || L gi) l j (G a' e) w'
    rw [eg]
    unfold OkN
    rw [if_pos rfl]
    by_cases e1 : j = gi
    · subst e1
      rw [hi] at he
      cases he
      rw [U.got]
      exact ok
    · have hL : L j = true := by simpa [e1] using hj
      have hne : e ≠ d := fun q => e1 (nodup_at nd hi (q ▸ he))
      rw [U.rest e hne]
      have g := h.got j e hL he
      unfold OkN at g
      rw [hg] at g
      generalize dn l j = x at g ⊢
      cases x with
      | lit u => exact g
      | ptr m P => trivial
      | new m q => trivial
      | any => trivial
  · exact absurd hq (by have := (List.getElem?_eq_some_iff.1 hi).1; omega)

theorem below_step (h : Below w0.heap.size w0 w) (hb : Below w.heap.size w w') : Below w0.heap.size w0 w' := h.trans (hb.mono h.size)
/-- a known value, nothing written but new memory -/
theorem rp_val (h : RP w0 a0 N D gi Fin l L a w) (nd : D.Nodup) (hi : ops[i]? = some o) (hd : o.dst = some d) (hDi : D[i]? = some d) (hN : d < N) (ne : gi ≠ i) (hw : Region.wanted o (yielded ops a.tmps) = true) {v : Value} (r : (execOp a.eval o).run Tryd.prog w = .ok (.value v) w) (hl : dn l i = .lit v) :
    wpOp Tryd.prog ops Q i (fun a' w' => RP w0 a0 N D gi Fin l (fun j => j == i || L j) a' w') a w :=
  o_val hi hd hw (by rw [h.size]; exact hN) r fun _ U hf => h.step nd i hDi ne U hf (.inl rfl) (by unfold OkN; rw [hl]; split <;> exact rfl) (fun _ _ _ m n _ _ _ hm => by rw [hl] at hm; cases hm)
/-- a pointer is told again -/
theorem rp_copy (h : RP w0 a0 N D gi Fin l L a w) (nd : D.Nodup) (hi : ops[i]? = some o) (hd : o.dst = some d) (hDi : D[i]? = some d) (hN : d < N) (ne : gi ≠ i) (hg : L gi = false) (hw : Region.wanted o (yielded ops a.tmps) = true) {j e : Nat} (hLj : L j = true) (hDj : D[j]? = some e) (r : (execOp a.eval o).run Tryd.prog w = .ok (.value (G a e)) w) (hl : dn l i = dn l j) :
    wpOp Tryd.prog ops Q i (fun a' w' => RP w0 a0 N D gi Fin l (fun j => j == i || L j) a' w') a w :=
  o_val hi hd hw (by rw [h.size]; exact hN) r fun _ U hf => h.step nd i hDi ne U hf (.inl rfl) (by
    have := h.got j e hLj hDj
    unfold OkN at this ⊢
    rw [hl]; exact this) (fun _ k f m n hk _ hf hm hn hmn => by
    rw [hl] at hm
    exact ⟨h.sep hg j k e f m n hLj hk hDj hf hm hn hmn, h.sep hg k j f e n m hk hLj hf hDj hn hm (Ne.symm hmn)⟩)
theorem RP.apart (h : RP w0 a0 N D gi Fin l L a w) (hg : L gi = false) {v : Value} (hv : vb v < w0.heap.size ∨ w.heap.size ≤ vb v) {j e n : Nat} (hj : L j = true) (he : D[j]? = some e) (hn : (dn l j).code = some n) :
    (vb v ≠ vb (G a e) ∨ vb v < w0.heap.size) ∧ (vb (G a e) ≠ vb v ∨ vb (G a e) < w0.heap.size) := by
  have g := h.got j e hj he
  unfold OkN at g
  rw [hg] at g
  have := Dn.low g hn
  omega
/-- a call that writes nothing old: what comes of it is a known value -/
theorem rp_read (h : RP w0 a0 N D gi Fin l L a w) (nd : D.Nodup) (hi : ops[i]? = some o) (hd : o.dst = some d) (hDi : D[i]? = some d) (hN : d < N) (ne : gi ≠ i) (hg : L gi = false) (hw : Region.wanted o (yielded ops a.tmps) = true) {n : Nat} {args : Array Value} (r : (execOp a.eval o).run Tryd.prog w = .ok (.enter n args) w)
    {u : Value} (hc : Calls Tryd.prog n args w fun e w' => e = .returned u ∧ Below w.heap.size w w') (hl : dn l i = .lit u) :
    wpOp Tryd.prog ops Q i (fun a' w' => RP w0 a0 N D gi Fin l (fun j => j == i || L j) a' w') a w :=
  o_enter (R := fun v w' => v = u ∧ Below w.heap.size w w') hi hd hw (by rw [h.size]; exact hN) r (hc.mono fun _ _ q => ⟨_, q.1, rfl, q.2⟩) fun v _ w' hR U hf => h.step nd i hDi ne U hf (.inr ⟨hg, below_step (h.old hg) hR.2, fun j e hj _ he => by
    have g := h.got j e hj he
    unfold OkN at g
    rw [hg] at g
    refine Dn.keep g fun hc => ?_
    obtain ⟨m, hm⟩ := Option.ne_none_iff_exists'.1 hc
    exact Kept.of hR.2 (Dn.low g hm)⟩) (by unfold OkN; rw [hl, hR.1]; split <;> exact rfl) (fun _ _ _ m n _ _ _ hm => by rw [hl] at hm; cases hm)
/-- a call that writes nothing old: what comes of it is a place, old or new -/
theorem rp_make (h : RP w0 a0 N D gi Fin l L a w) (nd : D.Nodup) (hi : ops[i]? = some o) (hd : o.dst = some d) (hDi : D[i]? = some d) (hN : d < N) (ne : gi ≠ i) (hg : L gi = false) (hw : Region.wanted o (yielded ops a.tmps) = true) {n : Nat} {args : Array Value} (r : (execOp a.eval o).run Tryd.prog w = .ok (.enter n args) w)
    {m : Nat} {P : Pl} (hc : Calls Tryd.prog n args w fun e w' => ∃ b o, e = .returned (.pointer (some ⟨b, o, none⟩)) ∧ P.is w' b o ∧ (b < w0.heap.size ∨ w.heap.size ≤ b) ∧ Below w.heap.size w w') (hl : dn l i = .ptr m P) :
    wpOp Tryd.prog ops Q i (fun a' w' => RP w0 a0 N D gi Fin l (fun j => j == i || L j) a' w') a w :=
  o_enter (R := fun v w' => ∃ b o, v = .pointer (some ⟨b, o, none⟩) ∧ P.is w' b o ∧ (b < w0.heap.size ∨ w.heap.size ≤ b) ∧ Below w.heap.size w w') hi hd hw (by rw [h.size]; exact hN) r (hc.mono fun _ _ q => by
    obtain ⟨b, o, rfl, q⟩ := q
    exact ⟨_, rfl, b, o, rfl, q⟩) fun v _ w' hR U hf => by
    obtain ⟨b, o', rfl, hP, hb, hB⟩ := hR
    exact h.step nd i hDi ne U hf (.inr ⟨hg, below_step (h.old hg) hB, fun j e hj _ he => by
      have g := h.got j e hj he
      unfold OkN at g
      rw [hg] at g
      refine Dn.keep g fun hc => ?_
      obtain ⟨m, hm⟩ := Option.ne_none_iff_exists'.1 hc
      exact Kept.of hB (Dn.low g hm)⟩) (by unfold OkN; rw [hl, hg]; exact ⟨b, o', rfl, hP⟩) (fun _ j e m n hj _ he _ hn _ => h.apart hg (v := .pointer (some ⟨b, o', none⟩)) hb hj he hn)
/-- a new place -/
theorem rp_new (h : RP w0 a0 N D gi Fin l L a w) (nd : D.Nodup) (hi : ops[i]? = some o) (hd : o.dst = some d) (hDi : D[i]? = some d) (hN : d < N) (ne : gi ≠ i) (hg : L gi = false) (hw : Region.wanted o (yielded ops a.tmps) = true) {blk : Obj} (r : (execOp a.eval o).run Tryd.prog w = .ok (.value (.pointer (some ⟨w.heap.size, 0, none⟩))) (w.alloc blk))
    {m q : Nat} (hz : ∀ w : World, ZA (w.alloc blk) w.heap.size q) (hl : dn l i = .new m q) :
    wpOp Tryd.prog ops Q i (fun a' w' => RP w0 a0 N D gi Fin l (fun j => j == i || L j) a' w') a w :=
  o_val hi hd hw (by rw [h.size]; exact hN) r fun _ U hf => by
    have hB := below_new w blk
    exact h.step nd i hDi ne U hf (.inr ⟨hg, below_step (h.old hg) hB, fun j e hj _ he => by
      have g := h.got j e hj he
      unfold OkN at g
      rw [hg] at g
      refine Dn.keep g fun hc => ?_
      obtain ⟨m, hm⟩ := Option.ne_none_iff_exists'.1 hc
      exact Kept.of hB (Dn.low g hm)⟩) (by unfold OkN; rw [hl, hg]; exact ⟨w.heap.size, rfl, hz w, (h.old hg).size⟩) (fun _ j e m n hj _ he _ hn _ => h.apart hg (v := .pointer (some ⟨w.heap.size, 0, none⟩)) (.inr (Nat.le_refl _)) hj he hn)
/-- a call that writes a new place, and tells it -/
theorem rp_put (h : RP w0 a0 N D gi Fin l L a w) (nd : D.Nodup) (hi : ops[i]? = some o) (hd : o.dst = some d) (hDi : D[i]? = some d) (hN : d < N) (ne : gi ≠ i) (hg : L gi = false) (hw : Region.wanted o (yielded ops a.tmps) = true) {n : Nat} {args : Array Value} (r : (execOp a.eval o).run Tryd.prog w = .ok (.enter n args) w)
    {j e b m q : Nat} {P : Pl} (hLj : L j = true) (hDj : D[j]? = some e) (hj : dn l j = .new m q) (hb : G a e = .pointer (some ⟨b, 0, none⟩))
    (hc : Calls Tryd.prog n args w fun e w' => e = .returned (.pointer (some ⟨b, 0, none⟩)) ∧ P.is w' b 0 ∧ Blk b w w') (hl : dn l i = .ptr m P)
    (al : ∀ k, L k = true → (dn l k).code = some m → dn l k = .new m q) :
    wpOp Tryd.prog ops Q i (fun a' w' => RP w0 a0 N D gi Fin l (fun j => j == i || L j) a' w') a w :=
  o_enter (R := fun v w' => v = .pointer (some ⟨b, 0, none⟩) ∧ P.is w' b 0 ∧ Blk b w w') hi hd hw (by rw [h.size]; exact hN) r (hc.mono fun _ _ q => ⟨_, q.1, rfl, q.2⟩) fun v _ w' hR U hf => by
    obtain ⟨rfl, hP, hB⟩ := hR
    obtain ⟨b', hb', hz, hlow⟩ := h.new hg hLj hDj hj
    rw [hb] at hb'
    cases hb'
    have hcj : (dn l j).code = some m := by rw [hj]; rfl
    refine h.step nd i hDi ne U hf (.inr ⟨hg, (h.old hg).trans (hB.below hlow (h.old hg).size), fun k f hk _ hf => ?_⟩) (by unfold OkN; rw [hl, hg]; exact ⟨b, 0, rfl, hP⟩) (fun _ k f m' n hk _ hf hm hn hmn => ?_)
    · have g := h.got k f hk hf
      unfold OkN at g
      rw [hg] at g
      by_cases hkm : (dn l k).code = some m
      · have hk2 := al k hk hkm
        obtain ⟨b2, e2, hz2, hlow2⟩ := h.new hg hk hf hk2
        rw [hk2]
        exact ⟨b2, e2, hz2.blk hB, hlow2⟩
      · refine Dn.keep g fun hc => ?_
        obtain ⟨m2, hm2⟩ := Option.ne_none_iff_exists'.1 hc
        have hne : m2 ≠ m := fun q => hkm (q ▸ hm2)
        have hs := h.sep hg k j f e m2 m hk hLj hf hDj hm2 hcj hne
        rw [hb, vb_ptr] at hs
        exact Kept.blk' hB hz (Dn.low g hm2) (by omega)
    · rw [hl] at hm
      cases hm
      have s1 := h.sep hg j k e f m n hLj hk hDj hf hcj hn hmn
      have s2 := h.sep hg k j f e n m hk hLj hf hDj hn hcj (Ne.symm hmn)
      rw [hb] at s1 s2
      exact ⟨s1, s2⟩
def Dn.isNew (m q : Nat) : Dn → Bool
  | .new m' q' => m' == m && q' == q
  | _ => false
/-- which slots have a code, told by a list -/
theorem al_of {m q : Nat} {bad : List Nat} (chk : (List.range l.length).all (fun k => (dn l k).code != some m || (dn l k).isNew m q || bad.contains k) = true) (hb : ∀ k ∈ bad, L k = false) : ∀ k, L k = true → (dn l k).code = some m → dn l k = .new m q := fun k hk hm => by
  by_cases hlt : k < l.length
  · have := List.all_eq_true.1 chk k (List.mem_range.2 hlt)
    simp only [Bool.or_eq_true, bne_iff_ne, ne_eq, hm, not_true_eq_false, false_or] at this
    rcases this with h | h
    · generalize dn l k = x at h ⊢
      cases x with
      | new m' q' => simp [Dn.isNew] at h; rw [h.1, h.2]
      | lit u => cases h
      | ptr m P => cases h
      | any => cases h
    · rw [hb k (by simpa using h)] at hk
      cases hk
  · unfold dn at hm
    rw [List.getElem?_eq_none (by omega)] at hm
    cases hm
theorem rp_last (h : RP w0 a0 N D gi Fin l L a w) (nd : D.Nodup) (hi : ops[gi]? = some o) (hd : o.dst = some d) (hDi : D[gi]? = some d) (hN : d < N) (hg : L gi = false) (hw : Region.wanted o (yielded ops a.tmps) = true) {n : Nat} {args : Array Value} (r : (execOp a.eval o).run Tryd.prog w = .ok (.enter n args) w)
    {u : Value} (hc : Calls Tryd.prog n args w fun e w' => e = .returned u ∧ Fin w') (hl : dn l gi = .lit u) :
    wpOp Tryd.prog ops Q gi (fun a' w' => RP w0 a0 N D gi Fin l (fun j => j == gi || L j) a' w') a w :=
  o_enter (R := fun v w' => v = u ∧ Fin w') hi hd hw (by rw [h.size]; exact hN) r (hc.mono fun _ _ q => ⟨_, q.1, rfl, q.2⟩) fun v _ w' hR U hf => h.last nd hDi hg U hf (by rw [hl]; exact hR.1) hR.2
end

section
variable {a : Act} {w : World} {d : Option Nat} {t : TypeId} {p : String} {af : Array Edge} {g : Option (Nat × Bool)}
theorem run_fldA {x : Operand} {b : Nat} (h : a.eval x = .pointer (some ⟨b, 0, none⟩)) : (execOp a.eval ⟨d, .fieldAddr 83 x 0, t, p, af, g⟩).run Tryd.prog w = .ok (.value (.pointer (some ⟨b, 0, none⟩))) w := by
  generalize a.eval = E at h ⊢
  simp [go_sem, h]
theorem run_newI : (execOp a.eval ⟨d, .alloc 81, t, p, af, g⟩).run Tryd.prog w = .ok (.value (.pointer (some ⟨w.heap.size, 0, none⟩))) (w.alloc (.cells #[.bool false, .slice none 0 0] 81)) := by
  generalize a.eval = E
  simp [go_sem]
theorem run_newR : (execOp a.eval ⟨d, .alloc 83, t, p, af, g⟩).run Tryd.prog w = .ok (.value (.pointer (some ⟨w.heap.size, 0, none⟩))) (w.alloc (.cells #[.bool false, .slice none 0 0, .bool false, .slice none 0 0] 83)) := by
  generalize a.eval = E
  simp [go_sem]
theorem run_fldB {x : Operand} {b : Nat} (h : a.eval x = .pointer (some ⟨b, 0, none⟩)) : (execOp a.eval ⟨d, .fieldAddr 83 x 1, t, p, af, g⟩).run Tryd.prog w = .ok (.value (.pointer (some ⟨b, 2, none⟩))) w := by
  generalize a.eval = E at h ⊢
  simp [go_sem, h]
end
end Go.Proofs.YtbdgngfpofohpaaDoor

/- Ratios as such: what is N over D; den of any. -/
namespace Go.Proofs.YtbdgngfpofohpaaDoor
open Go.RowKit

/-- how many words a whole number has -/
def Ln (x : Int) : Nat := (Bg.wd x.natAbs).length
theorem Ln_mono {x y : Int} (h : x.natAbs ≤ y.natAbs) : Ln x ≤ Ln y := Bg.wd_mono h
theorem Ln_lt (x : Int) : x.natAbs < 4294967296 ^ Ln x := Bg.wd_lt _
theorem Ln_le {x : Int} {k : Nat} (h : x.natAbs < 4294967296 ^ k) : Ln x ≤ k := Bg.wd_len_le _ _ h
theorem Ln_mul (x y : Int) : Ln (x * y) ≤ Ln x + Ln y := by
  apply Ln_le
  rw [Int.natAbs_mul, Nat.pow_add]
  exact Nat.mul_lt_mul'' (Ln_lt x) (Ln_lt y)
theorem Ln_add (x y : Int) : Ln (x + y) ≤ Ln x + Ln y + 1 := by
  apply Ln_le
  have h1 := Ln_lt x
  have h2 := Ln_lt y
  have h3 := Int.natAbs_add_le x y
  have h4 : 4294967296 ^ Ln x ≤ 4294967296 ^ (Ln x + Ln y) := Nat.pow_le_pow_right (by omega) (by omega)
  have h5 : 4294967296 ^ Ln y ≤ 4294967296 ^ (Ln x + Ln y) := Nat.pow_le_pow_right (by omega) (by omega)
  rw [Nat.pow_succ]
  omega
theorem Ln_neg (x : Int) : Ln (-x) = Ln x := by unfold Ln; rw [Int.natAbs_neg]
theorem Ln_small {x : Int} (h : x.natAbs < 18446744073709551616) : Ln x ≤ 2 := Ln_le (by omega)

/-- n over d: the lower part may lack where it is 1 -/
structure RQ (w : World) (p : Nat) (n d : Int) : Prop where
  num : IA w p 0 n
  den : IA w p 2 d ∨ (IA w p 2 0 ∧ d = 1)
  pos : 0 < d
theorem RA.q {w : World} {p : Nat} {n d : Int} (h : RA w p n d) : RQ w p n d := ⟨h.num, .inl h.den, h.pos⟩
theorem RQ.place {w : World} {p : Nat} {n d : Int} (h : RQ w p n d) : ZA w p 2 := by
  rcases h.den with h | ⟨h, _⟩
  · exact h.place
  · exact h.place
theorem RQ.kept {w w' : World} {p : Nat} {n d : Int} (h : RQ w p n d) (k : Kept p w w') : RQ w' p n d :=
  ⟨h.num.kept k, h.den.elim (fun h => .inl (h.kept k)) (fun h => .inr ⟨h.1.kept k, h.2⟩), h.pos⟩
theorem RQ.below {w w' : World} {p : Nat} {n d : Int} (h : RQ w p n d) (hb : Below w.heap.size w w') : RQ w' p n d := h.kept (Kept.of hb h.place.low)

set_option maxHeartbeats 1000000 in
theorem den_q (p : Nat) (n d : Int) (w : World) (h : RQ w p n d) :
    Calls Tryd.prog 61 #[.pointer (some ⟨p, 0, none⟩)] w fun e w' => ∃ b o, e = .returned (.pointer (some ⟨b, o, none⟩)) ∧ IA w' b o d ∧ ((b = p ∧ o = 2) ∨ w.heap.size ≤ b) ∧ Below w.heap.size w w' := by
  rcases h.den with hd | ⟨hd, rfl⟩
  · refine (den_any p n d w ⟨h.num, hd, h.pos⟩).mono ?_
    rintro e w' ⟨rfl, rfl⟩
    exact ⟨p, 2, rfl, hd, .inl ⟨rfl, rfl⟩, Below.refl _ _⟩
  · obtain ⟨v, x1, x2⟩ := hd.abs
    obtain ⟨q, c, rfl, -⟩ := id x2
    have e0 : (Bg.wd (0 : Int).natAbs).length = 0 := by simp [Bg.wd_zero]
    rw [e0] at x1
    have NI := hide (newInt_any 1 w (by omega) (by omega))
    clear x2 h hd
    go_enter Tryd.func61, Tryd.ntmps61
    go_wp2_with fail
    refine (unhide NI).mono ?_
    rintro e w1 ⟨rfl, h1, hb⟩
    have H1 := hide h1
    have HB := hide hb
    clear h1 hb
    go_wp2
    go_ret
    exact ⟨_, 0, rfl, unhide H1, .inr (Nat.le_refl _), unhide HB⟩

/-- the ratio N over D, D not 0 -/
def RV (w : World) (p : Nat) (N D : Int) : Prop := ∃ n d, RQ w p n d ∧ n * D = N * d ∧ d.natAbs ≤ D.natAbs
theorem RV.place {w : World} {p : Nat} {N D : Int} (h : RV w p N D) : ZA w p 2 := by
  obtain ⟨n, d, h, _⟩ := h
  exact h.place
theorem RV.kept {w w' : World} {p : Nat} {N D : Int} (h : RV w p N D) (k : Kept p w w') : RV w' p N D := by
  obtain ⟨n, d, h, h2⟩ := h
  exact ⟨n, d, h.kept k, h2⟩
theorem RV.below {w w' : World} {p : Nat} {N D : Int} (h : RV w p N D) (hb : Below w.heap.size w w') : RV w' p N D := h.kept (Kept.of hb h.place.low)
theorem ratio_le {n d N D : Int} (hD : D ≠ 0) (e : n * D = N * d) (hd : d.natAbs ≤ D.natAbs) : n.natAbs ≤ N.natAbs := by
  have h : n.natAbs * D.natAbs = N.natAbs * d.natAbs := by rw [← Int.natAbs_mul, ← Int.natAbs_mul, e]
  have h2 : n.natAbs * D.natAbs ≤ N.natAbs * D.natAbs := by rw [h]; exact Nat.mul_le_mul_left _ hd
  exact Nat.le_of_mul_le_mul_right h2 (by omega)
/-- from what stands there to what it is -/
theorem RV.via {w : World} {p : Nat} {n d N D : Int} (h : RV w p n d) (hd : d ≠ 0) (e : n * D = N * d) (l : d.natAbs ≤ D.natAbs) : RV w p N D := by
  obtain ⟨n', d', h', e', l'⟩ := h
  exact ⟨n', d', h', ratio_via hd e' e, by omega⟩
/-- a ratio in its place -/
def pR (N D : Int) : Pl := ⟨fun w b o => o = 0 ∧ RV w b N D, fun h => h.2.place.low, fun h k => ⟨h.1, h.2.kept k⟩⟩
theorem ZA.up {w : World} {b o o2 : Nat} (h : ZA w b o) (l : o2 ≤ o) : ZA w b o2 := by
  obtain ⟨c, t, h1, h2, h3⟩ := h
  exact ⟨c, t, h1, h2, by omega⟩
end Go.Proofs.YtbdgngfpofohpaaDoor

/- Walks: SetFrac. -/
namespace Go.Proofs.YtbdgngfpofohpaaDoor
open Go.RowKit

theorem two_laid {w : World} {p : Nat} {A B : Int} {x y : Value} (hz : ZA w p 2) (hx : WS w x (Bg.wd A.natAbs)) (hy : WS w y (Bg.wd B.natAbs)) :
    IA ((((w.setCell ⟨p, 0, none⟩ (.bool (decide (A < 0)))).setCell ⟨p, 1, none⟩ x).setCell ⟨p, 2, none⟩ (.bool (decide (B < 0)))).setCell ⟨p, 3, none⟩ y) p 0 A ∧
    IA ((((w.setCell ⟨p, 0, none⟩ (.bool (decide (A < 0)))).setCell ⟨p, 1, none⟩ x).setCell ⟨p, 2, none⟩ (.bool (decide (B < 0)))).setCell ⟨p, 3, none⟩ y) p 2 B ∧
    Blk p w ((((w.setCell ⟨p, 0, none⟩ (.bool (decide (A < 0)))).setCell ⟨p, 1, none⟩ x).setCell ⟨p, 2, none⟩ (.bool (decide (B < 0)))).setCell ⟨p, 3, none⟩ y) := by
  have O1 : Out p 0 w (w.setCell ⟨p, 0, none⟩ (.bool (decide (A < 0)))) := Out.set (.inl rfl)
  have O2 : Out p 0 (w.setCell ⟨p, 0, none⟩ (.bool (decide (A < 0)))) ((w.setCell ⟨p, 0, none⟩ (.bool (decide (A < 0)))).setCell ⟨p, 1, none⟩ x) := Out.set (.inr rfl)
  have O3 : Out p 2 ((w.setCell ⟨p, 0, none⟩ (.bool (decide (A < 0)))).setCell ⟨p, 1, none⟩ x) (((w.setCell ⟨p, 0, none⟩ (.bool (decide (A < 0)))).setCell ⟨p, 1, none⟩ x).setCell ⟨p, 2, none⟩ (.bool (decide (B < 0)))) := Out.set (.inl rfl)
  have O4 : Out p 2 (((w.setCell ⟨p, 0, none⟩ (.bool (decide (A < 0)))).setCell ⟨p, 1, none⟩ x).setCell ⟨p, 2, none⟩ (.bool (decide (B < 0)))) ((((w.setCell ⟨p, 0, none⟩ (.bool (decide (A < 0)))).setCell ⟨p, 1, none⟩ x).setCell ⟨p, 2, none⟩ (.bool (decide (B < 0)))).setCell ⟨p, 3, none⟩ y) := Out.set (.inr rfl)
  obtain ⟨⟨v2, c2⟩, v3, c3⟩ := hz.cell
  obtain ⟨⟨v0, c0⟩, v1, c1⟩ := (hz.up (show 0 ≤ 2 by omega)).cell
  have K := ((O1.blk.trans O2.blk).trans O3.blk).trans O4.blk
  have kw := K.kw hz
  refine ⟨⟨(hz.up (show 0 ≤ 2 by omega)).blk K, ?_, x, ?_, hx.keep kw⟩, ⟨hz.blk K, ?_, y, ?_, hy.keep kw⟩, K⟩
  · simp [go_sem, c0]
  · simp [go_sem, c1]
  · simp [go_sem, c2]
  · simp [go_sem, c3]

set_option maxRecDepth 100000 in
set_option maxHeartbeats 4000000 in
theorem setFrac_any (p ba oa bb ob : Nat) (A B : Int) (w : World) (hz : ZA w p 2) (ha : IA w ba oa A) (hb : IA w bb ob B) (b0 : B ≠ 0) (la : Ln A ≤ 90000) (lb : Ln B ≤ 90000) :
    Calls Tryd.prog 56 #[.pointer (some ⟨p, 0, none⟩), .pointer (some ⟨ba, oa, none⟩), .pointer (some ⟨bb, ob, none⟩)] w fun e w' => e = .returned (.pointer (some ⟨p, 0, none⟩)) ∧ RV w' p A B ∧ Blk p w w' := by
  obtain ⟨v, x1, x2⟩ := hb.abs
  obtain ⟨q, c, rfl, -⟩ := id x2
  have hl := wd_pos_len (n := B.natAbs) (by omega)
  have g1 : (((Bg.wd B.natAbs).length : Int) == 0) = false := by rw [beq_eq_false_iff_ne]; omega
  have N := below_new w (.cells #[.bool false, .slice none 0 0] 81)
  have lz := hz.low
  have lba := ha.place.low
  have lbb := hb.place.low
  have S1 := hide (iset_any w.heap.size 0 ba oa A _ (ZA.new w) (ha.below N) (by unfold Ln at la; omega))
  have HN := hide N
  have HZ := hide hz
  have HB := hide hb
  clear x2 N hz ha hb
  go_enter Tryd.func56, Tryd.ntmps56
  go_wp2_with fail
  refine (unhide S1).mono ?_
  rintro e w1 ⟨rfl, hi1, ho1⟩
  have B1 : Below w.heap.size w w1 := (unhide HN).trans (ho1.below (Nat.le_refl _) (by simp))
  have N1 := below_new w1 (.cells #[.bool false, .slice none 0 0] 81)
  have s1 := B1.size
  have S2 := hide (iset_any w1.heap.size 0 bb ob B _ (ZA.new w1) (((unhide HB).below B1).below N1) (by unfold Ln at lb; omega))
  have HI1 := hide (hi1.below N1)
  have li1 := hi1.place.low
  have HB1 := hide (B1.trans (N1.mono s1))
  clear hi1 ho1 B1 N1 S1 HN
  go_wp2_with fail
  refine (unhide S2).mono ?_
  rintro e w2 ⟨rfl, hi2, ho2⟩
  have B2 : Below w.heap.size w w2 := (unhide HB1).trans (ho2.below (by omega) (by simp; omega))
  have j1 := (unhide HI1).out ho2 (ZA.new w1) (.inl (by omega))
  obtain ⟨va, ca1, va2⟩ := j1.abs
  obtain ⟨vb, cb1, vb2⟩ := hi2.abs
  obtain ⟨pa, ka, rfl, -⟩ := id va2
  obtain ⟨pb, kb, rfl, -⟩ := id vb2
  have ca0 := j1.neg
  have cb0 := hi2.neg
  have z2 := (unhide HZ).below B2
  have f0 := z2.frozen 0
  have f1 := z2.frozen 1
  have f2 := z2.frozen 2
  have f3 := z2.frozen 3
  obtain ⟨⟨v2, c2⟩, v3, c3⟩ := z2.cell
  obtain ⟨⟨v0, c0⟩, v1, c1⟩ := (z2.up (show 0 ≤ 2 by omega)).cell
  have ne1 : w1.heap.size ≠ p := by omega
  have ne2 : p ≠ w1.heap.size := by omega
  have HT := hide (two_laid z2 va2 vb2)
  have HB2 := hide B2
  have la' : (Bg.wd A.natAbs).length ≤ 90000 := la
  have lb' : (Bg.wd B.natAbs).length ≤ 90000 := lb
  clear S2 HI1 ho2 va2 vb2 j1 hi2 B2 z2
  go_wp2_with fail
  obtain ⟨tA, tB, tK⟩ := unhide HT
  refine (norm_any p A B _ tA tB b0 la' lb').mono ?_
  rintro e w3 ⟨rfl, ⟨n', d', hr, e1, -, l2⟩, hk⟩
  have HR := hide hr
  have HK := hide (((Blk.of (unhide HB2)).trans tK).trans hk)
  clear hr hk tA tB tK
  go_wp2
  go_ret
  exact ⟨rfl, ⟨n', d', (unhide HR).q, e1, l2⟩, unhide HK⟩
end Go.Proofs.YtbdgngfpofohpaaDoor
