/- A region that draws its order, walked in whatever order by an invariant on what has come up, slot by slot (as stage 2's Q0d, Q2d, RA, without their values); and such an invariant by a list that says what each slot holds. -/
import Derived.Test.YtibkemolmpcdcaaDoorG01
import Derived.WalkKit
import Derived.WalkSpells
import Derived.WalkLawsBesides
import Derived.Deep.QuietTactic
import Derived.BigQuiet
import Derived.Outline
import Derived.Below
import Derived.Deep.Cut
import Derived.Test.YtibkemolmpcdcaaDoorG02
import Derived.Laws.Bits64b
import Derived.Lib.AppendZeros
namespace Go.Proofs.YtibkemolmpcdcaaDoor
open Go.RowKit Go.BigFrame

/-- what a slot holds -/
def G (a : Act) (i : Nat) : Value := a.tmps.getD i undef
theorem eval_G {a : Act} {i : Nat} {v : Value} (h : G a i = v) : a.eval (.tmp i) = v := h
/-- the frame behind one operation -/
structure Upd (a : Act) (d : Nat) (v : Value) (a' : Act) : Prop where
  size : a'.tmps.size = a.tmps.size
  got : G a' d = v
  rest : ∀ i, i ≠ d → G a' i = G a i
  defs : a'.defers = a.defers
theorem upd_put {a : Act} {d : Nat} {v : Value} (h : d < a.tmps.size) : Upd a d v (a.put (some d) v) := by
  refine ⟨by simp [Act.put], by simp [G, Act.put, h], fun i hi => ?_, rfl⟩
  simp [G, Act.put, Array.getD_eq_getD_getElem?, Ne.symm hi]

section
variable {P : Program} {ops : Array Oper} {Q : Exit → Act → World → Prop} {md : Region.Mode}

theorem countP_less {α : Type} {p p' : α → Bool} (hle : ∀ x, p' x = true → p x = true) {i : α} (h1 : p i = true) (h2 : p' i = false) : ∀ {l : List α}, i ∈ l → l.countP p' < l.countP p
  | x :: l, h => by
    have mono : ∀ l : List α, l.countP p' ≤ l.countP p := fun l => List.countP_mono_left fun x _ => hle x
    rcases List.mem_cons.1 h with rfl | h
    · simp only [List.countP_cons, h1, h2, if_true]
      have := mono l
      simp
      omega
    · have := countP_less hle h1 h2 h
      have hx := hle x
      simp only [List.countP_cons]
      by_cases e : p' x = true
      · simp [e, hx e]; omega
      · simp [e]; omega

/-- what has come up, closed under what it waited for -/
def Closed (md : Region.Mode) (ops : Array Oper) (L : Nat → Bool) : Prop := ∀ (j : Nat) (o : Oper), ops[j]? = some o → L j = true → ∀ e ∈ o.after, Region.binds md e = true → L e.on = true

theorem any_of (I : (Nat → Bool) → Act → World → Prop)
    (wait : ∀ (k : Nat) (o : Oper), ops[k]? = some o → ∀ e ∈ o.after, Region.binds md e = true → e.on < k)
    (step : ∀ (i : Nat) (o : Oper), ops[i]? = some o → ∀ (L : Nat → Bool) (a : Act) (w : World), I L a w → Closed md ops L → L i = false → (∀ e ∈ o.after, Region.binds md e = true → L e.on = true) →
      wpOp P ops Q i (fun a' w' => I (fun j => j == i || L j) a' w') a w)
    (done : ∀ (L : Nat → Bool) (a : Act) (w : World), I L a w → (∀ i, i < ops.size → L i = true) → Q .normal a w) :
    ∀ (fuel : Nat) (listed : Array Bool) (a : Act) (w : World), listed.size = ops.size → Closed md ops (fun i => listed.getD i false) → I (fun i => listed.getD i false) a w →
      (List.range ops.size).countP (fun i => !listed.getD i false) ≤ fuel → wpAny P md ops Q fuel listed a w := by
  intro fuel
  induction fuel with
  | zero =>
    intro listed a w hsz hcl hI hc
    have all : ∀ i, i < ops.size → listed.getD i false = true := fun i hi => by
      have := List.countP_eq_zero.1 (Nat.le_zero.1 hc) i (List.mem_range.2 hi)
      simpa using this
    refine ⟨?_, done _ a w hI all⟩
    simp only [Region.ready, List.filter_eq_nil_iff, List.mem_range]
    intro i hi
    have e : listed.getD i true = listed.getD i false := by simp [Array.getD_eq_getD_getElem?, Array.getElem?_eq_getElem (show i < listed.size by omega)]
    rw [e, all i hi]
    simp
  | succ fuel ih =>
    intro listed a w hsz hcl hI hc
    have e : ∀ i, i < ops.size → listed.getD i true = listed.getD i false := fun i hi => by simp [Array.getD_eq_getD_getElem?, Array.getElem?_eq_getElem (show i < listed.size by omega)]
    refine ⟨fun hr => ?_, fun i hi => ?_⟩
    · refine done _ a w hI ?_
      intro i
      induction i using Nat.strongRecOn with
      | _ i ihi =>
        intro hlt
        by_cases hL : listed.getD i false = true
        · exact hL
        · exfalso
          obtain ⟨o, ho⟩ : ∃ o, ops[i]? = some o := ⟨_, Array.getElem?_eq_getElem hlt⟩
          have : i ∈ Region.ready md ops listed := by
            simp only [Region.ready, List.mem_filter, List.mem_range, Bool.and_eq_true]
            refine ⟨hlt, by rw [e i hlt]; simpa using hL, ?_⟩
            rw [ho]
            simp only [Option.map_some, Option.getD_some]
            rw [Array.all_eq_true_iff_forall_mem]
            intro x hx
            by_cases hb : Region.binds md x = true
            · have hlt' := wait i o ho x hx hb
              have := ihi x.on hlt' (by omega)
              simp [this]
            · simp [hb]
          rw [hr] at this
          cases this
    · simp only [Region.ready, List.mem_filter, List.mem_range, Bool.and_eq_true] at hi
      obtain ⟨hlt, hun, hall⟩ := hi
      obtain ⟨o, ho⟩ : ∃ o, ops[i]? = some o := ⟨_, Array.getElem?_eq_getElem hlt⟩
      rw [e i hlt] at hun
      rw [ho] at hall
      simp only [Option.map_some, Option.getD_some] at hall
      rw [Array.all_eq_true_iff_forall_mem] at hall
      have hun' : listed.getD i false = false := by simpa using hun
      have hw : ∀ x ∈ o.after, Region.binds md x = true → listed.getD x.on false = true := fun x hx hb => by
        have := hall x hx
        simpa [hb] using this
      have hset : (fun j => (listed.setIfInBounds i true).getD j false) = fun j => j == i || listed.getD j false := funext fun j => by
        simp only [Array.getD_eq_getD_getElem?, Array.getElem?_setIfInBounds]
        by_cases hji : i = j
        · subst hji; simp [show i < listed.size by omega]
        · simp [hji, Ne.symm hji]
      refine wpOp_mono (fun a' w' hI' => ih _ a' w' (by simp [hsz]) ?_ (by rw [hset]; exact hI') ?_) (step i o ho _ a w hI hcl hun' hw)
      · rw [hset]
        intro j oj hoj hj x hx hb
        simp only [Bool.or_eq_true, beq_iff_eq] at hj ⊢
        rcases hj with rfl | hj
        · right
          rw [ho] at hoj
          cases hoj
          exact hw x hx hb
        · right
          exact hcl j oj hoj hj x hx hb
      · have hset' : ∀ j, (listed.setIfInBounds i true).getD j false = (j == i || listed.getD j false) := fun j => congrFun hset j
        have := countP_less (p := fun j => !listed.getD j false) (p' := fun j => !(listed.setIfInBounds i true).getD j false) (i := i) (fun x hx => by
          rw [hset'] at hx
          simp at hx ⊢
          exact hx.2) (by simpa using hun) (by rw [hset']; simp) (List.mem_range.2 hlt)
        omega

/-- a fact of each operation, by its place -/
def AllIx (S : Nat → Oper → Prop) : List Oper → Nat → Prop
  | [], _ => True
  | o :: l, k => S k o ∧ AllIx S l (k + 1)
theorem allIx_at {S : Nat → Oper → Prop} (l : List Oper) : ∀ (k : Nat), AllIx S l k → ∀ (i : Nat) (o : Oper), l[i]? = some o → S (k + i) o := by
  induction l with
  | nil => intro k h i o hi; simp at hi
  | cons o l ih =>
    intro k h i o' hi
    cases i with
    | zero =>
      simp only [List.getElem?_cons_zero, Option.some.injEq] at hi
      rw [← hi]
      exact h.1
    | succ i =>
      have := ih (k + 1) h.2 i o' (by simpa using hi)
      rwa [show k + 1 + i = k + (i + 1) by omega] at this

theorem region_any {I : (Nat → Bool) → Act → World → Prop} {id : Nat} {l : List Oper} {a : Act} {w : World} (hm : P.follows .mixedOrders = true)
    (wait : AllIx (fun k o => ∀ e ∈ o.after, Region.binds .any e = true → e.on < k) l 0)
    (step : AllIx (fun i o => ∀ (L : Nat → Bool) (a : Act) (w : World), I L a w → Closed .any l.toArray L → L i = false → (∀ e ∈ o.after, Region.binds .any e = true → L e.on = true) →
      wpOp P l.toArray Q i (fun a' w' => I (fun j => j == i || L j) a' w') a w) l 0)
    (done : ∀ (L : Nat → Bool) (a : Act) (w : World), I L a w → (∀ i, i < l.length → L i = true) → Q .normal a w)
    (start : I (fun _ => false) a w.drew) : (Code.region id l.toArray true).wp P Q a w := by
  have e0 : (fun i => (Array.replicate l.toArray.size false).getD i false) = fun _ => false := funext fun i => by
    simp only [Array.getD_eq_getD_getElem?, Array.getElem?_replicate]
    split <;> rfl
  refine wp_region_any hm (any_of I ?_ ?_ ?_ _ _ _ _ (by simp) ?_ (by rw [e0]; exact start) ?_)
  · intro k o ho
    have := allIx_at l 0 wait k o (by simpa using ho)
    rwa [Nat.zero_add] at this
  · intro i o ho
    have := allIx_at l 0 step i o (by simpa using ho)
    rwa [Nat.zero_add] at this
  · intro L a w hI hall
    exact done L a w hI (by simpa using hall)
  · rw [e0]
    intro j o _ hj
    cases hj
  · exact Nat.le_trans (List.countP_le_length) (by simp)
end

section
variable {ops : Array Oper} {Q : Exit → Act → World → Prop} {i d : Nat} {a : Act} {w : World} {K : Act → World → Prop} {t : TypeId} {p : String} {af : Array Edge}
theorem o_val {o : Oper} {v : Value} {w' : World} (hi : ops[i]? = some o) (hd : o.dst = some d) (hw : Region.wanted o (yielded ops a.tmps) = true) (hs : d < a.tmps.size) (r : (execOp a.eval o).run Tryd.prog w = .ok (.value v) w')
    (h : ∀ a', Upd a d v a' → a'.defers = a.defers → K a' w') : wpOp Tryd.prog ops Q i K a w := by
  unfold wpOp
  rw [hi]
  simp only [hw, if_true]
  left
  unfold Oper.wp
  rw [r]
  have q : K (a.put o.dst v) w' := by rw [hd]; exact h _ (upd_put hs) rfl
  exact q
theorem o_skip {o : Oper} (hi : ops[i]? = some o) (hd : o.dst = some d) (hw : Region.wanted o (yielded ops a.tmps) = false) (hs : d < a.tmps.size)
    (h : ∀ a', Upd a d undef a' → a'.defers = a.defers → K a' w) : wpOp Tryd.prog ops Q i K a w := by
  unfold wpOp
  rw [hi]
  simp only [hw, Bool.false_eq_true, if_false]
  rw [hd]
  exact h _ (upd_put hs) rfl
theorem o_enter {o : Oper} {n : Nat} {args : Array Value} {R : Value → World → Prop} (hi : ops[i]? = some o) (hd : o.dst = some d) (hw : Region.wanted o (yielded ops a.tmps) = true) (hs : d < a.tmps.size) (r : (execOp a.eval o).run Tryd.prog w = .ok (.enter n args) w)
    (hc : Calls Tryd.prog n args w fun e w' => ∃ v, e = .returned v ∧ R v w') (h : ∀ v a' w', R v w' → Upd a d v a' → a'.defers = a.defers → K a' w') : wpOp Tryd.prog ops Q i K a w := by
  unfold wpOp
  rw [hi]
  simp only [hw, if_true]
  left
  unfold Oper.wp
  rw [r]
  refine hc.mono ?_
  rintro e w' ⟨v, rfl, hR⟩
  have q : K (a.put o.dst v) w' := by rw [hd]; exact h v _ _ hR (upd_put hs) rfl
  exact q
theorem wanted_is {ops : Array Oper} {a : Act} {o : Oper} {j dj : Nat} {b c : Bool} (h : o.guard = some (j, c)) (D : (ops[j]?).bind (·.dst) = some dj) (hs : dj < a.tmps.size) (hg : G a dj = .bool b) : Region.wanted o (yielded ops a.tmps) = (b == c) := by
  have e : a.tmps[dj]? = some (.bool b) := by
    simp only [G, Array.getD_eq_getD_getElem?] at hg
    rw [Array.getElem?_eq_getElem hs] at hg ⊢
    simpa using hg
  simp [Region.wanted, h, yielded, D, e]
end

/-- what has come up, slot by slot -/
structure RI (w0 : World) (a0 : Act) (N : Nat) (D : List Nat) (Ok : Nat → Value → World → Prop) (Un : Nat → Bool) (L : Nat → Bool) (a : Act) (w : World) : Prop where
  size : a.tmps.size = N
  defs : a.defers = []
  rest : ∀ j, (∀ i d, L i = true → D[i]? = some d → d ≠ j) → G a j = G a0 j
  got : ∀ i d, L i = true → D[i]? = some d → Ok i (G a d) w
  uniq : ∀ i j d e, L i = true → L j = true → Un i = true → Un j = true → i ≠ j → D[i]? = some d → D[j]? = some e → G a d ≠ G a e
  old : Below w0.heap.size w0 w
theorem RI.keep {w0 : World} {a0 : Act} {N : Nat} {D : List Nat} {Ok : Nat → Value → World → Prop} {Un L : Nat → Bool} {a : Act} {w : World} (h : RI w0 a0 N D Ok Un L a w) {s : Nat} (hs : s ∉ D) : G a s = G a0 s :=
  h.rest s (fun _ _ _ hd e => hs (e ▸ List.mem_of_getElem? hd))
theorem RI.start {w0 : World} {a0 : Act} {N : Nat} {D : List Nat} {Ok : Nat → Value → World → Prop} {Un : Nat → Bool} {w : World} (h1 : a0.tmps.size = N) (h2 : a0.defers = []) (h3 : Below w0.heap.size w0 w) : RI w0 a0 N D Ok Un (fun _ => false) a0 w :=
  ⟨h1, h2, fun _ _ => rfl, fun _ _ h => (by cases h), fun _ _ _ _ h => (by cases h), h3⟩
theorem RI.step {w0 : World} {a0 : Act} {N : Nat} {D : List Nat} {Ok : Nat → Value → World → Prop} {Un L : Nat → Bool} {a a' : Act} {w w' : World} (h : RI w0 a0 N D Ok Un L a w) (hD : D.Nodup) (mono : ∀ i v w w', Below w.heap.size w w' → Ok i v w → Ok i v w')
    (i : Nat) {d : Nat} {v : Value} (hi : D[i]? = some d) (U : Upd a d v a') (hd : a'.defers = a.defers) (hb : Below w.heap.size w w') (ok : Ok i v w') (un : Un i = true → ∀ j e, L j = true → Un j = true → D[j]? = some e → v ≠ G a e) : RI w0 a0 N D Ok Un (fun j => j == i || L j) a' w' := by
  have inj : ∀ j, D[j]? = some d → j = i := by
    intro j hj
    have h1 := (List.getElem?_eq_some_iff.1 hi)
    have h2 := (List.getElem?_eq_some_iff.1 hj)
    obtain ⟨l1, e1⟩ := h1
    obtain ⟨l2, e2⟩ := h2
    exact (List.getElem_inj hD).1 (e2.trans e1.symm)
  refine ⟨U.size.trans h.size, hd.trans h.defs, fun j hj => ?_, fun j e hj he => ?_, fun j k e f hj hk uj uk ne he hf => ?_, h.old.trans (hb.mono h.old.size)⟩
  · have hne : j ≠ d := fun e => hj i d (by simp) hi e.symm
    rw [U.rest j hne]
    exact h.rest j (fun i' d' hi' hd' => hj i' d' (by simp [hi']) hd')
  · by_cases e1 : j = i
    · subst e1
      rw [hi] at he
      cases he
      rw [U.got]
      exact ok
    · have hL : L j = true := by simpa [e1] using hj
      have hne : e ≠ d := fun q => e1 (inj j (q ▸ he))
      rw [U.rest e hne]
      exact mono _ _ _ _ hb (h.got j e hL he)
  · by_cases e1 : j = i
    · subst e1
      rw [hi] at he
      cases he
      have hL : L k = true := by simpa [Ne.symm ne] using hk
      have hne : f ≠ d := fun q => ne (inj k (q ▸ hf)).symm
      rw [U.got, U.rest f hne]
      exact un uj k f hL uk hf
    · have hLj : L j = true := by simpa [e1] using hj
      have hne : e ≠ d := fun q => e1 (inj j (q ▸ he))
      rw [U.rest e hne]
      by_cases e2 : k = i
      · subst e2
        rw [hi] at hf
        cases hf
        rw [U.got]
        exact fun q => un uk j e hLj uj he q.symm
      · have hLk : L k = true := by simpa [e2] using hk
        have hne2 : f ≠ d := fun q => e2 (inj k (q ▸ hf))
        rw [U.rest f hne2]
        exact h.uniq j k e f hLj hLk uj uk ne he hf
/-- a frame, slot by slot -/
theorem frame_eqs {a : Act} {N : Nat} (h : a.tmps.size = N) : a.tmps = ((List.range N).map (G a)).toArray := by
  apply Array.ext
  · simp [h]
  · intro i h1 h2
    simp [G, Array.getD_eq_getD_getElem?, Array.getElem?_eq_getElem h1]
theorem frame_intro {P : Program} {code : Code} {Q : Exit → Act → World → Prop} {a0 : Act} {w : World} (S : Act → Prop) (h : S a0) (k : ∀ a, S a → Code.wp P code Q a w) : Code.wp P code Q a0 w := k a0 h
theorem frame_is {a : Act} {N : Nat} (hs : a.tmps.size = N) (hd : a.defers = []) : a = { tmps := ((List.range N).map (G a)).toArray, defers := [] } := by
  cases a with
  | mk t d =>
    simp only at hs hd
    subst hd
    congr 1
    exact frame_eqs (a := ⟨t, []⟩) hs
end Go.Proofs.YtibkemolmpcdcaaDoor

/- A region that draws, by a list that says what each slot holds when it has come up. -/
namespace Go.Proofs.YtibkemolmpcdcaaDoor
open Go.RowKit

/-- what a slot holds: a value; one of which something is known that stays; anything -/
inductive Ds where
  | lit (v : Value)
  | mem (P : Value → World → Prop) (keep : ∀ (v : Value) (w w' : World), Below w.heap.size w w' → P v w → P v w')
  | any
def Ds.ok : Ds → Value → World → Prop
  | .lit v, x, _ => x = v
  | .mem P _, x, w => P x w
  | .any, _, _ => True
def OkL (l : List Ds) (i : Nat) (v : Value) (w : World) : Prop := ((l[i]?).getD .any).ok v w
theorem OkL.mono (l : List Ds) (i : Nat) (v : Value) (w w' : World) (hb : Below w.heap.size w w') (h : OkL l i v w) : OkL l i v w' := by
  unfold OkL at *
  generalize (l[i]?).getD .any = d at h ⊢
  cases d with
  | lit u => exact h
  | mem P k => exact k v w w' hb h
  | any => trivial
abbrev RL (w0 : World) (a0 : Act) (N : Nat) (D : List Nat) (l : List Ds) (L : Nat → Bool) (a : Act) (w : World) : Prop := RI w0 a0 N D (OkL l) (fun _ => false) L a w

section
variable {w0 w : World} {a0 a : Act} {N : Nat} {D : List Nat} {l : List Ds} {L : Nat → Bool} {ops : Array Oper} {Q : Exit → Act → World → Prop} {i d : Nat} {o : Oper}
theorem rl_val (h : RL w0 a0 N D l L a w) (nd : D.Nodup) (hi : ops[i]? = some o) (hd : o.dst = some d) (hDi : D[i]? = some d) (hN : d < N) (hw : Region.wanted o (yielded ops a.tmps) = true) {v : Value} (r : (execOp a.eval o).run Tryd.prog w = .ok (.value v) w) (ok : OkL l i v w) :
    wpOp Tryd.prog ops Q i (fun a' w' => RL w0 a0 N D l (fun j => j == i || L j) a' w') a w :=
  o_val hi hd hw (by rw [h.size]; exact hN) r fun _ U hf => h.step nd (OkL.mono l) i hDi U hf (Below.refl _ _) ok (fun q => by cases q)
theorem rl_skip (h : RL w0 a0 N D l L a w) (nd : D.Nodup) (hi : ops[i]? = some o) (hd : o.dst = some d) (hDi : D[i]? = some d) (hN : d < N) (hw : Region.wanted o (yielded ops a.tmps) = false) (ok : OkL l i undef w) :
    wpOp Tryd.prog ops Q i (fun a' w' => RL w0 a0 N D l (fun j => j == i || L j) a' w') a w :=
  o_skip hi hd hw (by rw [h.size]; exact hN) fun _ U hf => h.step nd (OkL.mono l) i hDi U hf (Below.refl _ _) ok (fun q => by cases q)
theorem rl_call (h : RL w0 a0 N D l L a w) (nd : D.Nodup) (hi : ops[i]? = some o) (hd : o.dst = some d) (hDi : D[i]? = some d) (hN : d < N) (hw : Region.wanted o (yielded ops a.tmps) = true) {n : Nat} {args : Array Value} (r : (execOp a.eval o).run Tryd.prog w = .ok (.enter n args) w)
    {R : Value → World → Prop} (hc : Calls Tryd.prog n args w fun e w' => ∃ v, e = .returned v ∧ R v w' ∧ Below w.heap.size w w') (ok : ∀ v w', R v w' → OkL l i v w') :
    wpOp Tryd.prog ops Q i (fun a' w' => RL w0 a0 N D l (fun j => j == i || L j) a' w') a w :=
  o_enter (R := fun v w' => R v w' ∧ Below w.heap.size w w') hi hd hw (by rw [h.size]; exact hN) r hc fun _ _ _ hR U hf => h.step nd (OkL.mono l) i hDi U hf hR.2 (ok _ _ hR.1) (fun q => by cases q)
end

section
variable {a : Act} {w : World} {d : Option Nat} {t : TypeId} {p : String} {af : Array Edge} {g : Option (Nat × Bool)}
theorem run_not {x : Operand} {b : Bool} (h : a.eval x = .bool b) : (execOp a.eval ⟨d, .unOp .not 4 x, t, p, af, g⟩).run Tryd.prog w = .ok (.value (.bool (!b))) w := by
  generalize a.eval = E at h ⊢
  simp [go_sem, h]
theorem run_mv {x : Operand} {v : Value} (h : a.eval x = v) : (execOp a.eval ⟨d, .move x, t, p, af, g⟩).run Tryd.prog w = .ok (.value v) w := by
  generalize a.eval = E at h ⊢
  simp [go_sem, h]
theorem run_asg {x : Operand} {v : Value} (h : a.eval x = v) : (execOp a.eval ⟨d, .assign x, t, p, af, g⟩).run Tryd.prog w = .ok (.value v) w := by
  generalize a.eval = E at h ⊢
  simp [go_sem, h]
theorem run_pickT {c x y : Operand} {v : Value} (h : a.eval c = .bool true) (hx : a.eval x = v) : (execOp a.eval ⟨d, .pick c x y, t, p, af, g⟩).run Tryd.prog w = .ok (.value v) w := by
  generalize a.eval = E at h hx ⊢
  simp [go_sem, h, hx]
theorem run_pickF {c x y : Operand} {v : Value} (h : a.eval c = .bool false) (hy : a.eval y = v) : (execOp a.eval ⟨d, .pick c x y, t, p, af, g⟩).run Tryd.prog w = .ok (.value v) w := by
  generalize a.eval = E at h hy ⊢
  simp [go_sem, h, hy]
theorem run_call1 {n : Nat} {x : Operand} {vx : Value} {ts : Array TypeId} (hx : a.eval x = vx) (hf : ∀ (zs : Array Value) (w : World), Sem.run Tryd.prog (callFunc n zs) w = .ok (.enter n zs) w) :
    (execOp a.eval ⟨d, .call { callee := .value (.func n), args := #[x], argTypes := ts }, t, p, af, g⟩).run Tryd.prog w = .ok (.enter n #[vx]) w := by
  have e1 : a.eval (.func n) = .func (.func n) #[] #[] := rfl
  generalize a.eval = E at hx e1 ⊢
  simp [go_sem, hx, e1, hf]
theorem run_call2 {n : Nat} {x y : Operand} {vx vy : Value} {ts : Array TypeId} (hx : a.eval x = vx) (hy : a.eval y = vy) (hf : ∀ (zs : Array Value) (w : World), Sem.run Tryd.prog (callFunc n zs) w = .ok (.enter n zs) w) :
    (execOp a.eval ⟨d, .call { callee := .value (.func n), args := #[x, y], argTypes := ts }, t, p, af, g⟩).run Tryd.prog w = .ok (.enter n #[vx, vy]) w := by
  have e1 : a.eval (.func n) = .func (.func n) #[] #[] := rfl
  generalize a.eval = E at hx hy e1 ⊢
  simp [go_sem, hx, hy, e1, hf]
end
end Go.Proofs.YtibkemolmpcdcaaDoor

/- A frame behind a region that draws: what was, with what came up put in; runs of what reads a value. -/
namespace Go.Proofs.YtibkemolmpcdcaaDoor
open Go.RowKit

theorem frame_name {P : Program} {code : Code} {Q : Exit → Act → World → Prop} {a : Act} {w : World} (k : ∀ a0, a0 = a → Code.wp P code Q a0 w) : Code.wp P code Q a w := k a rfl

theorem G_put {b : Act} {d i : Nat} {v : Value} (h : d < b.tmps.size) : G (b.put (some d) v) i = if i = d then v else G b i := by
  have U := upd_put (v := v) h
  by_cases e : i = d
  · subst e; rw [if_pos rfl]; exact U.got
  · rw [if_neg e]; exact U.rest i e

theorem act_ext {a b : Act} (hs : a.tmps.size = b.tmps.size) (hd : a.defers = b.defers) (h : ∀ i, G a i = G b i) : a = b := by
  obtain ⟨t, d⟩ := a
  obtain ⟨t', d'⟩ := b
  simp only at hd hs
  subst hd
  congr 1
  apply Array.ext hs
  intro i h1 h2
  have := h i
  simpa [G, Array.getD_eq_getD_getElem?, Array.getElem?_eq_getElem h1, Array.getElem?_eq_getElem h2] using this

theorem puts_is {a : Act} : ∀ (D : List Nat) (b : Act), a.tmps.size = b.tmps.size → a.defers = b.defers → (∀ d ∈ D, d < b.tmps.size) → (∀ i, i ∉ D → G a i = G b i) → a = D.foldl (fun b d => b.put (some d) (G a d)) b
  | [], b, hs, hd, _, h => act_ext hs hd (fun i => h i (by simp))
  | d :: D, b, hs, hd, hl, h => by
    rw [List.foldl_cons]
    have hdl := hl d (by simp)
    have U := upd_put (v := G a d) hdl
    refine puts_is D _ (hs.trans U.size.symm) (hd.trans U.defs.symm) (fun e he => by rw [U.size]; exact hl e (by simp [he])) (fun i hi => ?_)
    rw [G_put hdl]
    by_cases e : i = d
    · rw [if_pos e, e]
    · rw [if_neg e]; exact h i (by simp [e, hi])

theorem frame_puts {w0 w : World} {a0 a : Act} {N : Nat} {D : List Nat} {Ok : Nat → Value → World → Prop} {Un L : Nat → Bool} (h : RI w0 a0 N D Ok Un L a w) (h0 : a0.tmps.size = N) (hd0 : a0.defers = []) (hl : ∀ d ∈ D, d < N) : a = D.foldl (fun b d => b.put (some d) (G a d)) a0 :=
  puts_is D a0 (h.size.trans h0.symm) (h.defs.trans hd0.symm) (fun d hd => by rw [h0]; exact hl d hd) (fun _ hi => h.keep hi)

section
variable {a : Act} {w : World} {d : Option Nat} {t : TypeId} {p : String} {af : Array Edge} {g : Option (Nat × Bool)}
/-- a whole value is read -/
theorem run_ld6 {x : Operand} {b o : Nat} {v0 v1 v2 v3 v4 v5 : Value} (h : a.eval x = .pointer (some ⟨b, o, none⟩)) (c0 : w.cell? ⟨b, o, none⟩ = some v0) (c1 : w.cell? ⟨b, o + 1, none⟩ = some v1) (c2 : w.cell? ⟨b, o + 2, none⟩ = some v2) (c3 : w.cell? ⟨b, o + 3, none⟩ = some v3) (c4 : w.cell? ⟨b, o + 4, none⟩ = some v4) (c5 : w.cell? ⟨b, o + 5, none⟩ = some v5) :
    (execOp a.eval ⟨d, .load 26 x, t, p, af, g⟩).run Tryd.prog w = .ok (.value (.agg #[v0, v1, v2, v3, v4, v5])) w := by
  generalize a.eval = E at h ⊢
  simp [go_sem, h, c0, c1, c2, c3, c4, c5]
theorem run_ldX {x : Operand} {b : Nat} {v0 v1 v2 v3 v4 v5 : Value} (h : a.eval x = .pointer (some ⟨b, 0, none⟩)) (B : Box w b #[v0, v1, v2, v3, v4, v5]) :
    (execOp a.eval ⟨d, .load 26 x, t, p, af, g⟩).run Tryd.prog w = .ok (.value (.agg #[v0, v1, v2, v3, v4, v5])) w := by
  obtain ⟨c0, c1, c2, c3, c4, c5⟩ := B.tell
  generalize a.eval = E at h ⊢
  simp [go_sem, h, c0, c1, c2, c3, c4, c5]
theorem run_fldL {x : Operand} {b : Nat} (h : a.eval x = .pointer (some ⟨b, 0, none⟩)) : (execOp a.eval ⟨d, .fieldAddr 26 x 4, t, p, af, g⟩).run Tryd.prog w = .ok (.value (.pointer (some ⟨b, 5, none⟩))) w := by
  generalize a.eval = E at h ⊢
  simp [go_sem, h]
theorem run_ldL {x : Operand} {ad : Addr} {s : Option Addr} {n c : Nat} (h : a.eval x = .pointer (some ad)) (hc : w.cell? ad = some (.slice s n c)) : (execOp a.eval ⟨d, .load 24 x, t, p, af, g⟩).run Tryd.prog w = .ok (.value (.slice s n c)) w := by
  generalize a.eval = E at h ⊢
  simp [go_sem, h, hc]
theorem run_ixV {x y : Operand} {b off n c m : Nat} (h : a.eval x = .slice (some ⟨b, off, none⟩) n c) (hm : a.eval y = .int .i64 (m : Int)) (l : m < n) : (execOp a.eval ⟨d, .indexAddr 24 x y, t, p, af, g⟩).run Tryd.prog w = .ok (.value (.pointer (some ⟨b, off + m * 6, none⟩))) w := by
  generalize a.eval = E at h hm ⊢
  have l' : (m : Int) < (n : Int) := by omega
  simp [go_sem, h, hm, l']
theorem run_neI {x y : Operand} {u v : Int} {r : Bool} (hx : a.eval x = .int .i64 u) (hy : a.eval y = .int .i64 v) (hr : (u != v) = r) : (execOp a.eval ⟨d, .binOp .neq 27 x y 27, t, p, af, g⟩).run Tryd.prog w = .ok (.value (.bool r)) w := by
  generalize a.eval = E at hx hy ⊢
  subst hr
  simp [go_sem, hx, hy]
end
end Go.Proofs.YtibkemolmpcdcaaDoor

/- Walks: trim, twin, words, plain. -/
namespace Go.Proofs.YtibkemolmpcdcaaDoor
open Go.RowKit

set_option maxHeartbeats 1000000 in
theorem trim_any (v : Value) (ws : List Nat) (w : World) (h : WS w v ws) :
    Calls Tryd.prog 68 #[v] w fun e w' => ∃ u, e = .returned u ∧ WS w' u (Bg.wd (Bg.val ws)) ∧ Below w.heap.size w w' := by
  obtain ⟨a, cap, rfl, hc, hm, ok, hk⟩ := h
  have HW : Hid (∀ n, n ≤ ws.length → WS w (.slice a n cap) (ws.take n)) := hide fun n hn => by
    refine ⟨a, cap, by rw [List.length_take, Nat.min_eq_left hn], by rw [List.length_take]; omega, hm, ok.take n, ?_⟩
    rcases hk with hk | ⟨b, off, cs, ha, hr, hcs⟩
    · exact .inl (by rw [hk]; simp)
    · refine .inr ⟨b, off, cs, ha, hr, fun i x hx => hcs i x ?_⟩
      rw [List.getElem?_take] at hx
      split at hx
      · exact hx
      · cases hx
  have HC : Hid (∀ (n x : Nat), ws[n]? = some x → ∃ b off, a = some ⟨b, off, none⟩ ∧ w.cell? ⟨b, off + n, none⟩ = some (.int .u32 (x : Int))) := hide fun n x hx => by
    rcases hk with hk | ⟨b, off, cs, ha, hr, hcs⟩
    · rw [hk] at hx; simp at hx
    · exact ⟨b, off, ha, hr.cell (hcs n x hx)⟩
  clear hk
  go_enter Tryd.func68, Tryd.ntmps68
  go_wp2_with fail
  go_loopw [3] (fun i wr => ∃ m : Nat, m ≤ ws.length ∧ i = .int .i64 (m : Int) ∧ wr = w ∧ Hid (∀ j x : Nat, m ≤ j → ws[j]? = some x → x = 0)) (fun i _ => (intOf i).toNat)
  case atStart => exact ⟨ws.length, Nat.le_refl _, rfl, rfl, hide fun j x hj hx => by have := (List.getElem?_eq_some_iff.1 hx).1; omega⟩
  case round =>
    obtain ⟨m, hml, rfl, rfl, HZ⟩ := hrel
    rcases Nat.eq_zero_or_pos m with h0 | h0
    · subst h0
      go_wp2
      go_ret
      refine ⟨_, rfl, ?_, Below.refl _ _⟩
      have e := Bg.wd_trim ok hml (unhide HZ) (fun x h => absurd h (by omega))
      rw [← e]
      exact unhide HW 0 hml
    · obtain ⟨k, rfl⟩ : ∃ k, m = k + 1 := ⟨m - 1, by omega⟩
      obtain ⟨x, hx⟩ : ∃ x, ws[k]? = some x := ⟨_, List.getElem?_eq_getElem (by omega)⟩
      obtain ⟨b, off, rfl, hc1⟩ := unhide HC k x hx
      have hk1 : ((k + 1 : Nat) : Int) - 1 = (k : Int) := by omega
      have hpos : (0 : Int) < ((k + 1 : Nat) : Int) := by omega
      have hkl : (k : Int) < (ws.length : Int) := by omega
      have HX := hide hx
      clear hx
      by_cases hx0 : x = 0
      · subst hx0
        go_wp2
        go_roundw
        case rel => exact ⟨k, by omega, by go_num, trivial, hide fun j y hj hy => by
          rcases Nat.eq_or_lt_of_le hj with e | e
          · rw [← e, unhide HX] at hy; exact (Option.some.inj hy).symm
          · exact unhide HZ j y (by omega) hy⟩
        case measure => simp [intOf]
      · have hx1 : ((x : Int) == 0) = false := by simp; omega
        go_wp2
        go_ret
        refine ⟨_, rfl, ?_, Below.refl _ _⟩
        have e := Bg.wd_trim ok hml (unhide HZ) (fun y _ hy => by rw [Nat.add_sub_cancel, unhide HX] at hy; rw [← Option.some.inj hy]; exact hx0)
        rw [← e]
        exact unhide HW (k + 1) hml

theorem or_shift {a b : Nat} (ha : a < 4294967296) (hb : b < 4294967296) : bits .or .u64 (a : Int) ((b : Int) * 4294967296) = ((a + 4294967296 * b : Nat) : Int) := by
  have h := bits_or_u64_nat a (b * 4294967296) (by omega) (by omega)
  rw [Int.natCast_mul] at h
  refine h.trans ?_
  have e : a ||| b * 4294967296 = a + 4294967296 * b := by
    rw [Nat.or_comm, Nat.mul_comm b, show (4294967296 : Nat) = 2 ^ 32 from rfl, ← Nat.two_pow_add_eq_or_of_lt (by simpa using ha) b, Nat.add_comm]
  rw [e]
theorem or_shift2 {a b : Nat} (ha : a < 4294967296) (hb : b < 4294967296) : bits .or .u64 ((b : Int) * 4294967296) (a : Int) = ((a + 4294967296 * b : Nat) : Int) := by
  have h := bits_or_u64_nat (b * 4294967296) a (by omega) (by omega)
  rw [Int.natCast_mul] at h
  refine h.trans ?_
  have e : b * 4294967296 ||| a = a + 4294967296 * b := by
    rw [Nat.mul_comm b, show (4294967296 : Nat) = 2 ^ 32 from rfl, ← Nat.two_pow_add_eq_or_of_lt (by simpa using ha) b, Nat.add_comm]
  rw [e]
theorem wd_two (x : Nat) : Bg.wd x = Bg.wd (Bg.val [x % 4294967296, x / 4294967296]) := by
  congr 1
  simp only [Bg.val]
  omega

set_option maxHeartbeats 1000000 in
theorem words_any (x : Nat) (hx : x < 18446744073709551616) (w : World) :
    Calls Tryd.prog 67 #[.int .u64 (x : Int)] w fun e w' => ∃ u, e = .returned u ∧ WS w' u (Bg.wd x) ∧ Below w.heap.size w w' := by
  have E := hide (wd_two x)
  have R := hide (RW.new w [x % 4294967296, x / 4294967296])
  have T : Hid (∀ wx, RW wx w.heap.size [x % 4294967296, x / 4294967296] → Calls Tryd.prog 68 #[.slice (some ⟨w.heap.size, 0, none⟩) 2 2] wx fun e w' => ∃ u, e = .returned u ∧ WS w' u (Bg.wd (Bg.val [x % 4294967296, x / 4294967296])) ∧ Below wx.heap.size wx w') :=
    hide fun wx h => trim_any _ [x % 4294967296, x / 4294967296] wx (WS.whole h (by intro y hy; simp at hy; omega) (by simp) (by simp))
  go_enter Tryd.func67, Tryd.ntmps67
  go_wp2_with fail
  refine (unhide T _ ?_).mono ?_
  · have := unhide R
    simpa [ic] using this
  rintro e w1 ⟨u, rfl, hu, hb⟩
  have HU := hide hu
  have HB := hide hb
  clear hu hb
  go_wp2
  go_ret
  refine ⟨_, rfl, ?_, ?_⟩
  · rw [unhide E]; exact unhide HU
  · exact ((Below.refl _ _).alloc (Nat.le_refl _) _).trans ((unhide HB).mono (by simp))

set_option maxHeartbeats 1000000 in
theorem plain0 (a : Option Addr) (cap : Nat) (w : World) : Calls Tryd.prog 69 #[.slice a 0 cap] w fun e w' => e = .returned (.int .u64 0) ∧ w' = w := by
  go_enter Tryd.func69, Tryd.ntmps69
  go_wp2
  go_ret
  exact ⟨rfl, rfl⟩

set_option maxHeartbeats 1000000 in
theorem plain1 (b off cap x : Nat) (hx : x < 4294967296) (w : World) (h : w.cell? ⟨b, off, none⟩ = some (.int .u32 (x : Int))) : Calls Tryd.prog 69 #[.slice (some ⟨b, off, none⟩) 1 cap] w fun e w' => e = .returned (.int .u64 (x : Int)) ∧ w' = w := by
  go_enter Tryd.func69, Tryd.ntmps69
  go_wp2
  go_ret
  exact ⟨rfl, rfl⟩

set_option maxHeartbeats 1000000 in
theorem plain2 (b off cap x y : Nat) (hx : x < 4294967296) (hy : y < 4294967296) (w : World) (h : w.cell? ⟨b, off, none⟩ = some (.int .u32 (x : Int))) (h1 : w.cell? ⟨b, off + 1, none⟩ = some (.int .u32 (y : Int))) : Calls Tryd.prog 69 #[.slice (some ⟨b, off, none⟩) 2 cap] w fun e w' => e = .returned (.int .u64 ((x + 4294967296 * y : Nat) : Int)) ∧ w' = w := by
  go_enter Tryd.func69, Tryd.ntmps69
  go_wp2
  go_ret
  exact ⟨by rw [← or_shift hx hy]; rfl, rfl⟩

theorem plain_any (v : Value) (n : Nat) (hn : n < 18446744073709551616) (w : World) (h : WS w v (Bg.wd n)) :
    Calls Tryd.prog 69 #[v] w fun e w' => e = .returned (.int .u64 (n : Int)) ∧ w' = w := by
  obtain ⟨a, cap, rfl, hc, hm, ok, hk⟩ := h
  by_cases h0 : n = 0
  · subst h0
    rw [Bg.wd_zero]
    exact plain0 a cap w
  rcases hk with hk | ⟨b, off, cs, rfl, hr, hcs⟩
  · exact absurd (Bg.wd_nil.1 hk) h0
  by_cases h1 : n < 4294967296
  · rw [Bg.wd_one h1 h0] at hcs ⊢
    exact plain1 b off cap n h1 w (hr.cell (hcs 0 n rfl))
  · have e : Bg.wd n = [n % 4294967296, n / 4294967296] := by rw [Bg.wd_pos h0, Bg.wd_one (by omega) (by omega)]
    rw [e] at hcs ⊢
    have := plain2 b off cap (n % 4294967296) (n / 4294967296) (by omega) (by omega) w (hr.cell (hcs 0 _ rfl)) (hr.cell (hcs 1 _ rfl))
    rw [show n % 4294967296 + 4294967296 * (n / 4294967296) = n by omega] at this
    exact this
end Go.Proofs.YtibkemolmpcdcaaDoor

/- Walks: cmp, add, sub. -/
namespace Go.Proofs.YtibkemolmpcdcaaDoor
open Go.RowKit

set_option maxHeartbeats 1000000 in
theorem cmp_any (u v : Value) (a b : Nat) (w : World) (hu : WS w u (Bg.wd a)) (hv : WS w v (Bg.wd b)) :
    Calls Tryd.prog 60 #[u, v] w fun e w' => e = .returned (.int .i64 (Bg.cmpN a b)) ∧ Below w.heap.size w w' := by
  obtain ⟨p, cap, rfl, hc, hm, ok, hk⟩ := id hu
  obtain ⟨q, cap2, rfl, hc2, hm2, ok2, hk2⟩ := id hv
  have CA := hide (WS.at hu)
  have CB := hide (WS.at hv)
  clear hu hv hk hk2
  have LL := hide (fun h => Bg.lt_of_len (a := a) (b := b) h)
  have LG := hide (fun h => Bg.lt_of_len (a := b) (b := a) h)
  have TT := hide (fun i x y => Bg.val_top (us := Bg.wd a) (vs := Bg.wd b) (i := i) (x := x) (y := y) ok)
  have TG := hide (fun i x y => Bg.val_top (us := Bg.wd b) (vs := Bg.wd a) (i := i) (x := x) (y := y) ok2)
  have VA := hide (Bg.val_wd a)
  have VB := hide (Bg.val_wd b)
  generalize Bg.wd a = us at *
  generalize Bg.wd b = vs at *
  go_enter Tryd.func60, Tryd.ntmps60
  by_cases hne : us.length = vs.length
  · have hne' : ((us.length : Int) != (vs.length : Int)) = false := by simp [hne]
    go_wp2_with fail
    go_loopw [5] (fun i wr => ∃ m : Nat, m ≤ vs.length ∧ i = .int .i64 ((m : Int) - 1) ∧ Hid (us.drop m = vs.drop m) ∧ Hid (Below w.heap.size w wr)) (fun i _ => (intOf i + 1).toNat)
    case atStart => exact ⟨vs.length, Nat.le_refl _, rfl, hide (by rw [List.drop_length, ← hne, List.drop_length]), hide (Below.refl _ _)⟩
    case round =>
      obtain ⟨m, hml, rfl, HE, HB⟩ := hrel
      rcases Nat.eq_zero_or_pos m with h0 | h0
      · subst h0
        have HQ : Hid (a = b) := hide (by rw [← unhide VA, ← unhide VB, show us = vs from unhide HE])
        go_wp2
        go_ret
        rw [Bg.cmpN_eq (unhide HQ)]
        exact ⟨rfl, unhide HB⟩
      · obtain ⟨k, rfl⟩ : ∃ k, m = k + 1 := ⟨m - 1, by omega⟩
        obtain ⟨x, hx⟩ : ∃ x, us[k]? = some x := ⟨_, List.getElem?_eq_getElem (by omega)⟩
        obtain ⟨y, hy⟩ : ∃ y, vs[k]? = some y := ⟨_, List.getElem?_eq_getElem (by omega)⟩
        obtain ⟨b1, o1, rfl, l1, c1⟩ := unhide CA k x hx
        obtain ⟨b2, o2, rfl, l2, c2⟩ := unhide CB k y hy
        have d1 : wr.cell? ⟨b1, o1 + k, none⟩ = some (.int .u32 (x : Int)) := ((unhide HB).cell (p := ⟨b1, o1 + k, none⟩) l1).trans c1
        have d2 : wr.cell? ⟨b2, o2 + k, none⟩ = some (.int .u32 (y : Int)) := ((unhide HB).cell (p := ⟨b2, o2 + k, none⟩) l2).trans c2
        have hk1 : ((k + 1 : Nat) : Int) - 1 = (k : Int) := by omega
        have hpos : (0 : Int) ≤ (k : Int) := by omega
        have hkl : (k : Int) < (us.length : Int) := by omega
        have hkl2 : (k : Int) < (vs.length : Int) := by omega
        have HX := hide hx
        have HY := hide hy
        rw [hk1]
        clear hx hy c1 c2 hk1
        rcases Nat.lt_trichotomy x y with hxy | hxy | hxy
        · have q1 : ((x : Int) != (y : Int)) = true := by simp; omega
          have q2 : (x : Int) < (y : Int) := by omega
          have HR : Hid (a < b) := hide (by rw [← unhide VA, ← unhide VB]; exact unhide TT k x y (unhide HX) (unhide HY) (unhide HE) hxy)
          go_wp2_with fail
          go_region
          all_goals
            go_wp2_with fail
            go_region
            all_goals
              go_wp2
              go_ret
              rw [Bg.cmpN_lt (unhide HR)]
              exact ⟨rfl, by repeat (first | exact unhide HB | apply Below.drew)⟩
        · have q1 : ((x : Int) != (y : Int)) = false := by simp; omega
          have HE2 : Hid (us.drop k = vs.drop k) := hide (by
            rw [List.drop_eq_getElem_cons (by omega : k < us.length), List.drop_eq_getElem_cons (by omega : k < vs.length), unhide HE]
            congr 1
            have e1 := (List.getElem?_eq_some_iff.1 (unhide HX)).2
            have e2 := (List.getElem?_eq_some_iff.1 (unhide HY)).2
            rw [e1, e2, hxy])
          go_wp2_with fail
          go_region
          all_goals
            go_wp2
            go_roundw
            case rel => exact ⟨k, by omega, rfl, HE2, hide (by repeat (first | exact unhide HB | apply Below.drew))⟩
            case measure => simp [intOf]
        · have q1 : ((x : Int) != (y : Int)) = true := by simp; omega
          have q2 : ¬ (x : Int) < (y : Int) := by omega
          have HR : Hid (b < a) := hide (by rw [← unhide VA, ← unhide VB]; exact unhide TG k y x (unhide HY) (unhide HX) (unhide HE).symm hxy)
          go_wp2_with fail
          go_region
          all_goals
            go_wp2_with fail
            go_region
            all_goals
              go_wp2
              go_ret
              rw [Bg.cmpN_gt (unhide HR)]
              exact ⟨rfl, by repeat (first | exact unhide HB | apply Below.drew)⟩
  · have hne' : ((us.length : Int) != (vs.length : Int)) = true := by simp; omega
    by_cases hlt : us.length < vs.length
    · have hlt' : (us.length : Int) < (vs.length : Int) := by omega
      go_wp2
      go_ret
      rw [Bg.cmpN_lt (unhide LL hlt)]
      exact ⟨rfl, Below.refl _ _⟩
    · have hlt' : ¬ (us.length : Int) < (vs.length : Int) := by omega
      have HG := hide (unhide LG (by omega))
      go_wp2
      go_ret
      rw [Bg.cmpN_gt (unhide HG)]
      exact ⟨rfl, Below.refl _ _⟩
end Go.Proofs.YtibkemolmpcdcaaDoor

/- Walks: add. -/
namespace Go.Proofs.YtibkemolmpcdcaaDoor
open Go.RowKit
end Go.Proofs.YtibkemolmpcdcaaDoor

/- Walks: sub. -/
namespace Go.Proofs.YtibkemolmpcdcaaDoor
open Go.RowKit
end Go.Proofs.YtibkemolmpcdcaaDoor

/- Walks: mul. -/
namespace Go.Proofs.YtibkemolmpcdcaaDoor
open Go.RowKit

set_option maxHeartbeats 2000000 in
theorem mul_go (p q : Option Addr) (cap cap2 : Nat) (us vs : List Nat) (w : World) (hu : WS w (.slice p us.length cap) us) (hv : WS w (.slice q vs.length cap2) vs) (h1 : 1 ≤ us.length) (h2 : 1 ≤ vs.length) (l1 : us.length ≤ 1000000) (l2 : vs.length ≤ 1000000) :
    Calls Tryd.prog 62 #[.slice p us.length cap, .slice q vs.length cap2] w fun e w' => ∃ u, e = .returned u ∧ WS w' u (Bg.wd (Bg.val us * Bg.val vs)) ∧ Below w.heap.size w w' := by
  have CA := hide (WS.at hu)
  have CB := hide (WS.at hv)
  have OA := hide (fun i x h => hu.cells.2.2.2.1.at (i := i) (x := x) h)
  have OB := hide (fun i x h => hv.cells.2.2.2.1.at (i := i) (x := x) h)
  clear hu hv
  have g1 : ((us.length : Int) == 0) = false := by rw [beq_eq_false_iff_ne]; omega
  have g2 : ((vs.length : Int) == 0) = false := by rw [beq_eq_false_iff_ne]; omega
  have hmk := mkw w (us.length + vs.length) ((us.length : Int) + (vs.length : Int)) (by omega) (by omega)
  go_enter Tryd.func62, Tryd.ntmps62
  go_wp2_with fail
  go_loopw [6] (fun i wr => ∃ (m : Nat) (rs : List Nat), m ≤ us.length ∧ i = .int .i64 (m : Int) ∧ rs.length = us.length + vs.length ∧ Hid (Bg.Ok rs) ∧ Hid (∀ j x, m + vs.length ≤ j → rs[j]? = some x → x = 0) ∧ Hid (Bg.val rs = Bg.val (us.take m) * Bg.val vs) ∧ Hid (RW wr w.heap.size rs) ∧ Hid (Below w.heap.size w wr)) (fun i _ => us.length - (intOf i).toNat)
  case atStart => exact ⟨0, List.replicate (us.length + vs.length) 0, Nat.zero_le _, rfl, by simp, hide (Bg.Ok.zeros _), hide (fun j x _ => Bg.zero_rep _ j x (Nat.zero_le _)), hide (by rw [Bg.val_zeros]; simp [Bg.val]), hide (RW.made _ _), hide (below_new _ _)⟩
  case round =>
    obtain ⟨m, rs, hml, rfl, hrl, HO, HZ, HE, HR, HB⟩ := hrel
    clear hmk
    by_cases hlt : m < us.length
    · have hlt' : (m : Int) < (us.length : Int) := by omega
      obtain ⟨x, hx⟩ : ∃ x, us[m]? = some x := ⟨_, List.getElem?_eq_getElem hlt⟩
      obtain ⟨b1, o1, rfl, lb1, c1⟩ := unhide CA m x hx
      have hxb : x < 4294967296 := unhide OA m x hx
      have HX := hide hx
      have HC1 := hide c1
      clear hx c1
      go_wp2_with fail
      go_loopw [7, 8] (fun cv j wi => ∃ (k c : Nat) (ts : List Nat), k ≤ vs.length ∧ j = .int .i64 (k : Int) ∧ cv = .int .u64 (c : Int) ∧ c < 4294967296 ∧ ts.length = us.length + vs.length ∧ Hid (Bg.Ok ts) ∧ Hid (∀ j x, m + vs.length ≤ j → ts[j]? = some x → x = 0) ∧ Hid (Bg.val ts + c * (4294967296 ^ m * 4294967296 ^ k) = Bg.val rs + x * 4294967296 ^ m * Bg.val (vs.take k)) ∧ Hid (RW wi w.heap.size ts) ∧ Hid (Below w.heap.size w wi)) (fun _ j _ => vs.length - (intOf j).toNat)
      case atStart => exact ⟨0, 0, rs, Nat.zero_le _, rfl, rfl, by omega, hrl, HO, HZ, hide (by simp [Bg.val]), HR, HB⟩
      case round =>
        clear HR HB HO HZ
        obtain ⟨k, c, ts, hkl, rfl, rfl, hcb, htl, HO, HZ, HE2, HR, HB⟩ := hrel
        have fz := (unhide HR).frozen
        by_cases hlk : k < vs.length
        · have hlk' : (k : Int) < (vs.length : Int) := by omega
          obtain ⟨y, hy⟩ : ∃ y, vs[k]? = some y := ⟨_, List.getElem?_eq_getElem hlk⟩
          obtain ⟨b2, o2, rfl, lb2, c2⟩ := unhide CB k y hy
          have hyb : y < 4294967296 := unhide OB k y hy
          have d1 := ((unhide HB).cell (p := ⟨b1, o1 + m, none⟩) lb1).trans (unhide HC1)
          have d2 := ((unhide HB).cell (p := ⟨b2, o2 + k, none⟩) lb2).trans c2
          obtain ⟨r, hr⟩ : ∃ r, ts[m + k]? = some r := ⟨_, List.getElem?_eq_getElem (by omega)⟩
          have d0 := (unhide HR).cell hr
          have f0 := fz (m + k)
          have hrb : r < 4294967296 := (unhide HO).at hr
          obtain ⟨t1, t2, t3⟩ := Bg.mul_lt hxb hyb hcb hrb
          obtain ⟨P, hP⟩ : ∃ P, P = x * y := ⟨_, rfl⟩
          have hp : (x : Int) * (y : Int) = (P : Int) := by rw [hP, Int.natCast_mul]
          have HP := hide hP
          rw [← hP] at t1 t2 t3
          have hmk2 : (m : Int) + (k : Int) < (us.length : Int) + (vs.length : Int) := by omega
          have HRR := hide hr
          have HY := hide hy
          clear hr hy c2 hP fz
          go_wp2_with fail
          go_region
          all_goals
            go_wp2
            go_roundw
            case rel => exact ⟨k + 1, (c + (P + r)) / 4294967296, ts.set (m + k) ((c + (P + r)) % 4294967296), by omega, by go_num, by go_num, by omega, by simpa using htl, hide ((unhide HO).set _ (by omega)), hide (fun j z hj hz => by
                rw [List.getElem?_set_ne (by omega)] at hz
                exact unhide HZ j z hj hz), hide (by
                have hs := Bg.val_set ts (m + k) r ((c + (P + r)) % 4294967296) (unhide HRR)
                have hE := unhide HE2
                rw [← Nat.pow_add] at hE
                have := Bg.mul_step hs hE rfl
                rw [Bg.val_succ vs k y (unhide HY), Bg.mul_row, ← unhide HP, ← Nat.pow_add, ← Nat.pow_add, ← Nat.add_assoc m k 1, Nat.pow_succ]
                rw [Nat.add_assoc (Bg.val rs)] at this
                exact this), hide (by
                repeat apply RW.drew
                have := (unhide HR).set (m + k) ((c + (P + r)) % 4294967296)
                simpa using this), hide (by
                repeat apply Below.drew
                exact below_set (by repeat (first | exact unhide HB | apply Below.drew)) (Nat.le_refl _))⟩
            case measure => simp [intOf]; omega
        · obtain rfl : k = vs.length := by omega
          obtain ⟨r, hr⟩ : ∃ r, ts[m + vs.length]? = some r := ⟨_, List.getElem?_eq_getElem (by omega)⟩
          have d0 := (unhide HR).cell hr
          have f0 := fz (m + vs.length)
          have hmk2 : (m : Int) + (vs.length : Int) < (us.length : Int) + (vs.length : Int) := by omega
          clear hr fz
          go_wp2
          go_roundw
          case rel => exact ⟨m + 1, ts.set (m + vs.length) c, by omega, by go_num, by simpa using htl, hide ((unhide HO).set _ hcb), hide (fun j z hj hz => by
              rw [List.getElem?_set_ne (by omega)] at hz
              exact unhide HZ j z (by omega) hz), hide (by
              have h := unhide HE2
              rw [List.take_length, unhide HE] at h
              rw [Bg.val_set0 (unhide HZ) (by omega), Bg.val_succ us m x (unhide HX), Nat.pow_add, Nat.mul_comm (4294967296 ^ m * 4294967296 ^ vs.length) c, h, Nat.add_mul, Nat.mul_comm x]), hide (by
              have := (unhide HR).set (m + vs.length) c
              simpa using this), hide (below_set (unhide HB) (Nat.le_refl _))⟩
          case measure => simp [intOf]; omega
    · obtain rfl : m = us.length := by omega
      have T : Hid (∀ wx, RW wx w.heap.size rs → Calls Tryd.prog 68 #[.slice (some ⟨w.heap.size, 0, none⟩) (us.length + vs.length) (us.length + vs.length)] wx fun e w' => ∃ u, e = .returned u ∧ WS w' u (Bg.wd (Bg.val us * Bg.val vs)) ∧ Below wx.heap.size wx w') := hide fun wx h => by
        have e := unhide HE
        rw [List.take_length] at e
        have t := trim_any (.slice (some ⟨w.heap.size, 0, none⟩) (us.length + vs.length) (us.length + vs.length)) rs wx (by
          have := WS.whole h (unhide HO) (cap := us.length + vs.length) (by simp [hrl]) (by omega)
          simpa [hrl] using this)
        rwa [e] at t
      go_wp2_with fail
      refine (unhide T _ (unhide HR)).mono ?_
      rintro e w1 ⟨u, rfl, hu, hb⟩
      have HU := hide hu
      have HB1 := hide hb
      clear hu hb
      go_wp2
      go_ret
      exact ⟨_, rfl, unhide HU, below_via (unhide HB) (unhide HB1)⟩

set_option maxHeartbeats 1000000 in
theorem mul_no (p q : Option Addr) (cap cap2 n k : Nat) (w : World) (h : n = 0 ∨ k = 0) :
    Calls Tryd.prog 62 #[.slice p n cap, .slice q k cap2] w fun e w' => e = .returned (.slice none 0 0) ∧ w' = w := by
  go_enter Tryd.func62, Tryd.ntmps62
  by_cases h0 : n = 0
  · subst h0
    go_wp2
    go_ret
    exact ⟨rfl, rfl⟩
  · obtain rfl : k = 0 := by omega
    have g1 : ((n : Int) == 0) = false := by rw [beq_eq_false_iff_ne]; omega
    go_wp2
    go_ret
    exact ⟨rfl, rfl⟩

theorem mul_any (u v : Value) (a b : Nat) (w : World) (hu : WS w u (Bg.wd a)) (hv : WS w v (Bg.wd b)) (ha : (Bg.wd a).length ≤ 100000) (hb : (Bg.wd b).length ≤ 100000) :
    Calls Tryd.prog 62 #[u, v] w fun e w' => ∃ u, e = .returned u ∧ WS w' u (Bg.wd (a * b)) ∧ Below w.heap.size w w' := by
  obtain ⟨p, cap, rfl, _⟩ := id hu
  obtain ⟨q, cap2, rfl, _⟩ := id hv
  by_cases h0 : a = 0 ∨ b = 0
  · have e : a * b = 0 := by rcases h0 with h0 | h0 <;> simp [h0]
    refine (mul_no p q cap cap2 _ _ w (by rcases h0 with h0 | h0 <;> simp [h0, Bg.wd_zero])).mono ?_
    rintro e' w' ⟨rfl, rfl⟩
    rw [e, Bg.wd_zero]
    exact ⟨_, rfl, WS.nil _, Below.refl _ _⟩
  · have l : ∀ n, n ≠ 0 → 1 ≤ (Bg.wd n).length := fun n hn => by rw [Bg.wd_pos hn]; simp
    have := mul_go p q cap cap2 _ _ w hu hv (l a (by omega)) (l b (by omega)) (by omega) (by omega)
    rwa [Bg.val_wd, Bg.val_wd] at this
end Go.Proofs.YtibkemolmpcdcaaDoor

/- Walks: twin. -/
namespace Go.Proofs.YtibkemolmpcdcaaDoor
open Go.RowKit

theorem zero_words (k : Nat) : Builtin.zeroCells (Value.int IntKind.u32 0).cells k = ((List.replicate k 0).map ic).toArray := by
  apply Array.ext
  · simp [Builtin.zeroCells, Value.cells]
  · intro i h1 h2
    simp [Builtin.zeroCells, Value.cells, ic, Nat.mod_one]
theorem run_twin (p : Option Addr) (cap : Nat) (us : List Nat) (w : World) (hu : WS w (.slice p us.length cap) us) (h1 : us ≠ []) (l1 : us.length ≤ 1000000) :
    ∃ u w', (Builtin.append_ #[69, 69] 69 #[.slice none 0 0, .slice p us.length cap]).run Tryd.prog w = .ok u w' ∧ WS w' u us ∧ Below w.heap.size w w' := by
  obtain ⟨i, hi, z0, z1, z2⟩ := info_u32
  obtain ⟨p', cap', e, hc, hm, ok, hk⟩ := hu
  cases e
  rcases hk with hk | ⟨b, off, cs, rfl, hr, hcs⟩
  · exact absurd hk h1
  have hpos : 0 < us.length := List.length_pos_iff.2 h1
  have h := run_append_nil (P := Tryd.prog) w 69 69 98 i _ Tryd.underlying69 hi z0 ⟨b, off, none⟩ us.length cap (us.map ic) (by rw [z1]; simp) (fun j v hv => by
    rw [List.getElem?_map] at hv
    obtain ⟨x, hx, rfl⟩ := Option.map_eq_some_iff.1 hv
    rw [Addr.add_lit]
    exact hr.cell (hcs j x hx)) hpos (by omega) (by rw [z2]; omega)
  rw [zero_words] at h
  refine ⟨_, _, h, ⟨_, _, rfl, grownCap_ge _ _ _ _, ?_, ok, .inr ⟨w.heap.size, 0, us ++ List.replicate (grownCap w us.length 0 98 - us.length) 0, rfl, ?_, fun j x hx => ?_⟩⟩, (Below.refl w.heap.size w).drew.alloc (Nat.le_refl _) _⟩
  · have := grownCap_le_maxLen w us.length 0 98 (by unfold maxLen; omega)
    unfold maxLen at this
    omega
  · rw [List.append_toArray, ← List.map_append]
    exact RW.new w.drew _
  · rw [Nat.zero_add, List.getElem?_append_left (List.getElem?_eq_some_iff.1 hx).1]
    exact hx
theorem run_twin0 (p : Option Addr) (cap : Nat) (w : World) :
    (Builtin.append_ #[69, 69] 69 #[.slice none 0 0, .slice p 0 cap]).run Tryd.prog w = .ok (.slice none 0 0) w := by
  obtain ⟨i, hi, z0, z1, z2⟩ := info_u32
  have hf : (Builtin.firstCells i.size 0 (.slice p 0 cap)).run Tryd.prog w = .ok #[] w := by
    cases p with
    | none => exact run_firstCells_none (P := Tryd.prog) w i.size 0 0 cap
    | some a => exact run_firstCells_some (P := Tryd.prog) w i.size 0 a 0 cap [] (by simp) (fun j v h => by simp at h)
  simp [Builtin.append_, run_underlying Tryd.underlying69, sizeOf, typeInfo, hi, Builtin.lenOf, hf]

set_option maxHeartbeats 1000000 in
theorem twin_any (u : Value) (a : Nat) (w : World) (hu : WS w u (Bg.wd a)) (ha : (Bg.wd a).length ≤ 100000) :
    Calls Tryd.prog 63 #[u] w fun e w' => ∃ u, e = .returned u ∧ WS w' u (Bg.wd a) ∧ Below w.heap.size w w' := by
  obtain ⟨p, cap, rfl, _⟩ := id hu
  generalize Bg.wd a = us at *
  by_cases h0 : us = []
  · subst h0
    have hr := run_twin0 p cap w
    rw [List.length_nil]
    go_enter Tryd.func63, Tryd.ntmps63
    go_wp2_with (at_builtin; refine Lib.wpList_append_run _ rfl _ _ _ _ rfl _ _ rfl rfl _ _ hr ?_)
    go_ret
    exact ⟨_, rfl, WS.nil _, Below.refl _ _⟩
  · obtain ⟨v, w1, hr, hv, hb⟩ := run_twin p cap us w hu h0 (by omega)
    have HV := hide hv
    have HB := hide hb
    clear hu hv hb
    go_enter Tryd.func63, Tryd.ntmps63
    go_wp2_with (at_builtin; refine Lib.wpList_append_run _ rfl _ _ _ _ rfl _ _ rfl rfl _ _ hr ?_)
    go_ret
    exact ⟨_, rfl, unhide HV, unhide HB⟩
end Go.Proofs.YtibkemolmpcdcaaDoor

/- Whole numbers in memory: a sign and words; give. -/
namespace Go.Proofs.YtibkemolmpcdcaaDoor
open Go.RowKit

/-- a place for a whole number -/
def ZA (w : World) (b o : Nat) : Prop := ∃ c t, w.heap[b]? = some (.cells c t (0, 0)) ∧ t ≠ 98 ∧ o + 1 < c.size
/-- a whole number in its place -/
structure IA (w : World) (b o : Nat) (z : Int) : Prop where
  place : ZA w b o
  neg : w.cell? ⟨b, o, none⟩ = some (.bool (decide (z < 0)))
  abs : ∃ v, w.cell? ⟨b, o + 1, none⟩ = some v ∧ WS w v (Bg.wd z.natAbs)
/-- all but a whole number's two cells is as it was -/
structure Out (b o : Nat) (w w' : World) : Prop where
  os : w'.os = w.os
  tape : w'.tape = w.tape
  output : w'.output = w.output
  size : w.heap.size ≤ w'.heap.size
  block : ∀ k, k < w.heap.size → k ≠ b → w'.heap[k]? = w.heap[k]?
  self : ∀ c t, w.heap[b]? = some (.cells c t (0, 0)) → ∃ c', w'.heap[b]? = some (.cells c' t (0, 0)) ∧ c'.size = c.size ∧ ∀ i, i ≠ o → i ≠ o + 1 → c'[i]? = c[i]?

theorem ZA.low {w : World} {b o : Nat} (h : ZA w b o) : b < w.heap.size := by
  obtain ⟨c, t, h1, _⟩ := h
  exact (Array.getElem?_eq_some_iff.1 h1).1
theorem ZA.frozen {w : World} {b o : Nat} (h : ZA w b o) (i : Nat) : w.frozen? ⟨b, i, none⟩ = false := by
  obtain ⟨c, t, h1, _⟩ := h
  simp [World.frozen?, h1]
theorem ZA.cell {w : World} {b o : Nat} (h : ZA w b o) : (∃ v, w.cell? ⟨b, o, none⟩ = some v) ∧ ∃ v, w.cell? ⟨b, o + 1, none⟩ = some v := by
  obtain ⟨c, t, h1, _, h2⟩ := h
  constructor
  · exact ⟨c[o]'(by omega), by simp [World.cell?, h1]⟩
  · exact ⟨c[o + 1], by simp [World.cell?, h1]⟩
theorem Out.refl (b o : Nat) (w : World) : Out b o w w := ⟨rfl, rfl, rfl, Nat.le_refl _, fun _ _ _ => rfl, fun c _ h => ⟨c, h, rfl, fun _ _ _ => rfl⟩⟩
theorem Out.of {b o : Nat} {w w' : World} (h : Below w.heap.size w w') : Out b o w w' :=
  ⟨h.os, h.tape, h.output, h.size, fun k hk _ => h.block k hk, fun c _ hc => ⟨c, (h.block b (Array.getElem?_eq_some_iff.1 hc).1).trans hc, rfl, fun _ _ _ => rfl⟩⟩
theorem Out.trans {b o : Nat} {w1 w2 w3 : World} (h : Out b o w1 w2) (k : Out b o w2 w3) : Out b o w1 w3 :=
  ⟨k.os.trans h.os, k.tape.trans h.tape, k.output.trans h.output, Nat.le_trans h.size k.size, fun i hi hb => (k.block i (Nat.lt_of_lt_of_le hi h.size) hb).trans (h.block i hi hb), fun c t hc => by
    obtain ⟨c2, h2, s2, e2⟩ := h.self c t hc
    obtain ⟨c3, h3, s3, e3⟩ := k.self c2 t h2
    exact ⟨c3, h3, s3.trans s2, fun i a b => (e3 i a b).trans (e2 i a b)⟩⟩
theorem Out.set {b o i : Nat} {w : World} {v : Value} (hi : i = o ∨ i = o + 1) : Out b o w (w.setCell ⟨b, i, none⟩ v) :=
  ⟨rfl, rfl, rfl, by simp [World.setCell], fun k _ hk => Below.heap_setCell w ⟨b, i, none⟩ v k hk, fun c _ hc => by
    refine ⟨c.setIfInBounds i v, ?_, by simp, fun l h1 h2 => ?_⟩
    · simp only [World.setCell, Array.getElem?_modify, if_true, hc, Option.map_some]
      rfl
    · rw [Array.getElem?_setIfInBounds_ne (by omega)]⟩
theorem Out.below {b o B : Nat} {w w' : World} (h : Out b o w w') (hb : B ≤ b) (hw : B ≤ w.heap.size) : Below B w w' :=
  ⟨h.os, h.tape, h.output, h.size, fun k hk => h.block k (by omega) (by omega)⟩
theorem Out.kw {b o : Nat} {w w' : World} (h : Out b o w w') (hz : ZA w b o) : KW w w' := fun k cs hk => by
  by_cases e : k = b
  · subst e
    obtain ⟨c, t, h1, h2, _⟩ := hz
    unfold RW at hk
    rw [hk] at h1
    cases h1
    exact absurd rfl h2
  · exact (h.block k hk.low e).trans hk
theorem ZA.below {w w' : World} {b o : Nat} (h : ZA w b o) (hb : Below w.heap.size w w') : ZA w' b o := by
  have l := h.low
  obtain ⟨c, t, h1, h2⟩ := h
  exact ⟨c, t, (hb.block b l).trans h1, h2⟩
theorem ZA.out {w w' : World} {b o b2 o2 : Nat} (h : ZA w b o) (hb : Out b2 o2 w w') : ZA w' b o := by
  have l := h.low
  obtain ⟨c, t, h1, h2, h3⟩ := h
  by_cases e : b = b2
  · subst e
    obtain ⟨c', g1, g2, _⟩ := hb.self c t h1
    exact ⟨c', t, g1, h2, by omega⟩
  · exact ⟨c, t, (hb.block b l e).trans h1, h2, h3⟩
theorem IA.below {w w' : World} {b o : Nat} {z : Int} (h : IA w b o z) (hb : Below w.heap.size w w') : IA w' b o z := by
  have l := h.place.low
  obtain ⟨v, h1, h2⟩ := h.abs
  exact ⟨h.place.below hb, (hb.cell (p := ⟨b, o, none⟩) l).trans h.neg, v, (hb.cell (p := ⟨b, o + 1, none⟩) l).trans h1, h2.below hb⟩
/-- another whole number is as it was -/
theorem IA.out {w w' : World} {b o b2 o2 : Nat} {z : Int} (h : IA w b o z) (hb : Out b2 o2 w w') (h2 : ZA w b2 o2) (ne : b ≠ b2 ∨ o + 1 < o2 ∨ o2 + 1 < o) : IA w' b o z := by
  have l := h.place.low
  obtain ⟨v, h1, hw⟩ := h.abs
  have key : ∀ i, i = o ∨ i = o + 1 → w'.cell? ⟨b, i, none⟩ = w.cell? ⟨b, i, none⟩ := fun i hi => by
    by_cases e : b = b2
    · subst e
      obtain ⟨c, t, g1, _⟩ := h.place
      obtain ⟨c', g2, _, g3⟩ := hb.self c t g1
      have := g3 i (by omega) (by omega)
      simp [World.cell?, g1, g2, this]
    · exact World.cell?_of_block (w := w) (hb.block b l e)
  exact ⟨h.place.out hb, (key o (.inl rfl)).trans h.neg, v, (key (o + 1) (.inr rfl)).trans h1, hw.keep (hb.kw h2)⟩

theorem IA.gave {w : World} {b o : Nat} {v : Value} {z : Int} {x : Bool} (hz : ZA w b o) (hv : WS w v (Bg.wd z.natAbs)) (hx : x = decide (z < 0)) : IA ((w.setCell ⟨b, o + 1, none⟩ v).setCell ⟨b, o, none⟩ (.bool x)) b o z ∧ Out b o w ((w.setCell ⟨b, o + 1, none⟩ v).setCell ⟨b, o, none⟩ (.bool x)) := by
  have O1 : Out b o w (w.setCell ⟨b, o + 1, none⟩ v) := Out.set (.inr rfl)
  have O2 : Out b o (w.setCell ⟨b, o + 1, none⟩ v) ((w.setCell ⟨b, o + 1, none⟩ v).setCell ⟨b, o, none⟩ (.bool x)) := Out.set (.inl rfl)
  obtain ⟨⟨x0, c0⟩, x1, c1⟩ := hz.cell
  subst hx
  refine ⟨⟨(hz.out O1).out O2, ?_, v, ?_, hv.keep ((O1.trans O2).kw hz)⟩, O1.trans O2⟩
  · simp [go_sem, c0]
  · simp [go_sem, c1]

set_option maxHeartbeats 1000000 in
theorem give_any (b o : Nat) (neg : Bool) (n : Nat) (v : Value) (w : World) (hz : ZA w b o) (hv : WS w v (Bg.wd n)) :
    Calls Tryd.prog 61 #[.pointer (some ⟨b, o, none⟩), .bool neg, v] w fun e w' => e = .returned (.pointer (some ⟨b, o, none⟩)) ∧ IA w' b o (if neg = true then -(n : Int) else n) ∧ Out b o w w' := by
  obtain ⟨p, cap, rfl, -⟩ := id hv
  have HV := hide hv
  have HZ := hide hz
  obtain ⟨⟨x0, c0⟩, x1, c1⟩ := hz.cell
  have f0 := hz.frozen o
  have f1 := hz.frozen (o + 1)
  have HL : Hid ((0 < (Bg.wd n).length) ↔ n ≠ 0) := hide (by
    rw [List.length_pos_iff, Ne, Bg.wd_nil])
  clear hv hz
  go_enter Tryd.func61, Tryd.ntmps61
  cases neg with
  | false =>
    have HG := hide (IA.gave (z := (n : Int)) (x := false) (unhide HZ) (unhide HV) (by simp))
    go_wp2
    all_goals
      go_ret
      exact ⟨rfl, unhide HG⟩
  | true =>
    by_cases h0 : 0 < (Bg.wd n).length
    · have h0' : (0 : Int) < ((Bg.wd n).length : Int) := by omega
      have hn0 := (unhide HL).1 h0
      have HG := hide (IA.gave (z := -(n : Int)) (x := true) (unhide HZ) (by rw [Int.natAbs_neg, Int.natAbs_natCast]; exact unhide HV) (by simp; omega))
      go_wp2
      all_goals
        go_ret
        exact ⟨rfl, unhide HG⟩
    · have h0' : ¬ (0 : Int) < ((Bg.wd n).length : Int) := by omega
      have HN0 : Hid (n = 0) := hide (Classical.byContradiction fun h => h0 ((unhide HL).2 h))
      have HG := hide (IA.gave (z := -(n : Int)) (x := false) (unhide HZ) (by rw [Int.natAbs_neg, Int.natAbs_natCast]; exact unhide HV) (by have := unhide HN0; simp; omega))
      go_wp2
      all_goals
        go_ret
        exact ⟨rfl, unhide HG⟩
end Go.Proofs.YtibkemolmpcdcaaDoor
