/- A region that draws its order, walked in whatever order by an invariant on what has come up, slot by slot (as stage 2's Q0d, Q2d, RA, without their values); and such an invariant by a list that says what each slot holds. -/
import Derived.Test.YtnegjbkbfgkkjaaGreatDoorG05
import Derived.WalkKit
import Derived.WalkSpells
import Derived.WalkLawsBesides
import Derived.Deep.QuietTactic
import Derived.BigQuiet
import Derived.Outline
import Derived.Below
import Derived.Deep.Cut
namespace Go.Proofs.YtnegjbkbfgkkjaaGreatDoor
open Go.RowKit Go.BigFrame

/-- what a slot holds -/
def G (a : Act) (i : Nat) : Value := a.tmps.getD i undef
theorem eval_G {a : Act} {i : Nat} {v : Value} (h : G a i = v) : a.eval (.tmp i) = v := h
/-- the frame behind one operation -/
structure Upd (a : Act) (d : Nat) (v : Value) (a' : Act) : Prop where
  size : a'.tmps.size = a.tmps.size
  got : G a' d = v
  rest : ∀ i, i ≠ d → G a' i = G a i
  defs : a'.defers = a.defers
theorem upd_put {a : Act} {d : Nat} {v : Value} (h : d < a.tmps.size) : Upd a d v (a.put (some d) v) := by
  refine ⟨by simp [Act.put], by simp [G, Act.put, h], fun i hi => ?_, rfl⟩
  simp [G, Act.put, Array.getD_eq_getD_getElem?, Ne.symm hi]

section
variable {P : Program} {ops : Array Oper} {Q : Exit → Act → World → Prop} {md : Region.Mode}

theorem countP_less {α : Type} {p p' : α → Bool} (hle : ∀ x, p' x = true → p x = true) {i : α} (h1 : p i = true) (h2 : p' i = false) : ∀ {l : List α}, i ∈ l → l.countP p' < l.countP p
  | x :: l, h => by
    have mono : ∀ l : List α, l.countP p' ≤ l.countP p := fun l => List.countP_mono_left fun x _ => hle x
    rcases List.mem_cons.1 h with rfl | h
    · simp only [List.countP_cons, h1, h2, if_true]
      have := mono l
      simp
      omega
    · have := countP_less hle h1 h2 h
      have hx := hle x
      simp only [List.countP_cons]
      by_cases e : p' x = true
      · simp [e, hx e]; omega
      · simp [e]; omega

/-- what has come up, closed under what it waited for -/
def Closed (md : Region.Mode) (ops : Array Oper) (L : Nat → Bool) : Prop := ∀ (j : Nat) (o : Oper), ops[j]? = some o → L j = true → ∀ e ∈ o.after, Region.binds md e = true → L e.on = true

theorem any_of (I : (Nat → Bool) → Act → World → Prop)
    (wait : ∀ (k : Nat) (o : Oper), ops[k]? = some o → ∀ e ∈ o.after, Region.binds md e = true → e.on < k)
    (step : ∀ (i : Nat) (o : Oper), ops[i]? = some o → ∀ (L : Nat → Bool) (a : Act) (w : World), I L a w → Closed md ops L → L i = false → (∀ e ∈ o.after, Region.binds md e = true → L e.on = true) →
      wpOp P ops Q i (fun a' w' => I (fun j => j == i || L j) a' w') a w)
    (done : ∀ (L : Nat → Bool) (a : Act) (w : World), I L a w → (∀ i, i < ops.size → L i = true) → Q .normal a w) :
    ∀ (fuel : Nat) (listed : Array Bool) (a : Act) (w : World), listed.size = ops.size → Closed md ops (fun i => listed.getD i false) → I (fun i => listed.getD i false) a w →
      (List.range ops.size).countP (fun i => !listed.getD i false) ≤ fuel → wpAny P md ops Q fuel listed a w := by
  intro fuel
  induction fuel with
  | zero =>
    intro listed a w hsz hcl hI hc
    have all : ∀ i, i < ops.size → listed.getD i false = true := fun i hi => by
      have := List.countP_eq_zero.1 (Nat.le_zero.1 hc) i (List.mem_range.2 hi)
      simpa using this
    refine ⟨?_, done _ a w hI all⟩
    simp only [Region.ready, List.filter_eq_nil_iff, List.mem_range]
    intro i hi
    have e : listed.getD i true = listed.getD i false := by simp [Array.getD_eq_getD_getElem?, Array.getElem?_eq_getElem (show i < listed.size by omega)]
    rw [e, all i hi]
    simp
  | succ fuel ih =>
    intro listed a w hsz hcl hI hc
    have e : ∀ i, i < ops.size → listed.getD i true = listed.getD i false := fun i hi => by simp [Array.getD_eq_getD_getElem?, Array.getElem?_eq_getElem (show i < listed.size by omega)]
    refine ⟨fun hr => ?_, fun i hi => ?_⟩
    · refine done _ a w hI ?_
      intro i
      induction i using Nat.strongRecOn with
      | _ i ihi =>
        intro hlt
        by_cases hL : listed.getD i false = true
        · exact hL
        · exfalso
          obtain ⟨o, ho⟩ : ∃ o, ops[i]? = some o := ⟨_, Array.getElem?_eq_getElem hlt⟩
          have : i ∈ Region.ready md ops listed := by
            simp only [Region.ready, List.mem_filter, List.mem_range, Bool.and_eq_true]
            refine ⟨hlt, by rw [e i hlt]; simpa using hL, ?_⟩
            rw [ho]
            simp only [Option.map_some, Option.getD_some]
            rw [Array.all_eq_true_iff_forall_mem]
            intro x hx
            by_cases hb : Region.binds md x = true
            · have hlt' := wait i o ho x hx hb
              have := ihi x.on hlt' (by omega)
              simp [this]
            · simp [hb]
          rw [hr] at this
          cases this
    · simp only [Region.ready, List.mem_filter, List.mem_range, Bool.and_eq_true] at hi
      obtain ⟨hlt, hun, hall⟩ := hi
      obtain ⟨o, ho⟩ : ∃ o, ops[i]? = some o := ⟨_, Array.getElem?_eq_getElem hlt⟩
      rw [e i hlt] at hun
      rw [ho] at hall
      simp only [Option.map_some, Option.getD_some] at hall
      rw [Array.all_eq_true_iff_forall_mem] at hall
      have hun' : listed.getD i false = false := by simpa using hun
      have hw : ∀ x ∈ o.after, Region.binds md x = true → listed.getD x.on false = true := fun x hx hb => by
        have := hall x hx
        simpa [hb] using this
      have hset : (fun j => (listed.setIfInBounds i true).getD j false) = fun j => j == i || listed.getD j false := funext fun j => by
        simp only [Array.getD_eq_getD_getElem?, Array.getElem?_setIfInBounds]
        by_cases hji : i = j
        · subst hji; simp [show i < listed.size by omega]
        · simp [hji, Ne.symm hji]
      refine wpOp_mono (fun a' w' hI' => ih _ a' w' (by simp [hsz]) ?_ (by rw [hset]; exact hI') ?_) (step i o ho _ a w hI hcl hun' hw)
      · rw [hset]
        intro j oj hoj hj x hx hb
        simp only [Bool.or_eq_true, beq_iff_eq] at hj ⊢
        rcases hj with rfl | hj
        · right
          rw [ho] at hoj
          cases hoj
          exact hw x hx hb
        · right
          exact hcl j oj hoj hj x hx hb
      · have hset' : ∀ j, (listed.setIfInBounds i true).getD j false = (j == i || listed.getD j false) := fun j => congrFun hset j
        have := countP_less (p := fun j => !listed.getD j false) (p' := fun j => !(listed.setIfInBounds i true).getD j false) (i := i) (fun x hx => by
          rw [hset'] at hx
          simp at hx ⊢
          exact hx.2) (by simpa using hun) (by rw [hset']; simp) (List.mem_range.2 hlt)
        omega

/-- a fact of each operation, by its place -/
def AllIx (S : Nat → Oper → Prop) : List Oper → Nat → Prop
  | [], _ => True
  | o :: l, k => S k o ∧ AllIx S l (k + 1)
theorem allIx_at {S : Nat → Oper → Prop} (l : List Oper) : ∀ (k : Nat), AllIx S l k → ∀ (i : Nat) (o : Oper), l[i]? = some o → S (k + i) o := by
  induction l with
  | nil => intro k h i o hi; simp at hi
  | cons o l ih =>
    intro k h i o' hi
    cases i with
    | zero =>
      simp only [List.getElem?_cons_zero, Option.some.injEq] at hi
      rw [← hi]
      exact h.1
    | succ i =>
      have := ih (k + 1) h.2 i o' (by simpa using hi)
      rwa [show k + 1 + i = k + (i + 1) by omega] at this

theorem region_any {I : (Nat → Bool) → Act → World → Prop} {id : Nat} {l : List Oper} {a : Act} {w : World} (hm : P.follows .mixedOrders = true)
    (wait : AllIx (fun k o => ∀ e ∈ o.after, Region.binds .any e = true → e.on < k) l 0)
    (step : AllIx (fun i o => ∀ (L : Nat → Bool) (a : Act) (w : World), I L a w → Closed .any l.toArray L → L i = false → (∀ e ∈ o.after, Region.binds .any e = true → L e.on = true) →
      wpOp P l.toArray Q i (fun a' w' => I (fun j => j == i || L j) a' w') a w) l 0)
    (done : ∀ (L : Nat → Bool) (a : Act) (w : World), I L a w → (∀ i, i < l.length → L i = true) → Q .normal a w)
    (start : I (fun _ => false) a w.drew) : (Code.region id l.toArray true).wp P Q a w := by
  have e0 : (fun i => (Array.replicate l.toArray.size false).getD i false) = fun _ => false := funext fun i => by
    simp only [Array.getD_eq_getD_getElem?, Array.getElem?_replicate]
    split <;> rfl
  refine wp_region_any hm (any_of I ?_ ?_ ?_ _ _ _ _ (by simp) ?_ (by rw [e0]; exact start) ?_)
  · intro k o ho
    have := allIx_at l 0 wait k o (by simpa using ho)
    rwa [Nat.zero_add] at this
  · intro i o ho
    have := allIx_at l 0 step i o (by simpa using ho)
    rwa [Nat.zero_add] at this
  · intro L a w hI hall
    exact done L a w hI (by simpa using hall)
  · rw [e0]
    intro j o _ hj
    cases hj
  · exact Nat.le_trans (List.countP_le_length) (by simp)
end

section
variable {ops : Array Oper} {Q : Exit → Act → World → Prop} {i d : Nat} {a : Act} {w : World} {K : Act → World → Prop} {t : TypeId} {p : String} {af : Array Edge}
theorem o_val {o : Oper} {v : Value} {w' : World} (hi : ops[i]? = some o) (hd : o.dst = some d) (hw : Region.wanted o (yielded ops a.tmps) = true) (hs : d < a.tmps.size) (r : (execOp a.eval o).run Tryz.prog w = .ok (.value v) w')
    (h : ∀ a', Upd a d v a' → a'.defers = a.defers → K a' w') : wpOp Tryz.prog ops Q i K a w := by
  unfold wpOp
  rw [hi]
  simp only [hw, if_true]
  left
  unfold Oper.wp
  rw [r]
  have q : K (a.put o.dst v) w' := by rw [hd]; exact h _ (upd_put hs) rfl
  exact q
theorem o_skip {o : Oper} (hi : ops[i]? = some o) (hd : o.dst = some d) (hw : Region.wanted o (yielded ops a.tmps) = false) (hs : d < a.tmps.size)
    (h : ∀ a', Upd a d undef a' → a'.defers = a.defers → K a' w) : wpOp Tryz.prog ops Q i K a w := by
  unfold wpOp
  rw [hi]
  simp only [hw, Bool.false_eq_true, if_false]
  rw [hd]
  exact h _ (upd_put hs) rfl
theorem o_enter {o : Oper} {n : Nat} {args : Array Value} {R : Value → World → Prop} (hi : ops[i]? = some o) (hd : o.dst = some d) (hw : Region.wanted o (yielded ops a.tmps) = true) (hs : d < a.tmps.size) (r : (execOp a.eval o).run Tryz.prog w = .ok (.enter n args) w)
    (hc : Calls Tryz.prog n args w fun e w' => ∃ v, e = .returned v ∧ R v w') (h : ∀ v a' w', R v w' → Upd a d v a' → a'.defers = a.defers → K a' w') : wpOp Tryz.prog ops Q i K a w := by
  unfold wpOp
  rw [hi]
  simp only [hw, if_true]
  left
  unfold Oper.wp
  rw [r]
  refine hc.mono ?_
  rintro e w' ⟨v, rfl, hR⟩
  have q : K (a.put o.dst v) w' := by rw [hd]; exact h v _ _ hR (upd_put hs) rfl
  exact q
theorem wanted_is {ops : Array Oper} {a : Act} {o : Oper} {j dj : Nat} {b c : Bool} (h : o.guard = some (j, c)) (D : (ops[j]?).bind (·.dst) = some dj) (hs : dj < a.tmps.size) (hg : G a dj = .bool b) : Region.wanted o (yielded ops a.tmps) = (b == c) := by
  have e : a.tmps[dj]? = some (.bool b) := by
    simp only [G, Array.getD_eq_getD_getElem?] at hg
    rw [Array.getElem?_eq_getElem hs] at hg ⊢
    simpa using hg
  simp [Region.wanted, h, yielded, D, e]
end

/-- what has come up, slot by slot -/
structure RI (w0 : World) (a0 : Act) (N : Nat) (D : List Nat) (Ok : Nat → Value → World → Prop) (Un : Nat → Bool) (L : Nat → Bool) (a : Act) (w : World) : Prop where
  size : a.tmps.size = N
  defs : a.defers = []
  rest : ∀ j, (∀ i d, L i = true → D[i]? = some d → d ≠ j) → G a j = G a0 j
  got : ∀ i d, L i = true → D[i]? = some d → Ok i (G a d) w
  uniq : ∀ i j d e, L i = true → L j = true → Un i = true → Un j = true → i ≠ j → D[i]? = some d → D[j]? = some e → G a d ≠ G a e
  old : Below w0.heap.size w0 w
theorem RI.keep {w0 : World} {a0 : Act} {N : Nat} {D : List Nat} {Ok : Nat → Value → World → Prop} {Un L : Nat → Bool} {a : Act} {w : World} (h : RI w0 a0 N D Ok Un L a w) {s : Nat} (hs : s ∉ D) : G a s = G a0 s :=
  h.rest s (fun _ _ _ hd e => hs (e ▸ List.mem_of_getElem? hd))
theorem RI.start {w0 : World} {a0 : Act} {N : Nat} {D : List Nat} {Ok : Nat → Value → World → Prop} {Un : Nat → Bool} {w : World} (h1 : a0.tmps.size = N) (h2 : a0.defers = []) (h3 : Below w0.heap.size w0 w) : RI w0 a0 N D Ok Un (fun _ => false) a0 w :=
  ⟨h1, h2, fun _ _ => rfl, fun _ _ h => (by cases h), fun _ _ _ _ h => (by cases h), h3⟩
theorem RI.step {w0 : World} {a0 : Act} {N : Nat} {D : List Nat} {Ok : Nat → Value → World → Prop} {Un L : Nat → Bool} {a a' : Act} {w w' : World} (h : RI w0 a0 N D Ok Un L a w) (hD : D.Nodup) (mono : ∀ i v w w', Below w.heap.size w w' → Ok i v w → Ok i v w')
    (i : Nat) {d : Nat} {v : Value} (hi : D[i]? = some d) (U : Upd a d v a') (hd : a'.defers = a.defers) (hb : Below w.heap.size w w') (ok : Ok i v w') (un : Un i = true → ∀ j e, L j = true → Un j = true → D[j]? = some e → v ≠ G a e) : RI w0 a0 N D Ok Un (fun j => j == i || L j) a' w' := by
  have inj : ∀ j, D[j]? = some d → j = i := by
    intro j hj
    have h1 := (List.getElem?_eq_some_iff.1 hi)
    have h2 := (List.getElem?_eq_some_iff.1 hj)
    obtain ⟨l1, e1⟩ := h1
    obtain ⟨l2, e2⟩ := h2
    exact (List.getElem_inj hD).1 (e2.trans e1.symm)
  refine ⟨U.size.trans h.size, hd.trans h.defs, fun j hj => ?_, fun j e hj he => ?_, fun j k e f hj hk uj uk ne he hf => ?_, h.old.trans (hb.mono h.old.size)⟩
  · have hne : j ≠ d := fun e => hj i d (by simp) hi e.symm
    rw [U.rest j hne]
    exact h.rest j (fun i' d' hi' hd' => hj i' d' (by simp [hi']) hd')
  · by_cases e1 : j = i
    · subst e1
      rw [hi] at he
      cases he
      rw [U.got]
      exact ok
    · have hL : L j = true := by simpa [e1] using hj
      have hne : e ≠ d := fun q => e1 (inj j (q ▸ he))
      rw [U.rest e hne]
      exact mono _ _ _ _ hb (h.got j e hL he)
  · by_cases e1 : j = i
    · subst e1
      rw [hi] at he
      cases he
      have hL : L k = true := by simpa [Ne.symm ne] using hk
      have hne : f ≠ d := fun q => ne (inj k (q ▸ hf)).symm
      rw [U.got, U.rest f hne]
      exact un uj k f hL uk hf
    · have hLj : L j = true := by simpa [e1] using hj
      have hne : e ≠ d := fun q => e1 (inj j (q ▸ he))
      rw [U.rest e hne]
      by_cases e2 : k = i
      · subst e2
        rw [hi] at hf
        cases hf
        rw [U.got]
        exact fun q => un uk j e hLj uj he q.symm
      · have hLk : L k = true := by simpa [e2] using hk
        have hne2 : f ≠ d := fun q => e2 (inj k (q ▸ hf))
        rw [U.rest f hne2]
        exact h.uniq j k e f hLj hLk uj uk ne he hf
/-- a frame, slot by slot -/
theorem frame_eqs {a : Act} {N : Nat} (h : a.tmps.size = N) : a.tmps = ((List.range N).map (G a)).toArray := by
  apply Array.ext
  · simp [h]
  · intro i h1 h2
    simp [G, Array.getD_eq_getD_getElem?, Array.getElem?_eq_getElem h1]
theorem frame_is {a : Act} {N : Nat} (hs : a.tmps.size = N) (hd : a.defers = []) : a = { tmps := ((List.range N).map (G a)).toArray, defers := [] } := by
  cases a with
  | mk t d =>
    simp only at hs hd
    subst hd
    congr 1
    exact frame_eqs (a := ⟨t, []⟩) hs
end Go.Proofs.YtnegjbkbfgkkjaaGreatDoor

/- A region that draws, by a list that says what each slot holds when it has come up. -/
namespace Go.Proofs.YtnegjbkbfgkkjaaGreatDoor
open Go.RowKit

/-- what a slot holds: a value; one of which something is known that stays; anything -/
inductive Ds where
  | lit (v : Value)
  | mem (P : Value → World → Prop) (keep : ∀ (v : Value) (w w' : World), Below w.heap.size w w' → P v w → P v w')
  | any
def Ds.ok : Ds → Value → World → Prop
  | .lit v, x, _ => x = v
  | .mem P _, x, w => P x w
  | .any, _, _ => True
def OkL (l : List Ds) (i : Nat) (v : Value) (w : World) : Prop := ((l[i]?).getD .any).ok v w
theorem OkL.mono (l : List Ds) (i : Nat) (v : Value) (w w' : World) (hb : Below w.heap.size w w') (h : OkL l i v w) : OkL l i v w' := by
  unfold OkL at *
  generalize (l[i]?).getD .any = d at h ⊢
  cases d with
  | lit u => exact h
  | mem P k => exact k v w w' hb h
  | any => trivial
abbrev RL (w0 : World) (a0 : Act) (N : Nat) (D : List Nat) (l : List Ds) (L : Nat → Bool) (a : Act) (w : World) : Prop := RI w0 a0 N D (OkL l) (fun _ => false) L a w

section
variable {w0 w : World} {a0 a : Act} {N : Nat} {D : List Nat} {l : List Ds} {L : Nat → Bool} {ops : Array Oper} {Q : Exit → Act → World → Prop} {i d : Nat} {o : Oper}
end

section
variable {a : Act} {w : World} {d : Option Nat} {t : TypeId} {p : String} {af : Array Edge} {g : Option (Nat × Bool)}
theorem run_mv {x : Operand} {v : Value} (h : a.eval x = v) : (execOp a.eval ⟨d, .move x, t, p, af, g⟩).run Tryz.prog w = .ok (.value v) w := by
  generalize a.eval = E at h ⊢
  simp [go_sem, h]
theorem run_asg {x : Operand} {v : Value} (h : a.eval x = v) : (execOp a.eval ⟨d, .assign x, t, p, af, g⟩).run Tryz.prog w = .ok (.value v) w := by
  generalize a.eval = E at h ⊢
  simp [go_sem, h]
theorem run_pickT {c x y : Operand} {v : Value} (h : a.eval c = .bool true) (hx : a.eval x = v) : (execOp a.eval ⟨d, .pick c x y, t, p, af, g⟩).run Tryz.prog w = .ok (.value v) w := by
  generalize a.eval = E at h hx ⊢
  simp [go_sem, h, hx]
theorem run_pickF {c x y : Operand} {v : Value} (h : a.eval c = .bool false) (hy : a.eval y = v) : (execOp a.eval ⟨d, .pick c x y, t, p, af, g⟩).run Tryz.prog w = .ok (.value v) w := by
  generalize a.eval = E at h hy ⊢
  simp [go_sem, h, hy]
theorem run_call1 {n : Nat} {x : Operand} {vx : Value} {ts : Array TypeId} (hx : a.eval x = vx) (hf : ∀ (zs : Array Value) (w : World), Sem.run Tryz.prog (callFunc n zs) w = .ok (.enter n zs) w) :
    (execOp a.eval ⟨d, .call { callee := .value (.func n), args := #[x], argTypes := ts }, t, p, af, g⟩).run Tryz.prog w = .ok (.enter n #[vx]) w := by
  have e1 : a.eval (.func n) = .func (.func n) #[] #[] := rfl
  generalize a.eval = E at hx e1 ⊢
  simp [go_sem, hx, e1, hf]
theorem run_call2 {n : Nat} {x y : Operand} {vx vy : Value} {ts : Array TypeId} (hx : a.eval x = vx) (hy : a.eval y = vy) (hf : ∀ (zs : Array Value) (w : World), Sem.run Tryz.prog (callFunc n zs) w = .ok (.enter n zs) w) :
    (execOp a.eval ⟨d, .call { callee := .value (.func n), args := #[x, y], argTypes := ts }, t, p, af, g⟩).run Tryz.prog w = .ok (.enter n #[vx, vy]) w := by
  have e1 : a.eval (.func n) = .func (.func n) #[] #[] := rfl
  generalize a.eval = E at hx hy e1 ⊢
  simp [go_sem, hx, hy, e1, hf]
end
end Go.Proofs.YtnegjbkbfgkkjaaGreatDoor
