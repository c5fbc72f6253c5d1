/- A region that draws, in which messages are put one behind the other while other things are made. -/
import Derived.Test.YtiplnegiphhdlaaMR
import Derived.Test.YtiplnegiphhdlaaMC
namespace Go.Proofs.Ytiplnegiphhdlaa
open Go.RowKit

/-- nodes, cell by cell -/
def ncs (x : Rf.Node) (lv vv nv mv : Value) : List Value := [.int .i64 x.id, .int .i64 x.n, .int .i64 x.term, .int .i64 x.vote, lv, .int .i64 x.commit, .int .i64 x.role, .int .i64 x.boss, vv, nv, mv]
def NC (P : Nat → Prop) (w : World) : List Rf.Node → List Value → Prop
  | [], cs => cs = []
  | x :: xs, cs => ∃ v rest, cs = v.toList ++ rest ∧ NV P w v x ∧ NC P w xs rest
theorem NV.size {P : Nat → Prop} {w : World} {v : Array Value} {x : Rf.Node} (h : NV P w v x) : v.size = 11 := by
  obtain ⟨lv, vv, nv, mv, rfl, _⟩ := h
  rfl
theorem NC.keep {P Q : Nat → Prop} {w w' : World} (hb : ∀ b, P b → Q b ∧ w'.heap[b]? = w.heap[b]?) : ∀ {xs : List Rf.Node} {cs : List Value}, NC P w xs cs → NC Q w' xs cs
  | [], _, h => h
  | _ :: _, _, ⟨v, rest, h1, h2, h3⟩ => ⟨v, rest, h1, h2.keep hb, NC.keep hb h3⟩
theorem NC.len {P : Nat → Prop} {w : World} : ∀ {xs : List Rf.Node} {cs : List Value}, NC P w xs cs → cs.length = xs.length * 11
  | [], _, h => by rw [NC] at h; subst h; rfl
  | _ :: _, _, ⟨v, rest, h1, h2, h3⟩ => by
    have := NC.len h3
    have := h2.size
    subst h1
    simp
    omega
theorem NC.at {P : Nat → Prop} {w : World} : ∀ {xs : List Rf.Node} {cs : List Value}, NC P w xs cs → ∀ {i : Nat} {x : Rf.Node}, xs[i]? = some x → ∃ v, NV P w v x ∧ ∀ j u, v[j]? = some u → cs[i * 11 + j]? = some u
  | [], _, _, i, x, hi => by simp at hi
  | y :: xs, cs, ⟨v, rest, h1, h2, h3⟩, 0, x, hi => by
    simp at hi
    subst hi h1
    refine ⟨v, h2, fun j u hj => ?_⟩
    have : j < v.toList.length := by simpa using (Array.getElem?_eq_some_iff.1 hj).1
    rw [Nat.zero_mul, Nat.zero_add, List.getElem?_append_left this]
    simpa using hj
  | y :: xs, cs, ⟨v, rest, h1, h2, h3⟩, i + 1, x, hi => by
    obtain ⟨v', k1, k2⟩ := NC.at h3 (i := i) (x := x) (by simpa using hi)
    subst h1
    refine ⟨v', k1, fun j u hj => ?_⟩
    have hl : v.toList.length = 11 := by simpa using h2.size
    rw [List.getElem?_append_right (by omega), hl, show (i + 1) * 11 + j - 11 = i * 11 + j by omega]
    exact k2 j u hj
def NsV (P : Nat → Prop) (w : World) (v : Value) (xs : List Rf.Node) : Prop := ∃ cs, SC P w v 11 xs.length cs ∧ NC P w xs cs
theorem NsV.keep {P Q : Nat → Prop} {w w' : World} {v : Value} {xs : List Rf.Node} (hb : ∀ b, P b → Q b ∧ w'.heap[b]? = w.heap[b]?) (h : NsV P w v xs) : NsV Q w' v xs := by
  obtain ⟨cs, h1, h2⟩ := h
  exact ⟨cs, h1.keep hb, h2.keep hb⟩
theorem NsV.at {P : Nat → Prop} {w : World} {b off cap n : Nat} {l : List Rf.Node} (h : NsV P w (.slice (some ⟨b, off, none⟩) n cap) l) {i : Nat} {x : Rf.Node} (hx : l[i]? = some x) : ∃ v, NV P w v x ∧ ∀ j u, v[j]? = some u → w.cell? ⟨b, off + i * 11 + j, none⟩ = some u := by
  obtain ⟨cs, ⟨_, a, cap', e, _, _, h5⟩, hM⟩ := h
  have hl : l.length ≠ 0 := by intro e; rw [List.length_eq_zero_iff.1 e] at hx; simp at hx
  obtain ⟨b', off', e1, _, e3⟩ := h5 hl
  rw [e1] at e
  cases e
  obtain ⟨v, k1, k2⟩ := hM.at hx
  exact ⟨v, k1, fun j u hj => by have := e3 _ u (k2 j u hj); rwa [← Nat.add_assoc] at this⟩
theorem NsV.ex {P : Nat → Prop} {w : World} {v : Value} {l : List Rf.Node} (h : NsV P w v l) (hl : l ≠ []) : ∃ b off cap, v = .slice (some ⟨b, off, none⟩) l.length cap ∧ P b ∧ l.length ≤ cap ∧ cap ≤ 9223372036854775807 := by
  obtain ⟨cs, ⟨_, a, cap, e, h3, h4, h5⟩, _⟩ := h
  obtain ⟨b, off, e1, e2, _⟩ := h5 (fun e => hl (List.length_eq_zero_iff.1 e))
  exact ⟨b, off, cap, by rw [e, e1], e2, h3, h4⟩

/-- what is told: a node of old blocks and new ones, and new messages -/
def PN (P : Nat → Prop) (w : World) (x : Rf.Node) (e : Ending) (w' : World) : Prop := ∃ v, e = .returned (.agg v) ∧ NV (fun b => P b ∨ Fresh w w' b) w' v x ∧ Below w.heap.size w w'
def PNM (P : Nat → Prop) (w : World) (x : Rf.Node × List Rf.Msg) (e : Ending) (w' : World) : Prop := ∃ v m, e = .returned (.tuple #[.agg v, m]) ∧ NV (fun b => P b ∨ Fresh w w' b) w' v x.1 ∧ MV (Fresh w w') w' m x.2 ∧ Below w.heap.size w w'
def PNMB (P : Nat → Prop) (w : World) (x : Rf.Node × List Rf.Msg × Bool) (e : Ending) (w' : World) : Prop := ∃ v m, e = .returned (.tuple #[.agg v, m, .bool x.2.2]) ∧ NV (fun b => P b ∨ Fresh w w' b) w' v x.1 ∧ MV (Fresh w w') w' m x.2.1 ∧ Below w.heap.size w w'

/-- messages that a slice owns, whatever they hold -/
def MO0 (B : Nat) (w : World) (sv : Value) (ms : List Rf.Msg) : Prop := ∃ cs, w.ownsRow B 49 9 sv ms.length cs ∧ MC (fun b => b < w.heap.size ∧ sv.ownBlock ≠ some b) w ms cs
theorem MO0.nil (B : Nat) (w : World) : MO0 B w (.slice none 0 0) [] := ⟨[], World.ownsRow_nil _ _ _ _, rfl⟩
theorem MO0.below {B : Nat} {w w' : World} {sv : Value} {ms : List Rf.Msg} (h : MO0 B w sv ms) (hb : Below w.heap.size w w') : MO0 B w' sv ms := by
  obtain ⟨cs, h1, h2⟩ := h
  exact ⟨cs, own_below h1 hb, h2.keep fun b hp => ⟨⟨Nat.lt_of_lt_of_le hp.1 hb.size, hp.2⟩, hb.block b hp.1⟩⟩
theorem MO0.mv {B : Nat} {w : World} {sv : Value} {ms : List Rf.Msg} (h : MO0 B w sv ms) : Mv w sv ms := by
  obtain ⟨cs, h1, h2⟩ := h
  exact ⟨cs, SC.own h1, h2.keep fun b hp => ⟨hp.1, rfl⟩⟩
theorem MO0.next {B : Nat} {w w' : World} {sv sv' : Value} {ms ks : List Rf.Msg} {cs ds : List Value} (h2 : MC (fun b => b < w.heap.size ∧ sv.ownBlock ≠ some b) w ms cs)
    (k : MC (fun b => b < w.heap.size ∧ sv.ownBlock ≠ some b) w ks ds) (ho : w'.ownsRow B 49 9 sv' (ms.length + ks.length) (cs ++ ds)) (hg : w.grownBy w' sv.ownBlock) (hat : sv'.ownBlock = sv.ownBlock ∨ sv'.ownBlock = some w.heap.size) : MO0 B w' sv' (ms ++ ks) := by
  have hk : ∀ b, (b < w.heap.size ∧ sv.ownBlock ≠ some b) → (b < w'.heap.size ∧ sv'.ownBlock ≠ some b) ∧ w'.heap[b]? = w.heap[b]? := by
    intro b ⟨hb, hn⟩
    refine ⟨⟨Nat.lt_of_lt_of_le hb hg.size, fun e => ?_⟩, hg.block b hb (fun e => hn e.symm)⟩
    rcases hat with h | h
    · exact hn (h ▸ e)
    · rw [h] at e; cases e; omega
  refine ⟨cs ++ ds, by rw [List.length_append]; exact ho, MC.app (k.keep hk) (h2.keep hk)⟩
/-- what has come up: a row of messages that is grown, and what else is known, in other blocks -/
structure RM (w0 : World) (a0 : Act) (N : Nat) (D : List Nat) (Ok : Nat → Value → (Nat → Prop) → World → Prop) (stage : (Nat → Bool) → Option (Nat × List Rf.Msg)) (L : Nat → Bool) (a : Act) (w : World) : Prop where
  size : a.tmps.size = N
  defs : a.defers = []
  rest : ∀ j, (∀ i d, L i = true → D[i]? = some d → d ≠ j) → G a j = G a0 j
  row : ∃ sv, MO0 w0.heap.size w sv (((stage L).map (·.2)).getD []) ∧ (∀ d ms, stage L = some (d, ms) → G a d = sv) ∧ (stage L = none → sv = .slice none 0 0) ∧ ∀ i d, L i = true → D[i]? = some d → Ok i (G a d) (fun b => b < w.heap.size ∧ sv.ownBlock ≠ some b) w
  old : Below w0.heap.size w0 w
section
variable {w0 w w' : World} {a0 a a' : Act} {N : Nat} {D : List Nat} {Ok : Nat → Value → (Nat → Prop) → World → Prop} {stage : (Nat → Bool) → Option (Nat × List Rf.Msg)} {L : Nat → Bool}
theorem RM.keep (h : RM w0 a0 N D Ok stage L a w) {s : Nat} (hs : s ∉ D) : G a s = G a0 s :=
  h.rest s (fun _ _ _ hd e => hs (e ▸ List.mem_of_getElem? hd))
theorem nodup_at {D : List Nat} (nd : D.Nodup) {i j d : Nat} (hi : D[i]? = some d) (hj : D[j]? = some d) : j = i := by
  obtain ⟨l1, e1⟩ := List.getElem?_eq_some_iff.1 hi
  obtain ⟨l2, e2⟩ := List.getElem?_eq_some_iff.1 hj
  exact (List.getElem_inj nd).1 (e2.trans e1.symm)
theorem RM.restStep (h : RM w0 a0 N D Ok stage L a w) {i d : Nat} {v : Value} (hi : D[i]? = some d) (U : UpdQ a d v a') : ∀ j, (∀ i' d', (i' == i || L i') = true → D[i']? = some d' → d' ≠ j) → G a' j = G a0 j := fun j hj => by
  have hne : j ≠ d := fun e => hj i d (by simp) hi e.symm
  rw [U.rest j hne]
  exact h.rest j (fun i' d' hi' hd' => hj i' d' (by simp [hi']) hd')
/-- something is made beside the row -/
theorem RM.step (h : RM w0 a0 N D Ok stage L a w) (nd : D.Nodup) (mono : ∀ i v P Q w w', (∀ b, P b → Q b ∧ w'.heap[b]? = w.heap[b]?) → Ok i v P w → Ok i v Q w') (i : Nat) {d : Nat} {v : Value} (hi : D[i]? = some d) (U : UpdQ a d v a') (hd : a'.defers = a.defers) (hb : Below w.heap.size w w')
    (hst : stage (fun j => j == i || L j) = stage L) (hds : ∀ e ms, stage L = some (e, ms) → e ≠ d) (ok : ∀ sv : Value, (∀ k, sv.ownBlock = some k → w0.heap.size ≤ k ∧ k < w.heap.size) → (∀ i' d', L i' = true → D[i']? = some d' → Ok i' (G a d') (fun b => b < w.heap.size ∧ sv.ownBlock ≠ some b) w) → Ok i v (fun b => b < w'.heap.size ∧ sv.ownBlock ≠ some b) w') : RM w0 a0 N D Ok stage (fun j => j == i || L j) a' w' := by
  obtain ⟨sv, r1, r2, r3, r4⟩ := h.row
  refine ⟨U.size.trans h.size, hd.trans h.defs, h.restStep hi U, ⟨sv, ?_, ?_, ?_, ?_⟩, h.old.trans (hb.mono h.old.size)⟩
  · rw [hst]; exact r1.below hb
  · intro e ms he
    rw [hst] at he
    rw [U.rest e (hds e ms he)]
    exact r2 e ms he
  · rw [hst]; exact r3
  · intro j e hj he
    by_cases e1 : j = i
    · subst e1
      rw [hi] at he
      cases he
      rw [U.got]
      obtain ⟨cs, o1, _⟩ := r1
      exact ok sv (fun k hk => World.ownsRow.lt o1 k hk) r4
    · have hL : L j = true := by simpa [e1] using hj
      have hne : e ≠ d := fun q => e1 (nodup_at nd hi (q ▸ he))
      rw [U.rest e hne]
      exact mono _ _ _ _ _ _ (fun b hp => ⟨⟨Nat.lt_of_lt_of_le hp.1 hb.size, hp.2⟩, hb.block b hp.1⟩) (r4 j e hL he)
/-- the row grows -/
theorem RM.grow (h : RM w0 a0 N D Ok stage L a w) (nd : D.Nodup) (mono : ∀ i v P Q w w', (∀ b, P b → Q b ∧ w'.heap[b]? = w.heap[b]?) → Ok i v P w → Ok i v Q w') (i : Nat) {d : Nat} {v : Value} (hi : D[i]? = some d) (U : UpdQ a d v a') (hd : a'.defers = a.defers)
    {sv : Value} {ms : List Rf.Msg} (r4 : ∀ i d, L i = true → D[i]? = some d → Ok i (G a d) (fun b => b < w.heap.size ∧ sv.ownBlock ≠ some b) w) (hst : stage (fun j => j == i || L j) = some (d, ms)) (hM : MO0 w0.heap.size w' v ms) (hg : w.grownBy w' sv.ownBlock) (hat : v.ownBlock = sv.ownBlock ∨ v.ownBlock = some w.heap.size) (hlow : ∀ k, sv.ownBlock = some k → w0.heap.size ≤ k)
    (ok : ∀ P w, Ok i v P w) : RM w0 a0 N D Ok stage (fun j => j == i || L j) a' w' := by
  refine ⟨U.size.trans h.size, hd.trans h.defs, h.restStep hi U, ⟨v, ?_, ?_, ?_, ?_⟩, h.old.trans ((Below.refl _ _).grown hg h.old.size hlow)⟩
  · rw [hst]; exact hM
  · intro e ms' he
    rw [hst] at he
    cases he
    exact U.got
  · rw [hst]; intro q; cases q
  · intro j e hj he
    by_cases e1 : j = i
    · subst e1
      rw [hi] at he
      cases he
      rw [U.got]
      exact ok _ _
    · have hL : L j = true := by simpa [e1] using hj
      have hne : e ≠ d := fun q => e1 (nodup_at nd hi (q ▸ he))
      rw [U.rest e hne]
      refine mono _ _ _ _ _ _ (fun b hp => ⟨⟨Nat.lt_of_lt_of_le hp.1 hg.size, fun q => ?_⟩, hg.block b hp.1 (fun q => hp.2 q.symm)⟩) (r4 j e hL he)
      rcases hat with q1 | q1
      · exact hp.2 (q1 ▸ q)
      · rw [q1] at q
        cases q
        exact absurd hp.1 (Nat.lt_irrefl _)
theorem RM.start (h1 : a0.tmps.size = N) (h2 : a0.defers = []) (h3 : Below w0.heap.size w0 w) (hs : stage (fun _ => false) = none) : RM w0 a0 N D Ok stage (fun _ => false) a0 w :=
  ⟨h1, h2, fun _ _ => rfl, ⟨_, by rw [hs]; exact MO0.nil _ _, by rw [hs]; (intro d ms q; cases q), fun _ => rfl, fun _ _ h => (by cases h)⟩, h3⟩
end

end Go.Proofs.Ytiplnegiphhdlaa
