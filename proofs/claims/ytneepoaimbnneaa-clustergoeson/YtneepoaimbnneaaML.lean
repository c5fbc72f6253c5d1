/- Walks: all steps of a node (verdictlaw15.all), given what each step tells. (Written by gen_ml.py.) -/
import Derived.Test.YtneepoaimbnneaaMK
namespace Go.Proofs.Ytneepoaimbnneaa.Rf
theorem others_len (x : Node) : (others x).length ≤ x.n.toNat := by
  have := List.length_filter_le (fun q => decide (q ≠ x.id)) ((List.range x.n.toNat).map (fun i : Nat => (i : Int) + 1))
  rw [List.length_map, List.length_range] at this
  exact this
theorem batches_len (x : Node) : (batches x).length ≤ x.n.toNat := by rw [batches, List.length_map]; exact others_len x
theorem put_len (x : Node) (c : Int) : (put x c).2.length ≤ x.n.toNat := batches_len _
theorem elect_len (x : Node) : (elect x).2.length ≤ x.n.toNat := by
  unfold elect
  split
  · exact put_len _ _
  · exact Nat.zero_le _
theorem n_of {x : Node} (h : wrongN x = 0) : x.n.toNat ≤ 5 := by have := ((wrongN_ok x).1 h).n.2; omega
theorem timeout_len (x : Node) : (timeout x).2.length ≤ 10 := by
  unfold timeout
  split
  · exact Nat.zero_le _
  · rename_i h
    have h5 : x.n.toNat ≤ 5 := n_of (Classical.byContradiction fun q => h (.inl q))
    have h1 := others_len (asks x)
    have h2 := elect_len (asks x)
    have e : (asks x).n = x.n := rfl
    rw [e] at h1 h2
    simp only [List.length_append, List.length_map]
    omega
theorem beat_len (x : Node) : (beat x).2.length ≤ 10 := by
  unfold beat
  split
  · exact Nat.zero_le _
  · rename_i h
    have h5 : x.n.toNat ≤ 5 := n_of (Classical.byContradiction fun q => h (.inl q))
    have := batches_len x
    simp only
    omega
theorem propose_len (x : Node) (c : Int) : (propose x c).2.1.length ≤ 10 := by
  unfold propose
  split
  · exact Nat.zero_le _
  · rename_i h
    have h5 : x.n.toNat ≤ 5 := n_of (Classical.byContradiction fun q => h (.inl q))
    have := put_len x c
    simp only
    omega
theorem receive_len (x : Node) (m : Msg) : (receive x m).2.length ≤ 10 := by
  unfold receive
  split
  · exact Nat.zero_le _
  · rename_i h
    have h5 : x.n.toNat ≤ 5 := n_of (Classical.byContradiction fun q => h (.inl q))
    have e : (bump x m.term).n = x.n := by unfold bump; split <;> rfl
    rw [← e] at h5
    generalize bump x m.term = y at h5 ⊢
    unfold byKind
    split
    · unfold onVote; split <;> simp
    · split
      · unfold onVoted
        split
        · exact Nat.zero_le _
        · have := elect_len { y with votes := voters y m.frm }
          have e2 : ({ y with votes := voters y m.frm } : Node).n = y.n := rfl
          rw [e2] at this
          omega
      · split
        · unfold onAppend; split
          · simp
          · split <;> simp
        · unfold onAppended; split
          · simp
          · split
            · split <;> simp
            · simp
/-- what a node may become, and what it says -/
def allN (x : Node) (m : Msg) (c : Int) : List Node := [(timeout x).1, (beat x).1, (propose x c).1, (receive x m).1, restart x]
def allM (x : Node) (m : Msg) (c : Int) : List Msg := (timeout x).2 ++ (beat x).2 ++ (propose x c).2.1 ++ (receive x m).2

end Go.Proofs.Ytneepoaimbnneaa.Rf

namespace Go.Proofs.Ytneepoaimbnneaa
open Go.RowKit

/-- what the package tells -/
structure RC (Fit : Rf.Node → Prop) (FitM : Rf.Msg → Prop) : Prop where
  wrong : ∀ (x : Rf.Node) (v : Array Value) (w : World), Nv w v x → Fit x → Calls Try.prog 44 #[.agg v] w fun e w' => e = .returned (.int .i64 (Rf.wrongN x)) ∧ Below w.heap.size w w'
  timeout : ∀ (P : Nat → Prop) (x : Rf.Node) (v : Array Value) (w : World), NV P w v x → (∀ b, P b → b < w.heap.size) → Fit x → Calls Try.prog 27 #[.agg v] w (PNM P w (Rf.timeout x))
  beat : ∀ (P : Nat → Prop) (x : Rf.Node) (v : Array Value) (w : World), NV P w v x → (∀ b, P b → b < w.heap.size) → Fit x → Calls Try.prog 28 #[.agg v] w (PNM P w (Rf.beat x))
  propose : ∀ (P : Nat → Prop) (x : Rf.Node) (v : Array Value) (c : Int) (w : World), NV P w v x → (∀ b, P b → b < w.heap.size) → Fit x → Calls Try.prog 30 #[.agg v, .int .i64 c] w (PNMB P w (Rf.propose x c))
  receive : ∀ (P : Nat → Prop) (x : Rf.Node) (m : Rf.Msg) (v g : Array Value) (w : World), NV P w v x → GV P w g m → (∀ b, P b → b < w.heap.size) → Fit x → FitM m → Calls Try.prog 35 #[.agg v, .agg g] w (PNM P w (Rf.receive x m))
  restart : ∀ (P : Nat → Prop) (x : Rf.Node) (v : Array Value) (w : World), NV P w v x → (∀ b, P b → b < w.heap.size) → Fit x → Calls Try.prog 32 #[.agg v] w (PN P w (Rf.restart x))
  start : ∀ (i n : Int) (w : World), Calls Try.prog 15 #[.int .i64 i, .int .i64 n] w (PN (fun _ => False) w (Rf.start i n))

/-- what each operation leaves -/
def OkA (c0 c1 c2 c3 c4 : Array Value) (xr : Rf.Node) (xs : List Rf.Node) (k0 k1 k2 k3 : Value) : Nat → Value → (Nat → Prop) → World → Prop
  | 0, v, _, _ => v = .agg c0
  | 1, v, _, _ => v = .agg c1
  | 2, v, _, _ => v = .agg c2
  | 3, v, _, _ => v = .agg c3
  | 4, v, _, _ => v = .agg c4
  | 5, v, P, w => ∃ u, v = .agg u ∧ NV P w u xr
  | 6, v, P, w => NsV P w v xs
  | 8, v, _, _ => v = k0
  | 10, v, _, _ => v = k1
  | 12, v, _, _ => v = k2
  | 14, v, _, _ => v = k3
  | 16, v, P, w => NsV P w v xs
  | _, _, _, _ => True
theorem OkA.mono (c0 c1 c2 c3 c4 : Array Value) (xr : Rf.Node) (xs : List Rf.Node) (k0 k1 k2 k3 : Value) : ∀ (i : Nat) (v : Value) (P Q : Nat → Prop) (w w' : World), (∀ b, P b → Q b ∧ w'.heap[b]? = w.heap[b]?) → OkA c0 c1 c2 c3 c4 xr xs k0 k1 k2 k3 i v P w → OkA c0 c1 c2 c3 c4 xr xs k0 k1 k2 k3 i v Q w' := by
  intro i v P Q w w' hb h
  unfold OkA at *
  split at h <;> first | exact h | (obtain ⟨u, h1, h2⟩ := h; exact ⟨u, h1, h2.keep hb⟩) | exact NsV.keep hb h
/-- which slot holds the row, and what is in it -/
def stA (e1 e2 e3 e4 : List Rf.Msg) (L : Nat → Bool) : Option (Nat × List Rf.Msg) :=
  if L 17 then some (7, e4) else if L 15 then some (55, e4) else if L 13 then some (53, e3) else if L 11 then some (51, e2) else if L 9 then some (49, e1) else if L 7 then some (47, []) else none
theorem stA_in {e1 e2 e3 e4 : List Rf.Msg} {L : Nat → Bool} {d : Nat} {ms : List Rf.Msg} (h : stA e1 e2 e3 e4 L = some (d, ms)) : d = 7 ∨ d = 55 ∨ d = 53 ∨ d = 51 ∨ d = 49 ∨ d = 47 := by
  unfold stA at h
  repeat (split at h; · (cases h; simp))
  cases h
theorem stA_ne {e1 e2 e3 e4 : List Rf.Msg} {L : Nat → Bool} {d : Nat} (hd : d ≠ 7 ∧ d ≠ 55 ∧ d ≠ 53 ∧ d ≠ 51 ∧ d ≠ 49 ∧ d ≠ 47) : ∀ e ms, stA e1 e2 e3 e4 L = some (e, ms) → e ≠ d := by
  intro e ms h q
  have := stA_in h
  omega
theorem stA_same {e1 e2 e3 e4 : List Rf.Msg} {L : Nat → Bool} {i : Nat} (h : i ≠ 17 ∧ i ≠ 15 ∧ i ≠ 13 ∧ i ≠ 11 ∧ i ≠ 9 ∧ i ≠ 7) : stA e1 e2 e3 e4 (fun j => j == i || L j) = stA e1 e2 e3 e4 L := by
  have q : ∀ k, k ≠ i → (k == i || L k) = L k := fun k hk => by simp [hk]
  unfold stA
  simp only [q 17 (by omega), q 15 (by omega), q 13 (by omega), q 11 (by omega), q 9 (by omega), q 7 (by omega)]

end Go.Proofs.Ytneepoaimbnneaa
