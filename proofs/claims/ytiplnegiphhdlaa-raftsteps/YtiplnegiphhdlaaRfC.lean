/- Raft in plain words: what the document's chapter 15 tells of a node. -/
import Derived.Test.YtiplnegiphhdlaaRfB
namespace Go.Proofs.Ytiplnegiphhdlaa.Rf

def inB (a lo hi : Int) : Prop := lo ≤ a ∧ a ≤ hi
instance (a lo hi : Int) : Decidable (inB a lo hi) := by unfold inB; infer_instance
/-- terms from 1 to most, none less than the one ahead -/
def rises (l : List Item) (most : Int) : Prop := (∀ x ∈ l, inB x.1 1 most) ∧ l.Pairwise (fun a b => a.1 ≤ b.1)
instance (l : List Item) (most : Int) : Decidable (rises l most) := by unfold rises; infer_instance
def votesOk (l : List Int) (n : Int) : Prop := (∀ v ∈ l, inB v 1 n) ∧ l.Pairwise (fun a b => a < b)
instance (l : List Int) (n : Int) : Decidable (votesOk l n) := by unfold votesOk; infer_instance
def placesOk (x : Node) : Prop := (∀ v ∈ x.next, inB v 1 ((x.log.length : Int) + 1)) ∧ ∀ v ∈ x.mtch, inB v 0 (x.log.length : Int)
instance (x : Node) : Decidable (placesOk x) := by unfold placesOk; infer_instance
def rangeOk (x : Node) : Prop := inB x.n 1 5 ∧ inB x.id 1 x.n ∧ inB x.vote 0 x.n ∧ inB x.boss 0 x.n ∧ inB x.term 0 1000000 ∧ inB x.commit 0 (x.log.length : Int)
instance (x : Node) : Decidable (rangeOk x) := by unfold rangeOk; infer_instance
def lensOk (x : Node) : Prop := if x.role = 3 then (x.next.length : Int) = x.n ∧ (x.mtch.length : Int) = x.n else x.next = [] ∧ x.mtch = []
instance (x : Node) : Decidable (lensOk x) := by unfold lensOk; infer_instance
/-- what is wrong with a node -/
def wrongN (x : Node) : Int :=
  if ¬ rangeOk x then 3 else if ¬ inB x.role 1 3 ∨ x.term = 0 ∧ x.role ≠ 1 then 1 else if 60 < x.log.length then 4 else if ¬ rises x.log x.term then 2
  else if x.role ≠ 2 ∧ x.votes ≠ [] then 8 else if ¬ votesOk x.votes x.n then 2 else if ¬ lensOk x then 8 else if ¬ placesOk x then 3 else 0
structure Right (x : Node) : Prop where
  n : inB x.n 1 5
  id : inB x.id 1 x.n
  vote : inB x.vote 0 x.n
  boss : inB x.boss 0 x.n
  term : inB x.term 0 1000000
  commit : inB x.commit 0 (x.log.length : Int)
  role : inB x.role 1 3
  zero : x.term = 0 → x.role = 1
  log : x.log.length ≤ 60
  rise : rises x.log x.term
  novotes : x.role ≠ 2 → x.votes = []
  votes : votesOk x.votes x.n
  lens : lensOk x
  places : placesOk x
theorem wrongN_ok (x : Node) : wrongN x = 0 ↔ Right x := by
  unfold wrongN
  constructor
  · intro h
    by_cases h1 : rangeOk x
    · rw [if_neg (by simpa using h1)] at h
      by_cases h2 : ¬ inB x.role 1 3 ∨ x.term = 0 ∧ x.role ≠ 1
      · rw [if_pos h2] at h; cases h
      rw [if_neg h2] at h
      by_cases h3 : 60 < x.log.length
      · rw [if_pos h3] at h; cases h
      rw [if_neg h3] at h
      by_cases h4 : rises x.log x.term
      · rw [if_neg (by simpa using h4)] at h
        by_cases h5 : x.role ≠ 2 ∧ x.votes ≠ []
        · rw [if_pos h5] at h; cases h
        rw [if_neg h5] at h
        by_cases h6 : votesOk x.votes x.n
        · rw [if_neg (by simpa using h6)] at h
          by_cases h7 : lensOk x
          · rw [if_neg (by simpa using h7)] at h
            by_cases h8 : placesOk x
            · obtain ⟨a, b, c, d, e, f⟩ := h1
              refine ⟨a, b, c, d, e, f, ?_, ?_, by omega, h4, ?_, h6, h7, h8⟩
              · exact Classical.byContradiction (fun q => h2 (.inl q))
              · intro t
                exact Classical.byContradiction (fun q => h2 (.inr ⟨t, q⟩))
              · intro r
                exact Classical.byContradiction (fun q => h5 ⟨r, q⟩)
            · rw [if_pos h8] at h; cases h
          · rw [if_pos h7] at h; cases h
        · rw [if_pos h6] at h; cases h
      · rw [if_pos h4] at h; cases h
    · rw [if_pos h1] at h; cases h
  · intro r
    have h1 : rangeOk x := ⟨r.n, r.id, r.vote, r.boss, r.term, r.commit⟩
    rw [if_neg (not_not_intro h1), if_neg, if_neg (by have := r.log; omega), if_neg (not_not_intro r.rise), if_neg, if_neg (not_not_intro r.votes), if_neg (not_not_intro r.lens), if_neg (not_not_intro r.places)]
    · rintro ⟨a, b⟩
      exact b (r.novotes a)
    · rintro (a | ⟨a, b⟩)
      · exact a r.role
      · exact b (r.zero a)

/-- a message that is nothing to a node -/
def Lost (x : Node) (m : Msg) : Prop := ¬ (m.dest = x.id ∧ inB m.frm 1 x.n ∧ m.frm ≠ x.id ∧ inB m.kind 1 4 ∧ inB m.term 1 1000000 ∧ inB m.index 0 60 ∧ 0 ≤ m.commit ∧ inB m.logTerm 0 m.term ∧ m.index + (m.items.length : Int) ≤ 60 ∧ rises m.items m.term ∧ ∀ y, m.items[0]? = some y → m.logTerm ≤ y.1)
instance (x : Node) (m : Msg) : Decidable (Lost x m) := by
  unfold Lost
  have : Decidable (∀ y, m.items[0]? = some y → m.logTerm ≤ y.1) := by
    cases m.items[0]? with
    | none => exact .isTrue (fun y h => by cases h)
    | some z => exact decidable_of_iff (m.logTerm ≤ z.1) ⟨fun h y e => by cases e; exact h, fun h => h z rfl⟩
  infer_instance

def others (x : Node) : List Int := ((List.range x.n.toNat).map (fun i : Nat => (i : Int) + 1)).filter (fun q => q ≠ x.id)
def most (n : Int) (k : Nat) : Prop := n < 2 * (k : Int)
instance (n : Int) (k : Nat) : Decidable (most n k) := by unfold most; infer_instance
/-- what a leader sends to one -/
def batch (x : Node) (k : Int) : Msg :=
  { kind := 3, frm := x.id, dest := k, term := x.term, index := (x.next.getD (k - 1).toNat 0) - 1, logTerm := atN x.log ((x.next.getD (k - 1).toNat 0) - 1).toNat, commit := x.commit, items := (x.log.drop ((x.next.getD (k - 1).toNat 0) - 1).toNat).take 3, yes := false }
def batches (x : Node) : List Msg := (others x).map (batch x)
/-- how many have so many items -/
def have9 (x : Node) (i : Nat) : Nat := x.mtch.countP (fun v => decide ((i : Int) ≤ v))
/-- the last of so many that most have, of its term -/
def sureN (x : Node) : Nat → Int
  | 0 => x.commit
  | i + 1 => if x.commit < ((i + 1 : Nat) : Int) ∧ most x.n (have9 x (i + 1)) ∧ atN x.log (i + 1) = x.term then ((i + 1 : Nat) : Int) else sureN x i
def sure (x : Node) : Node := { x with commit := sureN x x.log.length }
/-- a leader's log with an item more, if there is room -/
def grown (x : Node) (cmd : Int) : List Item := if x.log.length < 60 then x.log ++ [(x.term, cmd)] else x.log
def putOne (x : Node) (cmd : Int) : Node :=
  { x with log := grown x cmd, mtch := x.mtch.set (x.id - 1).toNat ((grown x cmd).length : Int), next := x.next.set (x.id - 1).toNat (((grown x cmd).length : Int) + 1) }
def put (x : Node) (cmd : Int) : Node × List Msg := (sure (putOne x cmd), batches (sure (putOne x cmd)))
def crowned (x : Node) : Node := { x with role := 3, boss := x.id, votes := [], next := List.replicate x.n.toNat ((x.log.length : Int) + 1), mtch := List.replicate x.n.toNat 0 }
def elect (x : Node) : Node × List Msg := if most x.n x.votes.length then put (crowned x) 0 else (x, [])
def asks (x : Node) : Node := { x with term := x.term + 1, role := 2, boss := 0, vote := x.id, votes := [x.id] }
def voteMsg (x : Node) (k : Int) : Msg := { kind := 1, frm := x.id, dest := k, term := x.term, index := x.log.length, logTerm := lastT x.log, commit := 0, items := [], yes := false }
def timeout (x : Node) : Node × List Msg :=
  if wrongN x ≠ 0 ∨ x.role = 3 ∨ x.term = 1000000 then (x, []) else ((elect (asks x)).1, (others (asks x)).map (voteMsg (asks x)) ++ (elect (asks x)).2)
def beat (x : Node) : Node × List Msg := if wrongN x ≠ 0 ∨ x.role ≠ 3 then (x, []) else (x, batches x)
def propose (x : Node) (cmd : Int) : Node × List Msg × Bool := if wrongN x ≠ 0 ∨ x.role ≠ 3 ∨ 60 ≤ x.log.length then (x, [], false) else ((put x cmd).1, (put x cmd).2, true)
def follow (x : Node) (boss : Int) : Node := { x with role := 1, boss := boss, votes := [], next := [], mtch := [] }
def restart (x : Node) : Node := if wrongN x ≠ 0 then x else { follow x 0 with commit := 0 }
/-- a later term is taken -/
def bump (x : Node) (t : Int) : Node := if x.term < t then { follow x 0 with term := t, vote := 0 } else x
def back (x : Node) (m : Msg) (kind : Int) (yes : Bool) (index : Int) : Msg := { kind := kind, frm := x.id, dest := m.frm, term := x.term, index := index, logTerm := 0, commit := 0, items := [], yes := yes }
def mayVote (x : Node) (m : Msg) : Prop := m.term = x.term ∧ (x.vote = 0 ∨ x.vote = m.frm) ∧ ¬ (m.logTerm < lastT x.log ∨ m.logTerm = lastT x.log ∧ m.index < (x.log.length : Int))
instance (x : Node) (m : Msg) : Decidable (mayVote x m) := by unfold mayVote; infer_instance
def onVote (x : Node) (m : Msg) : Node × List Msg := if mayVote x m then ({ x with vote := m.frm }, [back x m 2 true 0]) else (x, [back x m 2 false 0])
/-- the votes with one more, rising -/
def voters (x : Node) (k : Int) : List Int := ((List.range x.n.toNat).map (fun i : Nat => (i : Int) + 1)).filter (fun q => q = k ∨ q ∈ x.votes)
def onVoted (x : Node) (m : Msg) : Node × List Msg := if x.role ≠ 2 ∨ m.term ≠ x.term ∨ m.yes = false then (x, []) else elect { x with votes := voters x m.frm }
/-- with a message's items -/
def takenBy (x : Node) (m : Msg) : Node :=
  { x with log := taken x.log m.index.toNat m.items,
           commit := max (if held x.log m.index.toNat m.items < m.items.length then min x.commit ((taken x.log m.index.toNat m.items).length : Int) else x.commit) (min m.commit (m.index + (m.items.length : Int))) }
def fits (x : Node) (m : Msg) : Prop := m.index ≤ (x.log.length : Int) ∧ (m.index = 0 ∨ atN x.log m.index.toNat = m.logTerm)
instance (x : Node) (m : Msg) : Decidable (fits x m) := by unfold fits; infer_instance
def onAppend (x : Node) (m : Msg) : Node × List Msg :=
  if m.term ≠ x.term ∨ x.role = 3 then (x, [back x m 4 false x.log.length])
  else if fits x m then (takenBy (follow x m.frm) m, [back x m 4 true (m.index + (m.items.length : Int))])
  else (follow x m.frm, [back x m 4 false (min (x.log.length : Int) (m.index - 1))])
def had (x : Node) (m : Msg) : Int := max (min m.index (x.log.length : Int)) (x.mtch.getD (m.frm - 1).toNat 0)
def heardYes (x : Node) (m : Msg) : Node := { x with mtch := x.mtch.set (m.frm - 1).toNat (had x m), next := x.next.set (m.frm - 1).toNat (had x m + 1) }
def nextNo (x : Node) (m : Msg) : Int := max 1 (min (x.next.getD (m.frm - 1).toNat 0 - 1) (m.index + 1))
def heardNo (x : Node) (m : Msg) : Node := { x with next := x.next.set (m.frm - 1).toNat (nextNo x m) }
def onAppended (x : Node) (m : Msg) : Node × List Msg :=
  if x.role ≠ 3 ∨ m.term ≠ x.term then (x, [])
  else if m.yes = true then (sure (heardYes x m), if had x m < (x.log.length : Int) then [batch (sure (heardYes x m)) m.frm] else [])
  else (heardNo x m, [batch (heardNo x m) m.frm])
def byKind (x : Node) (m : Msg) : Node × List Msg := if m.kind = 1 then onVote x m else if m.kind = 2 then onVoted x m else if m.kind = 3 then onAppend x m else onAppended x m
def receive (x : Node) (m : Msg) : Node × List Msg := if wrongN x ≠ 0 ∨ Lost x m then (x, []) else byKind (bump x m.term) m
def start (id n : Int) : Node := { id := id, n := n, term := 0, vote := 0, log := [], commit := 0, role := 1, boss := 0, votes := [], next := [], mtch := [] }

end Go.Proofs.Ytiplnegiphhdlaa.Rf
