/- Raft in plain words: what is on its way is short; every world that comes about. -/
import Derived.Test.YtneepoaimbnneaaRfD
namespace Go.Proofs.Ytneepoaimbnneaa.Rf

def Keeps (N : Int) (g : Gh) (k : Int) (r : Node × List Msg) : Prop := ∃ g', Ext g g' k ∧ GInv N g' ∧ NInv N g' k r.1 ∧ ∀ m ∈ r.2, MsgOk N g' m
theorem places_of (p : Int → Bool) : ∀ (l : List Int) (o : Nat), ∃ Q : List Int, Q.Nodup ∧ Q.length = l.countP p ∧ ∀ q ∈ Q, ∃ (a : Nat) (v : Int), q = ((o + a : Nat) : Int) + 1 ∧ l[a]? = some v ∧ p v = true
  | [], o => ⟨[], by simp, by simp, fun q h => by cases h⟩
  | x :: l, o => by
    obtain ⟨Q, h1, h2, h3⟩ := places_of p l (o + 1)
    by_cases hp : p x = true
    · refine ⟨(((o : Nat) : Int) + 1) :: Q, ?_, ?_, ?_⟩
      · rw [List.nodup_cons]
        refine ⟨fun hq => ?_, h1⟩
        obtain ⟨a, v, e, _⟩ := h3 _ hq
        omega
      · rw [List.length_cons, List.countP_cons, h2, if_pos hp]
      · intro q hq
        rcases List.mem_cons.1 hq with rfl | hq
        · exact ⟨0, x, by simp, rfl, hp⟩
        · obtain ⟨a, v, e, h4, h5⟩ := h3 q hq
          exact ⟨a + 1, v, by omega, by simpa using h4, h5⟩
    · refine ⟨Q, h1, ?_, fun q hq => ?_⟩
      · rw [h2, List.countP_cons, if_neg hp]
        simp
      · obtain ⟨a, v, e, h4, h5⟩ := h3 q hq
        exact ⟨a + 1, v, by omega, by simpa using h4, h5⟩
section
variable {N : Int} {g : Gh} {k : Int} {x : Node}
theorem safe_sure (h : NInv N g k x) (r : Right x) (hr : x.role = 3) (hn : x.n = N) : NInv N g k (sure x) := by
  refine sures h ⟨rfl, rfl, rfl, rfl, rfl, rfl⟩ ?_
  show SureL N g x.term x.log (sureN x x.log.length)
  rcases sureN_is x x.log.length with q | ⟨j, h1, h2, h3, h4, h5⟩
  · rw [q]; exact h.com
  · rw [h3]
    obtain ⟨Q, q1, q2, q3⟩ := places_of (fun v => decide ((j : Int) ≤ v)) x.mtch 0
    have hL := r.lens
    unfold lensOk at hL
    rw [if_pos hr] at hL
    refine sure_most h hr h1 h2 h5 (Q := Q) ⟨q1, fun q hq => ?_, ?_⟩ (fun q hq => ?_)
    · obtain ⟨a, v, e, h6, _⟩ := q3 q hq
      have := (List.getElem?_eq_some_iff.1 h6).1
      omega
    · unfold most have9 at h4
      rw [q2, ← hn]
      exact h4
    · obtain ⟨a, v, e, h6, h7⟩ := q3 q hq
      exact ⟨a, v, by omega, h6, by simpa using h7⟩
theorem safe_batch (h : NInv N g k x) (r : Right x) (hr : x.role = 3) (hid : x.id = k) {d : Int} (hd : inB d 1 x.n) : MsgOk N g (batch x d) := by
  have hL := r.lens
  unfold lensOk at hL
  rw [if_pos hr] at hL
  unfold inB at hd
  have hv := r.places.1 _ (next_mem (l := x.next) (i := (d - 1).toNat) (by omega))
  unfold inB at hv
  exact sends h hr (i := ((x.next.getD (d - 1).toNat 0) - 1).toNat) (c := 3) ⟨hid, rfl, rfl⟩ (by show (x.next.getD (d - 1).toNat 0) - 1 = _; omega) (by omega) rfl rfl rfl
theorem others_mem {q : Int} (r : Right x) (h : q ∈ others x) : inB q 1 x.n ∧ q ≠ x.id := by
  obtain ⟨h1, h2⟩ := List.mem_filter.1 h
  have := upto_mem h1
  have hn := r.n
  unfold inB at *
  exact ⟨by omega, by simpa using h2⟩
theorem safe_batches (h : NInv N g k x) (r : Right x) (hr : x.role = 3) (hid : x.id = k) : ∀ m ∈ batches x, MsgOk N g m := by
  intro m hm
  obtain ⟨d, hd, rfl⟩ := List.mem_map.1 hm
  exact safe_batch h r hr hid (others_mem r hd).1
theorem safe_put (G : GInv N g) (h : NInv N g k x) (r : Right x) (hr : x.role = 3) (hid : x.id = k) (hn : x.n = N) (cmd : Int) : Keeps N g k (put x cmd) := by
  have hi := r.id
  unfold inB at hi
  obtain ⟨g', E, G', h'⟩ := puts (x' := putOne x cmd) G h hr ⟨rfl, rfl, rfl, hr⟩ (by
    show grown x cmd = x.log ∨ ∃ c, grown x cmd = x.log ++ [(x.term, c)]
    unfold grown
    split
    · exact .inr ⟨cmd, rfl⟩
    · exact .inl rfl) (fun j v hv => by
    have hv : (x.mtch.set (x.id - 1).toNat ((grown x cmd).length : Int))[j]? = some v := hv
    rw [List.getElem?_set] at hv
    split at hv
    · rename_i e
      split at hv
      · cases hv
        exact .inr ⟨by omega, Int.le_refl _⟩
      · cases hv
    · exact .inl hv)
  have r' := right_putOne r hr cmd
  have hs := safe_sure h' r' hr hn
  exact ⟨g', E, G', hs, safe_batches hs (right_sure r') hr hid⟩
theorem votes_quorum (r : Right x) (hm : most x.n x.votes.length) : Quorum x.n x.votes :=
  ⟨r.votes.2.imp (fun h => by omega), fun q hq => r.votes.1 q hq, hm⟩
theorem safe_elect (G : GInv N g) (h : NInv N g k x) (r : Right x) (hr : x.role = 2) (hid : x.id = k) (hn : x.n = N) : Keeps N g k (elect x) := by
  unfold elect
  split
  · rename_i hm
    obtain ⟨g', E, G', h'⟩ := leads (x' := crowned x) G h hr (by rw [← hn]; exact votes_quorum r hm) (term_pos r (by omega)) ⟨rfl, rfl, rfl, rfl, rfl⟩ (fun v hv => by
      have hv : v ∈ List.replicate x.n.toNat (0 : Int) := hv
      rw [List.eq_of_mem_replicate hv]
      exact Int.le_refl _)
    obtain ⟨g2, E2, G2, h2, h3⟩ := safe_put G' h' (right_crowned r hr) rfl hid hn 0
    exact ⟨g2, E.trans E2, G2, h2, h3⟩
  · exact ⟨g, Ext.refl g k, G, h, fun m hm => by cases hm⟩
theorem safe_timeout (G : GInv N g) (h : NInv N g k x) (r : Right x) (hid : x.id = k) (hn : x.n = N) : Keeps N g k (timeout x) := by
  unfold timeout
  split
  · exact ⟨g, Ext.refl g k, G, h, fun m hm => by cases hm⟩
  · rename_i hc
    have h2 : x.role ≠ 3 := fun q => hc (.inr (.inl q))
    have h3 : x.term ≠ 1000000 := fun q => hc (.inr (.inr q))
    have hi := r.id
    unfold inB at hi
    obtain ⟨g', E, G', h'⟩ := candidate (x' := asks x) G h ⟨rfl, hid, rfl, rfl, rfl, by show [x.id] = [k]; rw [hid]⟩ (by omega)
    have ra := right_asks r h2 h3
    obtain ⟨g2, E2, G2, n2, m2⟩ := safe_elect G' h' ra rfl hid hn
    refine ⟨g2, E.trans E2, G2, n2, fun m hm => ?_⟩
    rcases List.mem_append.1 hm with q | q
    · obtain ⟨d, hd, rfl⟩ := List.mem_map.1 q
      have hcl := (h'.cand rfl).1
      refine MsgOk.ext E2 ⟨fun _ => ⟨x.log, ?_, rfl, rfl⟩, (fun q => by cases q), (fun q => by cases q), (fun q => by cases q)⟩
      show g'.clog (x.term + 1) x.id x.log
      rw [hid]
      exact hcl
    · exact m2 m q
theorem safe_beat (G : GInv N g) (h : NInv N g k x) (r : Right x) (hid : x.id = k) : Keeps N g k (beat x) := by
  unfold beat
  split
  · exact ⟨g, Ext.refl g k, G, h, fun m hm => by cases hm⟩
  · rename_i hc
    have hr : x.role = 3 := Classical.byContradiction (fun q => hc (.inr q))
    exact ⟨g, Ext.refl g k, G, h, safe_batches h r hr hid⟩
theorem safe_propose (G : GInv N g) (h : NInv N g k x) (r : Right x) (hid : x.id = k) (hn : x.n = N) (cmd : Int) : Keeps N g k ((propose x cmd).1, (propose x cmd).2.1) := by
  unfold propose
  split
  · exact ⟨g, Ext.refl g k, G, h, fun m hm => by cases hm⟩
  · rename_i hc
    have hr : x.role = 3 := Classical.byContradiction (fun q => hc (.inr (.inl q)))
    exact safe_put G h r hr hid hn cmd
theorem safe_restart (h : NInv N g k x) (r : Right x) : NInv N g k (restart x) := by
  unfold restart
  split
  · exact h
  · exact h.relax (Int.le_refl _) rfl (.inl ⟨rfl, rfl⟩) rfl (by have := r.commit; unfold inB at this; exact this.1)
theorem safe_bump (h : NInv N g k x) (t : Int) : NInv N g k (bump x t) := by
  unfold bump
  split
  · rename_i ht
    exact h.relax (Int.le_of_lt ht) rfl (.inr ⟨ht, rfl⟩) rfl (Int.le_refl _)
  · exact h
theorem safe_follow (h : NInv N g k x) (b : Int) : NInv N g k (follow x b) := h.relax (Int.le_refl _) rfl (.inl ⟨rfl, rfl⟩) rfl (Int.le_refl _)
theorem bump_ge (x : Node) (t : Int) : t ≤ (bump x t).term := by
  unfold bump
  split
  · exact Int.le_refl _
  · omega
theorem safe_onVote (G : GInv N g) (h : NInv N g k x) (hid : x.id = k) {m : Msg} (hm : MsgOk N g m) (hk : m.kind = 1) (hf : 1 ≤ m.frm) : Keeps N g k (onVote x m) := by
  unfold onVote
  split
  · rename_i hv
    obtain ⟨v1, v2, v3⟩ := hv
    obtain ⟨g', E, G', h', c1, c2⟩ := votes_for (x' := { x with vote := m.frm }) G h hm hk v1 v2 (by omega) v3 rfl
    refine ⟨g', E, G', h', fun b hb => ?_⟩
    rw [List.mem_singleton.1 hb]
    refine ⟨(fun q => by cases q), fun _ _ => ?_, (fun q => by cases q), (fun q => by cases q)⟩
    show g'.cast x.term x.id m.frm ∧ (g'.led x.term = none → ∃ vl, g'.vrec x.term x.id m.frm vl)
    rw [hid]
    exact ⟨c1, c2⟩
  · refine ⟨g, Ext.refl g k, G, h, fun b hb => ?_⟩
    rw [List.mem_singleton.1 hb]
    exact says_no (.inl rfl) rfl
theorem safe_onVoted (G : GInv N g) (h : NInv N g k x) (r : Right x) (hid : x.id = k) (hn : x.n = N) {m : Msg} (hm : MsgOk N g m) (hk : m.kind = 2) (hd : m.dest = k) : Keeps N g k (onVoted x m) := by
  unfold onVoted
  split
  · exact ⟨g, Ext.refl g k, G, h, fun m hm => by cases hm⟩
  · rename_i hc
    have hr : x.role = 2 := Classical.byContradiction (fun q => hc (.inl q))
    have ht : m.term = x.term := Classical.byContradiction (fun q => hc (.inr (.inl q)))
    have hy : m.yes = true := by
      cases e : m.yes with
      | true => rfl
      | false => exact absurd (.inr (.inr e)) hc
    have h' := counts (x' := { x with votes := voters x m.frm }) h hm hk hy ht hd (voters x m.frm) (fun v hv => by
      have := (List.mem_filter.1 hv).2
      simp at this
      exact this.symm) rfl
    exact safe_elect G h' (right_voters r hr m.frm) hr hid hn
theorem safe_onAppend (G : GInv N g) (h : NInv N g k x) (hid : x.id = k) {m : Msg} (hm : MsgOk N g m) (hk : m.kind = 3) (hi : 0 ≤ m.index) : Keeps N g k (onAppend x m) := by
  unfold onAppend
  split
  · refine ⟨g, Ext.refl g k, G, h, fun b hb => ?_⟩
    rw [List.mem_singleton.1 hb]
    exact says_no (.inr rfl) rfl
  · rename_i hc
    have ht : m.term = x.term := Classical.byContradiction (fun q => hc (.inl q))
    have hf := safe_follow h m.frm
    split
    · rename_i hfit
      obtain ⟨f1, f2⟩ := hfit
      have hidx : m.index = ((m.index.toNat : Nat) : Int) := by omega
      obtain ⟨g', E, G', h', ack⟩ := takes (x' := takenBy (follow x m.frm) m) (i := m.index.toNat) G hf hm hk ht hidx (by show m.index.toNat ≤ x.log.length; omega) (by rcases f2 with q | q; exact .inl (by omega); exact .inr q) ⟨rfl, rfl, rfl, rfl⟩ (by
        show (max (if held x.log m.index.toNat m.items < m.items.length then min x.commit ((taken x.log m.index.toNat m.items).length : Int) else x.commit) (min m.commit (m.index + (m.items.length : Int))) ≤ x.commit ∧ _) ∨ (max (if held x.log m.index.toNat m.items < m.items.length then min x.commit ((taken x.log m.index.toNat m.items).length : Int) else x.commit) (min m.commit (m.index + (m.items.length : Int))) ≤ x.commit ∧ held x.log m.index.toNat m.items = m.items.length) ∨ _
        have hh := held_le x.log m.items m.index.toNat
        by_cases hn : held x.log m.index.toNat m.items < m.items.length
        · show _ ∨ _ ∨ (max (if held x.log m.index.toNat m.items < m.items.length then min x.commit ((taken x.log m.index.toNat m.items).length : Int) else x.commit) (min m.commit (m.index + (m.items.length : Int))) ≤ m.commit ∧ max (if held x.log m.index.toNat m.items < m.items.length then min x.commit ((taken x.log m.index.toNat m.items).length : Int) else x.commit) (min m.commit (m.index + (m.items.length : Int))) ≤ _)
          show (_ ∧ max (if held x.log m.index.toNat m.items < m.items.length then min x.commit ((taken x.log m.index.toNat m.items).length : Int) else x.commit) (min m.commit (m.index + (m.items.length : Int))) ≤ ((taken x.log m.index.toNat m.items).length : Int)) ∨ _
          rw [if_pos hn]
          omega
        · show _ ∨ _ ∨ (max (if held x.log m.index.toNat m.items < m.items.length then min x.commit ((taken x.log m.index.toNat m.items).length : Int) else x.commit) (min m.commit (m.index + (m.items.length : Int))) ≤ m.commit ∧ max (if held x.log m.index.toNat m.items < m.items.length then min x.commit ((taken x.log m.index.toNat m.items).length : Int) else x.commit) (min m.commit (m.index + (m.items.length : Int))) ≤ _)
          rw [if_neg hn]
          omega)
      refine ⟨g', E, G', h', fun b hb => ?_⟩
      rw [List.mem_singleton.1 hb]
      refine ⟨(fun q => by cases q), (fun q => by cases q), (fun q => by cases q), fun _ _ a h1 h2 => ?_⟩
      show g'.acks x.term x.id a
      rw [hid]
      have h2 : (a : Int) ≤ m.index + (m.items.length : Int) := h2
      exact ack a (by omega)
    · refine ⟨g, Ext.refl g k, G, hf, fun b hb => ?_⟩
      rw [List.mem_singleton.1 hb]
      exact says_no (.inr rfl) rfl
theorem safe_onAppended (G : GInv N g) (h : NInv N g k x) (r : Right x) (hid : x.id = k) (hn : x.n = N) {m : Msg} (hm : MsgOk N g m) (hk : m.kind = 4) (hf : inB m.frm 1 x.n) : Keeps N g k (onAppended x m) := by
  unfold onAppended
  split
  · exact ⟨g, Ext.refl g k, G, h, fun m hm => by cases hm⟩
  · rename_i hc
    have hr : x.role = 3 := Classical.byContradiction (fun q => hc (.inl q))
    have ht : m.term = x.term := Classical.byContradiction (fun q => hc (.inr q))
    have hf' := hf
    unfold inB at hf'
    split
    · rename_i hy
      have h' : NInv N g k (heardYes x m) := hears h hm hk hy ht ⟨rfl, rfl, rfl, hr, hr, rfl⟩ (fun j v hv => by
        have hv : (x.mtch.set (m.frm - 1).toNat (had x m))[j]? = some v := hv
        rw [List.getElem?_set] at hv
        split at hv
        · rename_i e
          split at hv
          · rename_i hl
            cases hv
            have hg : x.mtch[j]? = some (x.mtch.getD (m.frm - 1).toNat 0) := by
              rw [e, List.getD_eq_getElem?_getD, List.getElem?_eq_getElem (by omega)]
              rfl
            by_cases q : x.mtch.getD (m.frm - 1).toNat 0 ≤ m.index
            · refine .inr ⟨by omega, ?_⟩
              unfold had
              omega
            · have hp := (r.places.2 _ (List.mem_of_getElem? hg)).2
              refine .inl ?_
              rw [hg]
              congr 1
              unfold had
              omega
          · cases hv
        · exact .inl hv)
      have rh := right_heardYes r hr hf
      have hs := safe_sure h' rh hr hn
      refine ⟨g, Ext.refl g k, G, hs, fun b hb => ?_⟩
      split at hb
      · rw [List.mem_singleton.1 hb]
        exact safe_batch hs (right_sure rh) hr hid hf
      · cases hb
    · have h' : NInv N g k (heardNo x m) := ⟨h.castT, h.voteC, h.clogT, h.cand, h.ledT, h.lead, h.logM, h.logT, h.ack, h.com⟩
      refine ⟨g, Ext.refl g k, G, h', fun b hb => ?_⟩
      rw [List.mem_singleton.1 hb]
      exact safe_batch h' (right_heardNo r hr hf) hr hid hf
theorem safe_receive (G : GInv N g) (h : NInv N g k x) (r : Right x) (hid : x.id = k) (hn : x.n = N) {m : Msg} (hm : MsgOk N g m) : Keeps N g k (receive x m) := by
  unfold receive
  split
  · exact ⟨g, Ext.refl g k, G, h, fun m hm => by cases hm⟩
  · rename_i hc
    have hl : ¬ Lost x m := fun q => hc (.inr q)
    unfold Lost at hl
    obtain ⟨l1, l2, l3, l4, l5, l6, l7, l8, l9, l10, l11⟩ := Classical.not_not.1 hl
    have rb := right_bump r l5
    have hb := safe_bump h m.term
    obtain ⟨b1, b2, _⟩ := bump_same x m.term
    unfold inB at l2 l4 l6
    unfold byKind
    split
    · exact safe_onVote G hb (by rw [b1]; exact hid) hm (by assumption) l2.1
    · split
      · exact safe_onVoted G hb rb (by rw [b1]; exact hid) (by rw [b2]; exact hn) hm (by assumption) (by rw [l1]; exact hid)
      · split
        · exact safe_onAppend G hb (by rw [b1]; exact hid) hm (by assumption) l6.1
        · exact safe_onAppended G hb rb (by rw [b1]; exact hid) (by rw [b2]; exact hn) hm (by omega) (by rw [b2]; exact l2)
end
end Go.Proofs.Ytneepoaimbnneaa.Rf

namespace Go.Proofs.Ytneepoaimbnneaa.Rf

structure Wd where
  nodes : List Node
  net : List Msg
structure Ev where
  kind : Int
  node : Int
  pick : Int

/-- the newest sixty -/
def trim (l : List Msg) : List Msg := l.drop (l.length - 60)
def startW (n : Int) : Wd := { nodes := (List.range n.toNat).map (fun i : Nat => start ((i : Int) + 1) n), net := [] }
/-- node number k becomes another one, and says something -/
def acts (w : Wd) (net : List Msg) (k : Int) (f : Node → Node × List Msg) : Wd :=
  match (if 1 ≤ k then w.nodes[(k - 1).toNat]? else none) with
  | some x => { nodes := w.nodes.set (k - 1).toNat (f x).1, net := trim (net ++ (f x).2) }
  | none => { nodes := w.nodes, net := trim net }
def evNode (w : Wd) (e : Ev) : Wd :=
  if e.kind = 1 then acts w w.net e.node timeout
  else if e.kind = 2 then acts w w.net e.node beat
  else if e.kind = 3 then acts w w.net e.node (fun x => ((propose x e.pick).1, (propose x e.pick).2.1))
  else if e.kind = 7 then acts w w.net e.node (fun x => (restart x, []))
  else w
def evMsg (w : Wd) (e : Ev) (m : Msg) : Wd :=
  if e.kind = 6 then { nodes := w.nodes, net := w.net.eraseIdx e.pick.toNat }
  else acts w (if e.kind = 5 then w.net else w.net.eraseIdx e.pick.toNat) m.dest (fun x => receive x m)
def stepW (w : Wd) (e : Ev) : Wd :=
  if e.kind = 4 ∨ e.kind = 5 ∨ e.kind = 6 then (match (if 0 ≤ e.pick then w.net[e.pick.toNat]? else none) with | some m => evMsg w e m | none => w)
  else evNode w e
def runW (n : Int) (l : List Ev) : Wd := l.foldl stepW (startW n)

structure WInv (N : Int) (g : Gh) (w : Wd) : Prop where
  G : GInv N g
  len : (w.nodes.length : Int) = N
  nd : ∀ (i : Nat) (x : Node), w.nodes[i]? = some x → NInv N g ((i : Int) + 1) x ∧ Right x ∧ x.id = (i : Int) + 1 ∧ x.n = N
  ms : ∀ m ∈ w.net, MsgOk N g m
  net : w.net.length ≤ 60
/-- more is known -/
structure More (g g' : Gh) : Prop where
  led : ∀ t c, g.led t = some c → g'.led t = some c
  elog : ∀ t, (g.led t).isSome = true → g'.elog t = g.elog t
  llog : ∀ t, (g.led t).isSome = true → g.llog t <+: g'.llog t
  cast : ∀ t q c, g.cast t q c → g'.cast t q c
  acks : ∀ t q i, g.acks t q i → g'.acks t q i
theorem More.refl (g : Gh) : More g g := ⟨fun _ _ h => h, fun _ _ => rfl, fun _ _ => List.prefix_rfl, fun _ _ _ h => h, fun _ _ _ h => h⟩
theorem Ext.more {g g' : Gh} {k : Int} (E : Ext g g' k) : More g g' := ⟨E.led, E.elog, E.llog, E.cast, E.acks⟩
theorem Committed.more {N : Int} {g g' : Gh} (E : More g g') {t : Int} {j : Nat} (h : Committed N g t j) : Committed N g' t j := by
  obtain ⟨h1, h2, h3, h4, Q, h5, h6⟩ := h
  have hp := E.llog t h4
  obtain ⟨c, hc⟩ := Option.isSome_iff_exists.1 h4
  exact ⟨h1, Nat.le_trans h2 hp.length_le, by rw [atN_pre hp h2]; exact h3, by rw [E.led t c hc]; rfl, Q, h5, fun q hq => E.acks _ _ _ (h6 q hq)⟩

theorem trim_mem {l : List Msg} {m : Msg} (h : m ∈ trim l) : m ∈ l := List.mem_of_mem_drop h
theorem trim_len (l : List Msg) : (trim l).length ≤ 60 := by unfold trim; rw [List.length_drop]; omega
theorem erase_mem {l : List Msg} {i : Nat} {m : Msg} (h : m ∈ l.eraseIdx i) : m ∈ l := List.mem_of_mem_eraseIdx h

theorem first_inv {n : Int} (h1 : 1 ≤ n) (h5 : n ≤ 5) : ∃ g, WInv n g (startW n) := by
  refine ⟨{ led := fun _ => none, elog := fun _ => [], llog := fun _ => [], cast := fun _ _ _ => False, clog := fun _ _ _ => False, vrec := fun _ _ _ _ => False, acks := fun _ _ _ => False }, ?_, ?_, ?_, (fun m hm => by cases hm), by show ([] : List Msg).length ≤ 60; simp⟩
  · exact ⟨h1, (fun t h => by cases h), (fun _ _ _ _ h => h.elim), (fun _ _ _ h => h.elim), (fun t h => by cases h), (fun t h => by cases h), (fun t h => by cases h), (fun t h => by cases h), (fun t k h => by cases h), (fun _ _ _ _ h => h.elim), (fun _ _ _ h => h.elim), (fun _ _ _ _ h => h.elim), (fun _ _ _ h => h.elim)⟩
  · show (((List.range n.toNat).map (fun i : Nat => start ((i : Int) + 1) n)).length : Int) = n
    simp
    omega
  · intro i x hx
    have hx : ((List.range n.toNat).map (fun i : Nat => start ((i : Int) + 1) n))[i]? = some x := hx
    rw [List.getElem?_map] at hx
    obtain ⟨j, hj, rfl⟩ := Option.map_eq_some_iff.1 hx
    obtain ⟨lj, ej⟩ := List.getElem?_eq_some_iff.1 hj
    simp at lj ej
    subst ej
    refine ⟨⟨(fun _ _ h => h.elim), fun h => absurd rfl h, (fun _ _ h => h.elim), (fun h => by cases h), (fun t h => by cases h), (fun h => by cases h), (fun i x h => by cases h), (fun e h => by cases h), (fun _ _ h => h.elim), .inl (Int.le_refl _)⟩, ?_, rfl, rfl⟩
    refine ⟨⟨h1, h5⟩, ?_, ?_, ?_, ?_, ?_, ?_, fun _ => rfl, by show ([] : List Item).length ≤ 60; simp, ⟨(fun _ h => by cases h), List.Pairwise.nil⟩, fun _ => rfl, ⟨(fun _ h => by cases h), List.Pairwise.nil⟩, ?_, ⟨(fun _ h => by cases h), (fun _ h => by cases h)⟩⟩
    · show inB ((i : Int) + 1) 1 n
      unfold inB; omega
    · show inB 0 0 n
      unfold inB; omega
    · show inB 0 0 n
      unfold inB; omega
    · show inB 0 0 1000000
      unfold inB; omega
    · show inB 0 0 ((([] : List Item).length : Nat) : Int)
      unfold inB; simp
    · show inB 1 1 3
      unfold inB; omega
    · show lensOk (start ((i : Int) + 1) n)
      unfold lensOk start
      simp
section
variable {N : Int} {g : Gh} {w : Wd}
theorem acts_inv (h : WInv N g w) {net : List Msg} (hnet : ∀ m ∈ net, MsgOk N g m) {k : Int} {f : Node → Node × List Msg}
    (hf : ∀ x, NInv N g k x → Right x → x.id = k → x.n = N → Keeps N g k (f x) ∧ Right (f x).1 ∧ (f x).1.id = x.id ∧ (f x).1.n = x.n) : ∃ g', More g g' ∧ WInv N g' (acts w net k f) := by
  unfold acts
  split
  · rename_i x hx
    split at hx
    · rename_i hk
      have ek : (((k - 1).toNat : Nat) : Int) + 1 = k := by omega
      obtain ⟨n1, n2, n3, n4⟩ := h.nd _ x hx
      rw [ek] at n1 n3
      obtain ⟨⟨g', E, G', h', hm⟩, r', i', nn'⟩ := hf x n1 n2 n3 n4
      refine ⟨g', E.more, G', by simpa using h.len, fun i y hy => ?_, fun m hm' => ?_, trim_len _⟩
      · have hy : (w.nodes.set (k - 1).toNat (f x).1)[i]? = some y := hy
        rw [List.getElem?_set] at hy
        split at hy
        · rename_i e
          split at hy
          · cases hy
            rw [← e, ek]
            exact ⟨h', r', by rw [i']; exact n3, by rw [nn']; exact n4⟩
          · cases hy
        · rename_i e
          obtain ⟨m1, m2, m3, m4⟩ := h.nd i y hy
          exact ⟨m1.ext E h.G (by omega), m2, m3, m4⟩
      · rcases List.mem_append.1 (trim_mem hm') with q | q
        · exact (hnet m q).ext E
        · exact hm m q
    · cases hx
  · exact ⟨g, More.refl g, h.G, h.len, h.nd, fun m hm => hnet m (trim_mem hm), trim_len _⟩
theorem same_put (x : Node) (cmd : Int) : (put x cmd).1.id = x.id ∧ (put x cmd).1.n = x.n := ⟨rfl, rfl⟩
theorem same_elect (x : Node) : (elect x).1.id = x.id ∧ (elect x).1.n = x.n := by unfold elect; split <;> exact ⟨rfl, rfl⟩
theorem same_timeout (x : Node) : (timeout x).1.id = x.id ∧ (timeout x).1.n = x.n := by
  unfold timeout
  split
  · exact ⟨rfl, rfl⟩
  · exact same_elect (asks x)
theorem same_propose (x : Node) (cmd : Int) : (propose x cmd).1.id = x.id ∧ (propose x cmd).1.n = x.n := by unfold propose; split <;> exact ⟨rfl, rfl⟩
theorem same_restart (x : Node) : (restart x).id = x.id ∧ (restart x).n = x.n := by unfold restart; split <;> exact ⟨rfl, rfl⟩
theorem same_receive (x : Node) (m : Msg) : (receive x m).1.id = x.id ∧ (receive x m).1.n = x.n := by
  unfold receive
  split
  · exact ⟨rfl, rfl⟩
  · obtain ⟨b1, b2, _⟩ := bump_same x m.term
    rw [← b1, ← b2]
    unfold byKind
    split
    · unfold onVote; split <;> exact ⟨rfl, rfl⟩
    · split
      · unfold onVoted
        split
        · exact ⟨rfl, rfl⟩
        · exact same_elect _
      · split
        · unfold onAppend
          split
          · exact ⟨rfl, rfl⟩
          · split <;> exact ⟨rfl, rfl⟩
        · unfold onAppended
          split
          · exact ⟨rfl, rfl⟩
          · split <;> exact ⟨rfl, rfl⟩
theorem step_inv (h : WInv N g w) (e : Ev) : ∃ g', More g g' ∧ WInv N g' (stepW w e) := by
  unfold stepW
  split
  · split
    · rename_i m hm
      split at hm
      · have hmem := List.mem_of_getElem? hm
        have hok := h.ms m hmem
        unfold evMsg
        split
        · exact ⟨g, More.refl g, h.G, h.len, h.nd, fun b hb => h.ms b (erase_mem hb), by show (w.net.eraseIdx e.pick.toNat).length ≤ 60; have := h.net; have := List.length_eraseIdx_le w.net e.pick.toNat; omega⟩
        · refine acts_inv h (fun b hb => ?_) (fun x n1 n2 n3 n4 => ⟨safe_receive h.G n1 n2 n3 n4 hok, right_receive n2 m, same_receive x m⟩)
          split at hb
          · exact h.ms b hb
          · exact h.ms b (erase_mem hb)
      · cases hm
    · exact ⟨g, More.refl g, h⟩
  · unfold evNode
    split
    · exact acts_inv h h.ms (fun x n1 n2 n3 n4 => ⟨safe_timeout h.G n1 n2 n3 n4, right_timeout n2, same_timeout x⟩)
    · split
      · exact acts_inv h h.ms (fun x n1 n2 n3 n4 => ⟨safe_beat h.G n1 n2 n3, right_beat n2, by unfold beat; split <;> exact ⟨rfl, rfl⟩⟩)
      · split
        · exact acts_inv h h.ms (fun x n1 n2 n3 n4 => ⟨safe_propose h.G n1 n2 n3 n4 e.pick, right_propose n2 e.pick, same_propose x e.pick⟩)
        · split
          · exact acts_inv h h.ms (fun x n1 n2 n3 n4 => ⟨⟨g, Ext.refl g _, h.G, safe_restart n1 n2, fun m hm => by cases hm⟩, right_restart n2, same_restart x⟩)
          · exact ⟨g, More.refl g, h⟩
end

/-- ELECTION SAFETY, for what a map has -/
def LedMap (g : Gh) (led : Int → Option Int) : Prop := ∀ t k, led t = some k → g.led t = some k
theorem LedMap.more {g g' : Gh} (E : More g g') {led : Int → Option Int} (h : LedMap g led) : LedMap g' led := fun t k hk => E.led t k (h t k hk)
theorem leader_is {N : Int} {g : Gh} {w : Wd} (h : WInv N g w) {i : Nat} {x : Node} (hx : w.nodes[i]? = some x) (hr : x.role = 3) : g.led x.term = some x.id := by
  obtain ⟨n1, _, n3, _⟩ := h.nd i x hx
  rw [n3]
  exact (n1.lead hr).1
/-- LOG MATCHING -/
theorem logs_match {N : Int} {g : Gh} {w : Wd} (h : WInv N g w) {i j : Nat} {a b : Node} (ha : w.nodes[i]? = some a) (hb : w.nodes[j]? = some b) {p : Nat} {x y : Item} (hx : a.log[p]? = some x) (hy : b.log[p]? = some y) (e : x.1 = y.1) : a.log.take (p + 1) = b.log.take (p + 1) :=
  match_same (h.nd i a ha).1.logM (h.nd j b hb).1.logM hx hy e
/-- what is sure, up to a term -/
def SureS (N : Int) (g : Gh) (T : Int) (S : List Item) : Prop := S = [] ∨ ∃ t j, t ≤ T ∧ Committed N g t j ∧ S.length ≤ j ∧ S = (g.llog t).take S.length
theorem SureS.more {N : Int} {g g' : Gh} (E : More g g') {T : Int} {S : List Item} (h : SureS N g T S) : SureS N g' T S := by
  rcases h with h | ⟨t, j, h1, h2, h3, h4⟩
  · exact .inl h
  · refine .inr ⟨t, j, h1, h2.more E, h3, ?_⟩
    rw [take_pre (E.llog t h2.2.2.2.1) (Nat.le_trans h3 h2.2.1)]
    exact h4
theorem SureS.le {N : Int} {g : Gh} {T T' : Int} {S : List Item} (h : SureS N g T S) (hT : T ≤ T') : SureS N g T' S := by
  rcases h with h | ⟨t, j, h1, h2⟩
  · exact .inl h
  · exact .inr ⟨t, j, Int.le_trans h1 hT, h2⟩
theorem sure_of {N : Int} {g : Gh} {T : Int} {l : List Item} {c : Int} (h : SureL N g T l c) : SureS N g T (l.take c.toNat) := by
  rcases h with h | ⟨t, j, h1, h2, h3, h4, h5⟩
  · rw [show c.toNat = 0 by omega]
    exact .inl rfl
  · have e : (l.take c.toNat).length = c.toNat := by rw [List.length_take]; omega
    exact .inr ⟨t, j, h1, h2, by rw [e]; exact h3, by rw [e]; exact h4⟩
/-- what was sure of a term's leader, every later one has -/
theorem sure_later {N : Int} {g : Gh} (G : GInv N g) {t : Int} {j : Nat} (hc : Committed N g t j) {s : Int} (hs : t ≤ s) (hl : (g.led s).isSome = true) : (g.llog t).take j <+: g.llog s := by
  by_cases e : t = s
  · subst e
    exact take_is_pre _ _
  · exact (complete G hc (s - t - 1).toNat s (by omega) hl).trans (G.elogPre s hl)
/-- STATE MACHINE SAFETY: of two that are sure one begins the other -/
theorem sure_agree {N : Int} {g : Gh} (G : GInv N g) {T T' : Int} {S R : List Item} (hS : SureS N g T S) (hR : SureS N g T' R) (hle : S.length ≤ R.length) : S <+: R := by
  rcases hS with rfl | ⟨t, j, _, c1, l1, e1⟩
  · exact List.nil_prefix
  rcases hR with rfl | ⟨s, i, _, c2, l2, e2⟩
  · have : S = [] := List.eq_nil_of_length_eq_zero (by simpa using hle)
    subst this
    exact List.nil_prefix
  have pS : S <+: (g.llog t).take j := by
    rw [e1]
    refine pre_or (take_is_pre _ _) (take_is_pre _ _) ?_
    rw [List.length_take, List.length_take]; omega
  have pR : R <+: (g.llog s).take i := by
    rw [e2]
    refine pre_or (take_is_pre _ _) (take_is_pre _ _) ?_
    rw [List.length_take, List.length_take]; omega
  rcases Int.le_total t s with h | h
  · exact pre_or (pS.trans (sure_later G c1 h c2.2.2.2.1)) (pR.trans (take_is_pre _ _)) hle
  · exact pre_or (pS.trans (take_is_pre _ _)) (pR.trans (sure_later G c2 h c1.2.2.2.1)) hle
theorem node_sure {N : Int} {g : Gh} {w : Wd} (h : WInv N g w) {i : Nat} {x : Node} (hx : w.nodes[i]? = some x) : SureS N g x.term (x.log.take x.commit.toNat) := sure_of (h.nd i x hx).1.com
/-- LEADER COMPLETENESS -/
theorem leader_has {N : Int} {g : Gh} {w : Wd} (h : WInv N g w) {i : Nat} {x : Node} (hx : w.nodes[i]? = some x) (hr : x.role = 3) {T : Int} {S : List Item} (hS : SureS N g T S) (hT : T < x.term) : S <+: x.log := by
  rcases hS with rfl | ⟨t, j, h1, c1, l1, e1⟩
  · exact List.nil_prefix
  obtain ⟨n1, _⟩ := h.nd i x hx
  obtain ⟨m1, m2, _⟩ := n1.lead hr
  have hl : (g.led x.term).isSome = true := by rw [m1]; rfl
  have := sure_later h.G c1 (s := x.term) (by omega) hl
  rw [m2] at this
  refine List.IsPrefix.trans ?_ this
  rw [e1]
  refine pre_or (take_is_pre _ _) (take_is_pre _ _) ?_
  rw [List.length_take, List.length_take]; omega

/-- NO TERM GOES BACK, AND NO VOTE IS CHANGED -/
def Later (x y : Node) : Prop := x.term ≤ y.term ∧ (x.term = y.term → x.vote ≠ 0 → y.vote = x.vote)
theorem Later.refl (x : Node) : Later x x := ⟨Int.le_refl _, fun _ _ => rfl⟩
theorem Later.trans {x y z : Node} (h : Later x y) (k : Later y z) : Later x z := by
  obtain ⟨h1, h2⟩ := h
  obtain ⟨k1, k2⟩ := k
  refine ⟨by omega, fun e h0 => ?_⟩
  have a := h2 (by omega) h0
  have b := k2 (by omega) (by rw [a]; exact h0)
  rw [b, a]
theorem later_same {x y : Node} (h1 : y.term = x.term) (h2 : y.vote = x.vote) : Later x y := ⟨by omega, fun _ _ => h2⟩
theorem later_elect (x : Node) : Later x (elect x).1 := by unfold elect; split <;> exact later_same rfl rfl
theorem later_timeout (x : Node) : Later x (timeout x).1 := by
  unfold timeout
  split
  · exact Later.refl x
  · have h : Later x (asks x) := ⟨by show x.term ≤ x.term + 1; omega, fun e => by have e : x.term = x.term + 1 := e; omega⟩
    exact h.trans (later_elect _)
theorem later_propose (x : Node) (cmd : Int) : Later x (propose x cmd).1 := by unfold propose; split <;> exact later_same rfl rfl
theorem later_restart (x : Node) : Later x (restart x) := by unfold restart; split <;> exact later_same rfl rfl
theorem later_beat (x : Node) : Later x (beat x).1 := by unfold beat; split <;> exact later_same rfl rfl
theorem later_bump (x : Node) (t : Int) : Later x (bump x t) := by
  unfold bump
  split
  · rename_i h
    exact ⟨by show x.term ≤ t; omega, fun e => by have e : x.term = t := e; omega⟩
  · exact Later.refl x
theorem later_kind (x : Node) (m : Msg) : Later x (byKind x m).1 := by
  unfold byKind
  split
  · unfold onVote
    split
    · rename_i h
      refine ⟨Int.le_refl _, fun _ h0 => ?_⟩
      rcases h.2.1 with q | q
      · exact absurd q h0
      · exact q.symm
    · exact Later.refl x
  · split
    · unfold onVoted
      split
      · exact Later.refl x
      · exact (later_same (x := x) (y := { x with votes := voters x m.frm }) rfl rfl).trans (later_elect _)
    · split
      · unfold onAppend
        split
        · exact Later.refl x
        · split <;> exact later_same rfl rfl
      · unfold onAppended
        split
        · exact Later.refl x
        · split <;> exact later_same rfl rfl
theorem later_receive (x : Node) (m : Msg) : Later x (receive x m).1 := by
  unfold receive
  split
  · exact Later.refl x
  · exact (later_bump x m.term).trans (later_kind _ m)
end Go.Proofs.Ytneepoaimbnneaa.Rf

namespace Go.Proofs.Ytneepoaimbnneaa.Rf

/-- as long as it leads in a term -/
def Adds (x y : Node) : Prop := y.role = 3 → y.term = x.term → x.log <+: y.log ∧ x.commit ≤ y.commit
theorem adds_same {x y : Node} (h1 : y.log = x.log) (h2 : x.commit ≤ y.commit) : Adds x y := fun _ _ => ⟨by rw [h1]; exact List.prefix_rfl, h2⟩
theorem adds_timeout {x : Node} (hr : x.role = 3) : Adds x (timeout x).1 := by
  unfold timeout
  rw [if_pos (.inr (.inl hr))]
  exact adds_same rfl (Int.le_refl _)
theorem adds_beat (x : Node) : Adds x (beat x).1 := by unfold beat; split <;> exact adds_same rfl (Int.le_refl _)
theorem adds_put (x : Node) (cmd : Int) : Adds x (put x cmd).1 := fun _ _ => ⟨grown_pre x cmd, (sureN_le (putOne x cmd) _).1⟩
theorem adds_propose (x : Node) (cmd : Int) : Adds x (propose x cmd).1 := by
  unfold propose
  split
  · exact adds_same rfl (Int.le_refl _)
  · exact adds_put x cmd
theorem adds_restart (x : Node) : Adds x (restart x) := by
  unfold restart
  split
  · exact adds_same rfl (Int.le_refl _)
  · intro h
    have h : (1 : Int) = 3 := h
    omega
theorem kind_term (x : Node) (m : Msg) : (byKind x m).1.term = x.term := by
  have el : ∀ y : Node, (elect y).1.term = y.term := fun y => by unfold elect; split <;> rfl
  unfold byKind
  split
  · unfold onVote; split <;> rfl
  · split
    · unfold onVoted
      split
      · rfl
      · exact el _
    · split
      · unfold onAppend
        split
        · rfl
        · split <;> rfl
      · unfold onAppended
        split
        · rfl
        · split <;> rfl
theorem adds_receive {x : Node} (hr : x.role = 3) (m : Msg) : Adds x (receive x m).1 := by
  unfold receive
  split
  · exact adds_same rfl (Int.le_refl _)
  · by_cases ht : x.term < m.term
    · intro _ e
      rw [kind_term] at e
      have := bump_ge x m.term
      omega
    · have hb : bump x m.term = x := by unfold bump; rw [if_neg ht]
      rw [hb]
      unfold byKind
      split
      · unfold onVote; split <;> exact adds_same rfl (Int.le_refl _)
      · split
        · unfold onVoted
          rw [if_pos (.inl (by omega))]
          exact adds_same rfl (Int.le_refl _)
        · split
          · unfold onAppend
            rw [if_pos (.inr hr)]
            exact adds_same rfl (Int.le_refl _)
          · unfold onAppended
            split
            · exact adds_same rfl (Int.le_refl _)
            · split
              · exact adds_same rfl (sureN_le (heardYes x m) _).1
              · exact adds_same rfl (Int.le_refl _)

/-- a message of a node -/
structure Says (x : Node) (t : Int) (m : Msg) : Prop where
  frm : m.frm = x.id
  dest : m.dest ≠ x.id
  to1 : 1 ≤ m.dest
  toN : m.dest ≤ x.n
  items : m.items.length ≤ 3
  term : m.term = t
theorem batch_says {x : Node} {d : Int} (hd : inB d 1 x.n) (ne : d ≠ x.id) : Says x x.term (batch x d) :=
  ⟨rfl, ne, hd.1, hd.2, by show ((x.log.drop _).take 3).length ≤ 3; rw [List.length_take]; omega, rfl⟩
theorem batches_say {x : Node} (r : Right x) : ∀ m ∈ batches x, Says x x.term m := by
  intro m hm
  obtain ⟨d, hd, rfl⟩ := List.mem_map.1 hm
  obtain ⟨h1, h2⟩ := others_mem r hd
  exact batch_says h1 h2
theorem put_says {x : Node} (r : Right x) (hr : x.role = 3) (cmd : Int) : ∀ m ∈ (put x cmd).2, Says x x.term m := by
  intro m hm
  have h := batches_say (right_put r hr cmd) m hm
  exact ⟨h.frm, h.dest, h.to1, h.toN, h.items, h.term⟩
theorem elect_says {x : Node} (r : Right x) (hr : x.role = 2) : ∀ m ∈ (elect x).2, Says x x.term m := by
  unfold elect
  split
  · intro m hm
    have h := put_says (right_crowned r hr) rfl 0 m hm
    exact ⟨h.frm, h.dest, h.to1, h.toN, h.items, h.term⟩
  · intro m hm
    cases hm
theorem elect_term (y : Node) : (elect y).1.term = y.term := by unfold elect; split <;> rfl
theorem timeout_says {x : Node} (r : Right x) : ∀ m ∈ (timeout x).2, Says x (timeout x).1.term m := by
  unfold timeout
  split
  · intro m hm
    cases hm
  · rename_i h
    have h2 : x.role ≠ 3 := fun q => h (.inr (.inl q))
    have h3 : x.term ≠ 1000000 := fun q => h (.inr (.inr q))
    have ra := right_asks r h2 h3
    intro m hm
    show Says x (elect (asks x)).1.term m
    rw [elect_term]
    rcases List.mem_append.1 hm with q | q
    · obtain ⟨d, hd, rfl⟩ := List.mem_map.1 q
      obtain ⟨h1, h2⟩ := others_mem ra hd
      exact ⟨rfl, h2, h1.1, h1.2, by show ([] : List Item).length ≤ 3; simp, rfl⟩
    · have h := elect_says ra rfl m q
      exact ⟨h.frm, h.dest, h.to1, h.toN, h.items, h.term⟩
theorem beat_says {x : Node} (r : Right x) : ∀ m ∈ (beat x).2, Says x (beat x).1.term m := by
  unfold beat
  split
  · intro m hm
    cases hm
  · exact batches_say r
theorem propose_says {x : Node} (r : Right x) (cmd : Int) : ∀ m ∈ (propose x cmd).2.1, Says x (propose x cmd).1.term m := by
  unfold propose
  split
  · intro m hm
    cases hm
  · rename_i h
    exact put_says r (Classical.byContradiction (fun q => h (.inr (.inl q)))) cmd
theorem back_says {x : Node} {m : Msg} (hf : inB m.frm 1 x.n) (ne : m.frm ≠ x.id) (k : Int) (y : Bool) (i : Int) : Says x x.term (back x m k y i) :=
  ⟨rfl, ne, hf.1, hf.2, by show ([] : List Item).length ≤ 3; simp, rfl⟩
theorem kind_says {x : Node} (r : Right x) {m : Msg} (hf : inB m.frm 1 x.n) (ne : m.frm ≠ x.id) : ∀ b ∈ (byKind x m).2, Says x x.term b := by
  intro b hb
  unfold byKind at hb
  split at hb
  · unfold onVote at hb
    split at hb
    · rw [List.mem_singleton.1 hb]; exact back_says hf ne _ _ _
    · rw [List.mem_singleton.1 hb]; exact back_says hf ne _ _ _
  · split at hb
    · unfold onVoted at hb
      split at hb
      · cases hb
      · rename_i h
        have hr : x.role = 2 := Classical.byContradiction (fun q => h (.inl q))
        have h := elect_says (right_voters r hr m.frm) hr b hb
        exact ⟨h.frm, h.dest, h.to1, h.toN, h.items, h.term⟩
    · split at hb
      · unfold onAppend at hb
        split at hb
        · rw [List.mem_singleton.1 hb]; exact back_says hf ne _ _ _
        · split at hb
          · rw [List.mem_singleton.1 hb]; exact back_says hf ne _ _ _
          · rw [List.mem_singleton.1 hb]; exact back_says hf ne _ _ _
      · unfold onAppended at hb
        split at hb
        · cases hb
        · split at hb
          · simp only [] at hb
            split at hb
            · rw [List.mem_singleton.1 hb]
              have h := batch_says (x := sure (heardYes x m)) (d := m.frm) hf ne
              exact ⟨h.frm, h.dest, h.to1, h.toN, h.items, h.term⟩
            · cases hb
          · rw [List.mem_singleton.1 hb]
            have h := batch_says (x := heardNo x m) (d := m.frm) hf ne
            exact ⟨h.frm, h.dest, h.to1, h.toN, h.items, h.term⟩
theorem receive_says {x : Node} (r : Right x) (m : Msg) : ∀ b ∈ (receive x m).2, Says x (receive x m).1.term b := by
  unfold receive
  split
  · intro b hb
    cases hb
  · rename_i hc
    have hl : ¬ Lost x m := fun q => hc (.inr q)
    unfold Lost at hl
    obtain ⟨l1, l2, l3, l4, l5, _⟩ := Classical.not_not.1 hl
    obtain ⟨b1, b2, _⟩ := bump_same x m.term
    intro b hb
    rw [kind_term]
    have h := kind_says (right_bump r l5) (by rw [b2]; exact l2) (by rw [b1]; exact l3) b hb
    exact ⟨by rw [← b1]; exact h.frm, by rw [← b1]; exact h.dest, h.to1, by rw [← b2]; exact h.toN, h.items, h.term⟩
theorem wrong_quiet {x : Node} (h : wrongN x ≠ 0) (m : Msg) (cmd : Int) : (timeout x).2 = [] ∧ (beat x).2 = [] ∧ (propose x cmd).2.1 = [] ∧ (receive x m).2 = [] := by
  refine ⟨?_, ?_, ?_, ?_⟩
  · unfold timeout; rw [if_pos (.inl h)]
  · unfold beat; rw [if_pos (.inl h)]
  · unfold propose; rw [if_pos (.inl h)]
  · unfold receive; rw [if_pos (.inl h)]

/-- what stands in a log behind a message's items -/
theorem taken_at {log xs : List Item} {i : Nat} (hi : i ≤ log.length) {j : Nat} {z : Item} (hz : xs[j]? = some z) : ∃ y, (taken log i xs)[i + j]? = some y ∧ y.1 = z.1 := by
  obtain ⟨h1, h2⟩ := held_bound log xs i hi
  have hh := held_le log xs i
  have hj := (List.getElem?_eq_some_iff.1 hz).1
  unfold taken
  by_cases hlt : held log i xs < xs.length
  · rw [if_pos hlt]
    by_cases hjh : j < held log i xs
    · obtain ⟨y, z', y1, z1, e⟩ := h2 j hjh
      rw [hz] at z1
      cases z1
      refine ⟨y, ?_, e⟩
      rw [List.getElem?_append_left (by rw [List.length_take]; omega), List.getElem?_take_of_lt (by omega)]
      exact y1
    · refine ⟨z, ?_, rfl⟩
      rw [List.getElem?_append_right (by rw [List.length_take]; omega), List.length_take, Nat.min_eq_left h1, List.getElem?_drop]
      rw [show held log i xs + (i + j - (i + held log i xs)) = j by omega]
      exact hz
  · rw [if_neg hlt]
    obtain ⟨y, z', y1, z1, e⟩ := h2 j (by omega)
    rw [hz] at z1
    cases z1
    exact ⟨y, y1, e⟩
theorem taken_pre {log xs : List Item} {i : Nat} (hi : i ≤ log.length) : (taken log i xs).take i = log.take i := by
  obtain ⟨h1, _⟩ := held_bound log xs i hi
  unfold taken
  split
  · rw [List.take_append_of_le_length (by rw [List.length_take]; omega), List.take_take, Nat.min_eq_left (by omega)]
  · rfl
/-- WHO AGREES HAS WHAT WAS SENT -/
theorem whole {x : Node} {m : Msg} (hk : m.kind = 3) {b : Msg} (hb : (receive x m).2 = [b]) (hy : b.yes = true) :
    0 ≤ m.index ∧ b.index = m.index + (m.items.length : Int) ∧ b.index ≤ ((receive x m).1.log.length : Int) ∧ m.index ≤ (x.log.length : Int) ∧ (∀ (j : Nat) z, m.items[j]? = some z → ∃ y, (receive x m).1.log[m.index.toNat + j]? = some y ∧ y.1 = z.1) ∧
    (receive x m).1.log.take m.index.toNat = x.log.take m.index.toNat ∧ (m.index = 0 ∨ atN (receive x m).1.log m.index.toNat = m.logTerm) := by
  unfold receive at *
  split at hb
  · cases hb
  · rename_i hc
    rw [if_neg hc]
    have hl : ¬ Lost x m := fun q => hc (.inr q)
    unfold Lost at hl
    obtain ⟨l1, l2, l3, l4, l5, l6, l7, l8, l9, l10, l11⟩ := Classical.not_not.1 hl
    obtain ⟨b1, b2, b3, _⟩ := bump_same x m.term
    unfold inB at l6
    unfold byKind at *
    rw [if_neg (by omega), if_neg (by omega), if_pos hk] at hb ⊢
    unfold onAppend at *
    split at hb
    · cases hb
      cases hy
    · rename_i h1
      rw [if_neg h1]
      split at hb
      · rename_i hf
        rw [if_pos hf]
        obtain ⟨f1, f2⟩ := hf
        rw [b3] at f1 f2
        have hi : m.index.toNat ≤ x.log.length := by omega
        cases hb
        have el : (takenBy (follow (bump x m.term) m.frm) m).log = taken x.log m.index.toNat m.items := by
          show taken (bump x m.term).log m.index.toNat m.items = _
          rw [b3]
        obtain ⟨t1, _, _⟩ := taken_len x.log m.index.toNat m.items hi
        refine ⟨l6.1, rfl, ?_, by omega, ?_, ?_, ?_⟩
        · show m.index + (m.items.length : Int) ≤ ((takenBy (follow (bump x m.term) m.frm) m).log.length : Int)
          rw [el]
          omega
        · intro j z hz
          show ∃ y, (takenBy (follow (bump x m.term) m.frm) m).log[m.index.toNat + j]? = some y ∧ y.1 = z.1
          rw [el]
          exact taken_at hi hz
        · show (takenBy (follow (bump x m.term) m.frm) m).log.take m.index.toNat = _
          rw [el]
          exact taken_pre hi
        · rcases f2 with q | q
          · exact .inl q
          · refine .inr ?_
            show atN (takenBy (follow (bump x m.term) m.frm) m).log m.index.toNat = m.logTerm
            rw [el]
            have e := taken_pre (xs := m.items) hi
            have a1 := atN_pre (take_is_pre (taken x.log m.index.toNat m.items) m.index.toNat) (i := m.index.toNat) (by rw [List.length_take]; omega)
            have a2 := atN_pre (take_is_pre x.log m.index.toNat) (i := m.index.toNat) (by rw [List.length_take]; omega)
            rw [a1, e, ← a2]
            exact q
      · cases hb
        cases hy
end Go.Proofs.Ytneepoaimbnneaa.Rf

namespace Go.Proofs.Ytneepoaimbnneaa.Rf

def Few (w : Wd) : Prop := ∀ m ∈ w.net, m.items.length ≤ 60
theorem acts_few {w : Wd} {net : List Msg} {k : Int} {f : Node → Node × List Msg} (hn : ∀ x ∈ w.nodes, Right x) (hnet : ∀ m ∈ net, m.items.length ≤ 60) (hf : ∀ x, Right x → ∀ m ∈ (f x).2, m.items.length ≤ 60) : Few (acts w net k f) := by
  unfold acts
  split
  · rename_i x hx
    split at hx
    · intro m hm
      rcases List.mem_append.1 (trim_mem hm) with q | q
      · exact hnet m q
      · exact hf x (hn x (List.mem_of_getElem? hx)) m q
    · cases hx
  · intro m hm
    exact hnet m (trim_mem hm)
theorem step_few {w : Wd} (hn : ∀ x ∈ w.nodes, Right x) (h : Few w) (e : Ev) : Few (stepW w e) := by
  unfold stepW
  split
  · split
    · rename_i m hm
      unfold evMsg
      split
      · exact fun b hb => h b (erase_mem hb)
      · refine acts_few hn (fun b hb => ?_) (fun x r b hb => by have := (receive_says r m b hb).items; omega)
        split at hb
        · exact h b hb
        · exact h b (erase_mem hb)
    · exact h
  · unfold evNode
    split
    · exact acts_few hn h (fun x r b hb => by have := (timeout_says r b hb).items; omega)
    · split
      · exact acts_few hn h (fun x r b hb => by have := (beat_says r b hb).items; omega)
      · split
        · exact acts_few hn h (fun x r b hb => by have := (propose_says r e.pick b hb).items; omega)
        · split
          · exact acts_few hn h (fun x r b hb => by cases hb)
          · exact h
theorem inv_right {N : Int} {g : Gh} {w : Wd} (h : WInv N g w) : ∀ x ∈ w.nodes, Right x := by
  intro x hx
  obtain ⟨i, hi⟩ := List.getElem?_of_mem hx
  exact (h.nd i x hi).2.1
/-- a world that has come about -/
def Come (N : Int) (g : Gh) (w : Wd) : Prop := WInv N g w ∧ Few w
theorem first_come {n : Int} (h1 : 1 ≤ n) (h5 : n ≤ 5) : ∃ g, Come n g (startW n) := by
  obtain ⟨g, h⟩ := first_inv h1 h5
  exact ⟨g, h, fun m hm => by cases hm⟩
theorem step_come {N : Int} {g : Gh} {w : Wd} (h : Come N g w) (e : Ev) : ∃ g', More g g' ∧ Come N g' (stepW w e) := by
  obtain ⟨g', m, k⟩ := step_inv h.1 e
  exact ⟨g', m, k, step_few (inv_right h.1) h.2 e⟩
theorem run_next (n : Int) (l : List Ev) (e : Ev) : runW n (l ++ [e]) = stepW (runW n l) e := by unfold runW; rw [List.foldl_append]; rfl
theorem run_take (n : Int) (l : List Ev) {k : Nat} {e : Ev} (h : l[k]? = some e) : runW n (l.take (k + 1)) = stepW (runW n (l.take k)) e := by
  rw [← run_next]
  congr 1
  obtain ⟨h1, h2⟩ := List.getElem?_eq_some_iff.1 h
  rw [← h2, List.take_append_getElem h1]
theorem run_come {n : Int} (h1 : 1 ≤ n) (h5 : n ≤ 5) (l : List Ev) : ∃ g, Come n g (runW n l) := by
  have key : ∀ (l : List Ev) (w : Wd) (g : Gh), Come n g w → ∃ g, Come n g (l.foldl stepW w) := by
    intro l
    induction l with
    | nil => intro w g h; exact ⟨g, h⟩
    | cons e l ih =>
      intro w g h
      obtain ⟨g', _, h'⟩ := step_come h e
      exact ih _ g' h'
  obtain ⟨g, h⟩ := first_come h1 h5
  exact key l _ g h

end Go.Proofs.Ytneepoaimbnneaa.Rf
