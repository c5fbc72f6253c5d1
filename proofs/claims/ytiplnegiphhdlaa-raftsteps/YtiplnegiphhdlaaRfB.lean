/- Raft in plain words: each small step keeps what is known. -/
import Derived.Test.YtiplnegiphhdlaaRfA
namespace Go.Proofs.Ytiplnegiphhdlaa.Rf

theorem Ext.refl (g : Gh) (k : Int) : Ext g g k where
  led _ _ h := h
  ledNew _ _ h := .inl h
  elog _ _ := rfl
  llog _ _ := List.prefix_rfl
  llogK _ _ _ _ := rfl
  cast _ _ _ h := h
  castNew _ _ _ h _ := h
  clog _ _ _ h := h
  clogNew _ _ _ h _ := h
  vrec _ _ _ _ h := h
  acks _ _ _ h := h
  acksNew _ _ _ h _ := h
theorem Ext.trans {a b c : Gh} {k : Int} (E : Ext a b k) (F : Ext b c k) : Ext a c k where
  led t d h := F.led _ _ (E.led _ _ h)
  ledNew t d h := by
    rcases F.ledNew _ _ h with q | q
    · exact E.ledNew _ _ q
    · exact .inr q
  elog t h := (F.elog t (E.some h)).trans (E.elog t h)
  llog t h := (E.llog t h).trans (F.llog t (E.some h))
  llogK t d h hk := (F.llogK t d (E.led _ _ h) hk).trans (E.llogK t d h hk)
  cast t q d h := F.cast _ _ _ (E.cast _ _ _ h)
  castNew t q d h hk := E.castNew _ _ _ (F.castNew _ _ _ h hk) hk
  clog t d l h := F.clog _ _ _ (E.clog _ _ _ h)
  clogNew t d l h hk := E.clogNew _ _ _ (F.clogNew _ _ _ h hk) hk
  vrec t q d l h := F.vrec _ _ _ _ (E.vrec _ _ _ _ h)
  acks t q i h := F.acks _ _ _ (E.acks _ _ _ h)
  acksNew t q i h hk := E.acksNew _ _ _ (F.acksNew _ _ _ h hk) hk

section
variable {N : Int} {g g' : Gh} {k : Int} {x x' : Node}
theorem Good.less {t T T' : Int} {P : List Item} (h : Good g t P T') (hT : T ≤ T') : Good g t P T := fun s h1 h2 h3 => h s h1 (by omega) h3
/-- all but the log and the votes may fall back: a later term, a follower -/
theorem NInv.relax (h : NInv N g k x) (hT : x.term ≤ x'.term) (hl : x'.log = x.log) (hv : x'.term = x.term ∧ x'.vote = x.vote ∨ x.term < x'.term ∧ x'.vote = 0) (hr : x'.role = 1) (hc : x'.commit ≤ x.commit) : NInv N g k x' where
  castT t c hc := by
    obtain ⟨h1, h2⟩ := h.castT t c hc
    refine ⟨by omega, fun e => ?_⟩
    rcases hv with ⟨a, b⟩ | ⟨a, b⟩
    · rw [b]
      exact h2 (by omega)
    · omega
  voteC h0 := by
    rcases hv with ⟨a, b⟩ | ⟨a, b⟩
    · rw [a, b]
      exact h.voteC (by rw [← b]; exact h0)
    · exact absurd b h0
  clogT t l hl := Int.le_trans (h.clogT t l hl) hT
  cand hr' := by rw [hr] at hr'; cases hr'
  ledT t ht := Int.le_trans (h.ledT t ht) hT
  lead hr' := by rw [hr] at hr'; cases hr'
  logM := by rw [hl]; exact h.logM
  logT e he := by rw [hl] at he; exact Int.le_trans (h.logT e he) hT
  ack t i ha := by
    obtain ⟨h1, h2⟩ := h.ack t i ha
    refine ⟨by omega, fun hg => ?_⟩
    rw [hl]
    exact h2 (hg.less (by omega))
  com := by
    by_cases h0 : x'.commit ≤ 0
    · exact .inl h0
    · refine h.com.less hT hc (by rw [hl]) ?_
      rw [hl]
      rcases h.com with q | ⟨_, _, _, _, _, _, q⟩
      · omega
      · omega

/-- records of votes stay right -/
theorem vrec_ext (E : Ext g g' k) (G : GInv N g) {t q c : Int} {vl : List Item} (hv : g.vrec t q c vl) (hn : ∀ s i, g'.acks s q i → s < t → g.acks s q i) :
    g'.cast t q c ∧ MatchL g' vl ∧ (∃ cl, g'.clog t c cl ∧ UpTo cl vl) ∧ ∀ s i, g'.acks s q i → s < t → Good g' s ((g'.llog s).take i) t → (g'.llog s).take i <+: vl := by
  obtain ⟨h1, h2, ⟨cl, h3, h4⟩, h5⟩ := G.vrecOk _ _ _ _ hv
  refine ⟨E.cast _ _ _ h1, h2.ext E, ⟨cl, E.clog _ _ _ h3, h4⟩, fun s i ha hs hg => ?_⟩
  have ha' := hn s i ha hs
  obtain ⟨h6, h7⟩ := G.ackOk _ _ _ ha'
  rw [take_pre (E.llog s h6) h7] at hg ⊢
  exact h5 s i ha' hs (Good.ext E hg)

/-- a node asks for votes in a new term -/
theorem candidate (G : GInv N g) (h : NInv N g k x) (hx : x'.term = x.term + 1 ∧ x'.vote = k ∧ x'.log = x.log ∧ x'.commit = x.commit ∧ x'.role = 2 ∧ x'.votes = [k]) (h0 : k ≠ 0) :
    ∃ g', Ext g g' k ∧ GInv N g' ∧ NInv N g' k x' := by
  obtain ⟨e1, e2, e3, e4, e5, e6⟩ := hx
  have castNo : ∀ c, ¬ g.cast (x.term + 1) k c := fun c hc => by have := (h.castT _ _ hc).1; omega
  have clogNo : ∀ l, ¬ g.clog (x.term + 1) k l := fun l hl => by have := h.clogT _ _ hl; omega
  refine ⟨{ g with cast := fun t q c => g.cast t q c ∨ t = x.term + 1 ∧ q = k ∧ c = k, clog := fun t c l => g.clog t c l ∨ t = x.term + 1 ∧ c = k ∧ l = x.log, vrec := fun t q c l => g.vrec t q c l ∨ t = x.term + 1 ∧ q = k ∧ c = k ∧ l = x.log ∧ g.led t = none }, ?E, ?G, ?I⟩
  case E =>
    exact ⟨fun _ _ h => h, fun _ _ h => .inl h, fun _ _ => rfl, fun _ _ => List.prefix_rfl, fun _ _ _ _ => rfl, fun _ _ _ h => .inl h, fun t q c h hk => h.elim id (fun q => absurd q.2.1 hk), fun _ _ _ h => .inl h, fun t q c h hk => h.elim id (fun q => absurd q.2.1 hk), fun _ _ _ _ h => .inl h, fun _ _ _ h => h, fun _ _ _ h _ => h⟩
  case G =>
    refine ⟨G.pos, G.ledPos, ?_, ?_, G.elogPre, G.elogLt, G.llogNew, G.llogM, ?_, ?_, ?_, ?_, G.ackOk⟩
    · rintro t q c c' (a | ⟨rfl, rfl, rfl⟩) (b | ⟨b1, b2, rfl⟩)
      · exact G.castOne _ _ _ _ a b
      · subst b1 b2
        exact absurd a (castNo _)
      · exact absurd b (castNo _)
      · rfl
    · rintro t q c (a | ⟨_, _, rfl⟩)
      · exact G.castNe _ _ _ a
      · exact h0
    · intro t c hl
      obtain ⟨h1, Q, h2, h3⟩ := G.ledQ t c hl
      refine ⟨.inl h1, Q, h2, fun q hq => ?_⟩
      obtain ⟨h4, vl, h5⟩ := h3 q hq
      exact ⟨.inl h4, vl, .inl h5⟩
    · rintro t c l l' (a | ⟨rfl, rfl, rfl⟩) (b | ⟨b1, b2, rfl⟩)
      · exact G.clogOne _ _ _ _ a b
      · subst b1 b2
        exact absurd a (clogNo _)
      · exact absurd b (clogNo _)
      · rfl
    · rintro t c l (a | ⟨rfl, rfl, rfl⟩)
      · exact G.clogM _ _ _ a
      · exact ⟨h.logM, fun e he => by have := h.logT e he; omega⟩
    · rintro t q c vl (a | ⟨rfl, rfl, rfl, rfl, hn⟩)
      · obtain ⟨h1, h2, ⟨cl, h3, h4⟩, h5⟩ := G.vrecOk _ _ _ _ a
        exact ⟨.inl h1, h2, ⟨cl, .inl h3, h4⟩, h5⟩
      · refine ⟨.inr ⟨rfl, rfl, rfl⟩, h.logM, ⟨x.log, .inr ⟨rfl, rfl, rfl⟩, .inr ⟨rfl, Nat.le_refl _⟩⟩, fun s i ha hs hg => ?_⟩
        exact (h.ack s i ha).2 hg
  case I =>
    refine ⟨?_, ?_, ?_, ?_, ?_, ?_, ?_, ?_, ?_, ?_⟩
    · rintro t c (a | ⟨rfl, _, rfl⟩)
      · have := (h.castT _ _ a).1
        exact ⟨by omega, fun e => by omega⟩
      · exact ⟨by omega, fun _ => e2⟩
    · intro _
      rw [e1, e2]
      exact .inr ⟨rfl, rfl, rfl⟩
    · rintro t l (a | ⟨rfl, _, _⟩)
      · have := h.clogT _ _ a; omega
      · omega
    · intro _
      refine ⟨by rw [e1, e3]; exact .inr ⟨rfl, rfl, rfl⟩, fun hl => ?_, fun v hv => ?_⟩
      · rw [e1] at hl
        have := h.ledT _ hl
        omega
      · rw [e6] at hv
        rw [List.mem_singleton.1 hv, e1]
        exact ⟨.inr ⟨rfl, rfl, rfl⟩, fun hn => ⟨x.log, .inr ⟨rfl, rfl, rfl, rfl, hn⟩⟩⟩
    · intro t ht
      have := h.ledT t ht; omega
    · intro hr; omega
    · rw [e3]; exact h.logM
    · intro e he
      rw [e3] at he
      have := h.logT e he; omega
    · intro t i ha
      obtain ⟨h1, h2⟩ := h.ack t i ha
      refine ⟨by omega, fun hg => ?_⟩
      rw [e3]
      exact h2 (Good.less (g := g) hg (by omega))
    · rw [e3, e4]
      rcases h.com with q | ⟨t, j, h1, h2, h3⟩
      · exact .inl q
      · exact .inr ⟨t, j, by omega, h2, h3⟩

/-- a node votes -/
theorem votes_for (G : GInv N g) (h : NInv N g k x) {m : Msg} (hm : MsgOk N g m) (hk : m.kind = 1) (ht : m.term = x.term) (hv : x.vote = 0 ∨ x.vote = m.frm) (h0 : m.frm ≠ 0)
    (hu : ¬ (m.logTerm < lastT x.log ∨ m.logTerm = lastT x.log ∧ m.index < (x.log.length : Int))) (hx : x' = { x with vote := m.frm }) :
    ∃ g', Ext g g' k ∧ GInv N g' ∧ NInv N g' k x' ∧ g'.cast x.term k m.frm ∧ (g'.led x.term = none → ∃ vl, g'.vrec x.term k m.frm vl) := by
  obtain ⟨cl, hc1, hc2, hc3⟩ := hm.vote hk
  rw [ht] at hc1
  have up : UpTo cl x.log := by
    unfold UpTo
    omega
  have castIs : ∀ c, g.cast x.term k c → c = m.frm := fun c hc => by
    have h1 := (h.castT _ _ hc).2 rfl
    have h2 := G.castNe _ _ _ hc
    omega
  refine ⟨{ g with cast := fun t q c => g.cast t q c ∨ t = x.term ∧ q = k ∧ c = m.frm, vrec := fun t q c l => g.vrec t q c l ∨ t = x.term ∧ q = k ∧ c = m.frm ∧ l = x.log ∧ g.led t = none }, ?E, ?G, ?I, .inr ⟨rfl, rfl, rfl⟩, fun hn => ⟨x.log, .inr ⟨rfl, rfl, rfl, rfl, hn⟩⟩⟩
  case E =>
    exact ⟨fun _ _ h => h, fun _ _ h => .inl h, fun _ _ => rfl, fun _ _ => List.prefix_rfl, fun _ _ _ _ => rfl, fun _ _ _ h => .inl h, fun t q c h hk => h.elim id (fun q => absurd q.2.1 hk), fun _ _ _ h => h, fun t q c h hk => h, fun _ _ _ _ h => .inl h, fun _ _ _ h => h, fun _ _ _ h _ => h⟩
  case G =>
    refine ⟨G.pos, G.ledPos, ?_, ?_, G.elogPre, G.elogLt, G.llogNew, G.llogM, ?_, G.clogOne, G.clogM, ?_, G.ackOk⟩
    · rintro t q c c' (a | ⟨rfl, rfl, rfl⟩) (b | ⟨b1, b2, rfl⟩)
      · exact G.castOne _ _ _ _ a b
      · subst b1 b2
        exact castIs _ a
      · exact (castIs _ b).symm
      · rfl
    · rintro t q c (a | ⟨_, _, rfl⟩)
      · exact G.castNe _ _ _ a
      · exact h0
    · intro t c hl
      obtain ⟨h1, Q, h2, h3⟩ := G.ledQ t c hl
      refine ⟨h1, Q, h2, fun q hq => ?_⟩
      obtain ⟨h4, vl, h5⟩ := h3 q hq
      exact ⟨.inl h4, vl, .inl h5⟩
    · rintro t q c vl (a | ⟨rfl, rfl, rfl, rfl, hn⟩)
      · obtain ⟨h1, h2⟩ := G.vrecOk _ _ _ _ a
        exact ⟨.inl h1, h2⟩
      · refine ⟨.inr ⟨rfl, rfl, rfl⟩, h.logM, ⟨cl, hc1, up⟩, fun s i ha hs hg => ?_⟩
        refine (h.ack s i ha).2 (fun u h1 h2 h3 => ?_)
        by_cases e : u = x.term
        · subst e
          rw [hn] at h3
          cases h3
        · exact hg u h1 (by omega) h3
  case I =>
    subst hx
    refine ⟨?_, ?_, h.clogT, ?_, h.ledT, h.lead, h.logM, h.logT, h.ack, h.com⟩
    · rintro t c (a | ⟨rfl, _, rfl⟩)
      · refine ⟨(h.castT _ _ a).1, fun e => ?_⟩
        subst e
        exact (castIs _ a).symm
      · exact ⟨Int.le_refl _, fun _ => rfl⟩
    · intro _
      exact .inr ⟨rfl, rfl, rfl⟩
    · intro hr
      obtain ⟨h1, h2, h3⟩ := h.cand hr
      refine ⟨h1, h2, fun v hv => ?_⟩
      obtain ⟨h4, h5⟩ := h3 v hv
      refine ⟨.inl h4, fun hn => ?_⟩
      obtain ⟨vl, h6⟩ := h5 hn
      exact ⟨vl, .inl h6⟩

/-- a candidate counts a vote -/
theorem counts (h : NInv N g k x) {m : Msg} (hm : MsgOk N g m) (hk : m.kind = 2) (hy : m.yes = true) (ht : m.term = x.term) (hd : m.dest = k) (vs : List Int) (hvs : ∀ v ∈ vs, v ∈ x.votes ∨ v = m.frm) (hx : x' = { x with votes := vs }) : NInv N g k x' := by
  subst hx
  refine ⟨h.castT, h.voteC, h.clogT, fun hr => ?_, h.ledT, h.lead, h.logM, h.logT, h.ack, h.com⟩
  obtain ⟨h1, h2, h3⟩ := h.cand hr
  refine ⟨h1, h2, fun v hv => ?_⟩
  rcases hvs v hv with q | rfl
  · exact h3 v q
  · have := hm.voted hk hy
    rw [ht, hd] at this
    exact this

/-- a candidate that most have voted for leads -/
theorem leads (G : GInv N g) (h : NInv N g k x) (hr : x.role = 2) (hQ : Quorum N x.votes) (h1t : 1 ≤ x.term) (hx : x'.term = x.term ∧ x'.vote = x.vote ∧ x'.log = x.log ∧ x'.commit = x.commit ∧ x'.role = 3) (hm : ∀ v ∈ x'.mtch, v ≤ 0) :
    ∃ g', Ext g g' k ∧ GInv N g' ∧ NInv N g' k x' := by
  obtain ⟨e1, e2, e3, e4, e5⟩ := hx
  obtain ⟨c1, c2, c3⟩ := h.cand hr
  have none : g.led x.term = none := by
    cases e : g.led x.term with
    | none => rfl
    | some c =>
      obtain ⟨_, R, hR, hv⟩ := G.ledQ _ _ e
      obtain ⟨q, q1, q2⟩ := quorum_meet G.pos hQ hR
      have := G.castOne _ _ _ _ (c3 q q1).1 (hv q q2).1
      subst this
      exact absurd e c2
  have ne : ∀ t, (g.led t).isSome = true → t ≠ x.term := fun t ht e => by rw [e, none] at ht; cases ht
  have cM := G.clogM _ _ _ c1
  have E : Ext g { g with led := fun t => if t = x.term then some k else g.led t, elog := fun t => if t = x.term then x.log else g.elog t, llog := fun t => if t = x.term then x.log else g.llog t } k := by
    refine ⟨fun t c ht => ?_, fun t c ht => ?_, fun t ht => ?_, fun t ht => ?_, fun t c ht hc => ?_, fun _ _ _ h => h, fun _ _ _ h _ => h, fun _ _ _ h => h, fun _ _ _ h _ => h, fun _ _ _ _ h => h, fun _ _ _ h => h, fun _ _ _ h _ => h⟩
    · show (if t = x.term then some k else g.led t) = some c
      rw [if_neg (ne t (by rw [ht]; rfl))]
      exact ht
    · have ht : (if t = x.term then some k else g.led t) = some c := ht
      split at ht
      · cases ht
        exact .inr rfl
      · exact .inl ht
    · show (if t = x.term then x.log else g.elog t) = _
      rw [if_neg (ne t ht)]
    · show _ <+: (if t = x.term then x.log else g.llog t)
      rw [if_neg (ne t ht)]
      exact List.prefix_rfl
    · show (if t = x.term then x.log else g.llog t) = _
      rw [if_neg (ne t (by rw [ht]; rfl))]
  refine ⟨{ g with led := fun t => if t = x.term then some k else g.led t, elog := fun t => if t = x.term then x.log else g.elog t, llog := fun t => if t = x.term then x.log else g.llog t }, ?E, ?G, ?I⟩
  case E => exact E
  case G =>
    have lM := h.logM.ext E
    refine ⟨G.pos, fun t ht => ?_, G.castOne, G.castNe, fun t ht => ?_, fun t ht => ?_, fun t ht i y hy hi => ?_, fun t ht => ?_, fun t c ht => ?_, G.clogOne, fun t c l hl => ?_, fun t q c vl hv => vrec_ext E G hv (fun s i ha _ => ha), fun t q i ha => ?_⟩
    · by_cases e : t = x.term
      · omega
      · have ht : (if t = x.term then some k else g.led t).isSome = true := ht
        rw [if_neg e] at ht
        exact G.ledPos t ht
    · show (if t = x.term then x.log else g.elog t) <+: (if t = x.term then x.log else g.llog t)
      by_cases e : t = x.term
      · rw [if_pos e, if_pos e]
        exact List.prefix_rfl
      · have ht : (if t = x.term then some k else g.led t).isSome = true := ht
        rw [if_neg e] at ht
        rw [if_neg e, if_neg e]
        exact G.elogPre t ht
    · show ∀ y ∈ (if t = x.term then x.log else g.elog t), y.1 < t
      by_cases e : t = x.term
      · rw [if_pos e, e]
        exact cM.2
      · have ht : (if t = x.term then some k else g.led t).isSome = true := ht
        rw [if_neg e] at ht
        rw [if_neg e]
        exact G.elogLt t ht
    · have hy : (if t = x.term then x.log else g.llog t)[i]? = some y := hy
      have hi : (if t = x.term then x.log else g.elog t).length ≤ i := hi
      by_cases e : t = x.term
      · rw [if_pos e] at hy hi
        have := (List.getElem?_eq_some_iff.1 hy).1
        omega
      · have ht : (if t = x.term then some k else g.led t).isSome = true := ht
        rw [if_neg e] at hy hi ht
        exact G.llogNew t ht i y hy hi
    · show MatchL _ (if t = x.term then x.log else g.llog t)
      by_cases e : t = x.term
      · rw [if_pos e]
        exact lM
      · have ht : (if t = x.term then some k else g.led t).isSome = true := ht
        rw [if_neg e] at ht
        rw [if_neg e]
        exact (G.llogM t ht).ext E
    · have ht : (if t = x.term then some k else g.led t) = some c := ht
      show g.clog t c (if t = x.term then x.log else g.elog t) ∧ _
      by_cases e : t = x.term
      · rw [if_pos e] at ht
        cases ht
        rw [if_pos e, e]
        refine ⟨c1, x.votes, hQ, fun q hq => ⟨(c3 q hq).1, (c3 q hq).2 none⟩⟩
      · rw [if_neg e] at ht
        rw [if_neg e]
        exact G.ledQ t c ht
    · exact ⟨(G.clogM _ _ _ hl).1.ext E, (G.clogM _ _ _ hl).2⟩
    · obtain ⟨h1, h2⟩ := G.ackOk _ _ _ ha
      exact ⟨E.some h1, Nat.le_trans h2 (E.llog t h1).length_le⟩
  case I =>
    have hl : ∀ t, (g.led t).isSome = true → (if t = x.term then x.log else g.llog t) = g.llog t := fun t ht => by rw [if_neg (ne t ht)]
    refine ⟨?_, ?_, ?_, ?_, ?_, ?_, ?_, ?_, ?_, ?_⟩
    · intro t c hc
      rw [e1, e2]
      exact h.castT t c hc
    · intro h0
      rw [e1, e2] at *
      exact h.voteC h0
    · intro t l hl
      rw [e1]
      exact h.clogT t l hl
    · intro hr'
      omega
    · intro t ht
      have ht : (if t = x.term then some k else g.led t) = some k := ht
      rw [e1]
      by_cases e : t = x.term
      · omega
      · rw [if_neg e] at ht
        exact h.ledT t ht
    · intro _
      rw [e1, e3]
      refine ⟨?_, ?_, fun j v hv i h1 h2 => ?_⟩
      · show (if x.term = x.term then some k else g.led x.term) = some k
        rw [if_pos rfl]
      · show (if x.term = x.term then x.log else g.llog x.term) = x.log
        rw [if_pos rfl]
      · have := hm v (List.mem_of_getElem? hv)
        omega
    · rw [e3]
      exact h.logM.ext E
    · rw [e3, e1]
      exact h.logT
    · intro t i ha
      obtain ⟨h1, h2⟩ := h.ack t i ha
      obtain ⟨h3, h4⟩ := G.ackOk _ _ _ ha
      rw [e1, e3]
      refine ⟨h1, fun hg => ?_⟩
      have e := hl t h3
      have hg : Good _ t ((if t = x.term then x.log else g.llog t).take i) (x.term + 1) := hg
      show (if t = x.term then x.log else g.llog t).take i <+: x.log
      rw [e] at hg ⊢
      exact h2 (Good.ext E hg)
    · rw [e1, e3, e4]
      exact h.com.ext E

/-- a leader's log grows, or is counted as its own -/
theorem puts (G : GInv N g) (h : NInv N g k x) (hr : x.role = 3) (hx : x'.term = x.term ∧ x'.vote = x.vote ∧ x'.commit = x.commit ∧ x'.role = 3) (hl : x'.log = x.log ∨ ∃ c, x'.log = x.log ++ [(x.term, c)])
    (hm : ∀ (j : Nat) (v : Int), x'.mtch[j]? = some v → x.mtch[j]? = some v ∨ (j : Int) + 1 = k ∧ v ≤ (x'.log.length : Int)) :
    ∃ g', Ext g g' k ∧ GInv N g' ∧ NInv N g' k x' := by
  obtain ⟨e1, e2, e4, e5⟩ := hx
  obtain ⟨l1, l2, l3⟩ := h.lead hr
  have ls : (g.led x.term).isSome = true := by rw [l1]; rfl
  have pre : x.log <+: x'.log := by
    rcases hl with q | ⟨c, q⟩
    · rw [q]; exact List.prefix_rfl
    · rw [q]; exact List.prefix_append _ _
  have pre' : g.llog x.term <+: x'.log := by rw [l2]; exact pre
  have E : Ext g { g with llog := fun t => if t = x.term then x'.log else g.llog t, acks := fun t q i => g.acks t q i ∨ t = x.term ∧ q = k ∧ i ≤ x'.log.length } k := by
    refine ⟨fun _ _ h => h, fun _ _ h => .inl h, fun _ _ => rfl, fun t ht => ?_, fun t c ht hc => ?_, fun _ _ _ h => h, fun _ _ _ h _ => h, fun _ _ _ h => h, fun _ _ _ h _ => h, fun _ _ _ _ h => h, fun _ _ _ h => .inl h, fun _ _ _ h hk => h.elim id (fun q => absurd q.2.1 hk)⟩
    · show _ <+: (if t = x.term then x'.log else g.llog t)
      by_cases e : t = x.term
      · rw [if_pos e, e]
        exact pre'
      · rw [if_neg e]
        exact List.prefix_rfl
    · show (if t = x.term then x'.log else g.llog t) = _
      rw [if_neg]
      rintro rfl
      rw [l1] at ht
      cases ht
      exact hc rfl
  have own : (if x.term = x.term then x'.log else g.llog x.term) = x'.log := if_pos rfl
  have newM : MatchL { g with llog := fun t => if t = x.term then x'.log else g.llog t, acks := fun t q i => g.acks t q i ∨ t = x.term ∧ q = k ∧ i ≤ x'.log.length } x'.log := by
    intro i y hy
    rcases Nat.lt_or_ge i x.log.length with q | q
    · obtain ⟨z, hz⟩ : ∃ z, x.log[i]? = some z := ⟨_, List.getElem?_eq_getElem q⟩
      have := pre_get pre hz
      rw [hy] at this
      cases this
      have := h.logM.ext E i y hz
      rw [take_pre pre (by omega)]
      exact this
    · rcases hl with r | ⟨c, r⟩
      · rw [r] at hy
        have := (List.getElem?_eq_some_iff.1 hy).1
        omega
      · have hy2 := hy
        rw [r, List.getElem?_append_right q] at hy
        have hi : i - x.log.length = 0 := by
          have := (List.getElem?_eq_some_iff.1 hy).1
          simp at this
          omega
        rw [hi] at hy
        cases hy
        refine ⟨ls, ?_⟩
        show _ <+: (if x.term = x.term then x'.log else g.llog x.term)
        rw [own]
        exact take_is_pre _ _
  refine ⟨{ g with llog := fun t => if t = x.term then x'.log else g.llog t, acks := fun t q i => g.acks t q i ∨ t = x.term ∧ q = k ∧ i ≤ x'.log.length }, ?E, ?G, ?I⟩
  case E => exact E
  case G =>
    refine ⟨G.pos, G.ledPos, G.castOne, G.castNe, fun t ht => (G.elogPre t ht).trans (E.llog t ht), G.elogLt, fun t ht i y hy hi => ?_, fun t ht => ?_, G.ledQ, G.clogOne, fun t c l hl => ⟨(G.clogM _ _ _ hl).1.ext E, (G.clogM _ _ _ hl).2⟩, fun t q c vl hv => vrec_ext E G hv (fun s i ha hs => ?_), fun t q i ha => ?_⟩
    · replace hy : (if t = x.term then x'.log else g.llog t)[i]? = some y := hy
      by_cases e : t = x.term
      · rw [if_pos e] at hy
        subst e
        rcases Nat.lt_or_ge i x.log.length with q | q
        · obtain ⟨z, hz⟩ : ∃ z, x.log[i]? = some z := ⟨_, List.getElem?_eq_getElem q⟩
          have := pre_get pre hz
          rw [hy] at this
          cases this
          rw [← l2] at hz
          exact G.llogNew _ ht i y hz hi
        · rcases hl with r | ⟨c, r⟩
          · rw [r] at hy
            have := (List.getElem?_eq_some_iff.1 hy).1
            omega
          · rw [r, List.getElem?_append_right q] at hy
            have hi : i - x.log.length = 0 := by
              have := (List.getElem?_eq_some_iff.1 hy).1
              simp at this
              omega
            rw [hi] at hy
            cases hy
            rfl
      · rw [if_neg e] at hy
        exact G.llogNew t ht i y hy hi
    · show MatchL _ (if t = x.term then x'.log else g.llog t)
      by_cases e : t = x.term
      · rw [if_pos e]
        exact newM
      · rw [if_neg e]
        exact (G.llogM t ht).ext E
    · rcases ha with ha | ⟨rfl, rfl, _⟩
      · exact ha
      · have := (h.castT _ _ (G.vrecOk _ _ _ _ hv).1).1
        omega
    · rcases ha with ha | ⟨rfl, rfl, hi⟩
      · obtain ⟨h1, h2⟩ := G.ackOk _ _ _ ha
        exact ⟨h1, Nat.le_trans h2 (E.llog t h1).length_le⟩
      · refine ⟨ls, ?_⟩
        show i ≤ (if x.term = x.term then x'.log else g.llog x.term).length
        rw [own]
        exact hi
  case I =>
    refine ⟨?_, ?_, ?_, fun hr' => by omega, ?_, fun _ => ?_, newM, ?_, ?_, ?_⟩
    · intro t c hc
      rw [e1, e2]
      exact h.castT t c hc
    · intro h0
      rw [e1, e2] at *
      exact h.voteC h0
    · intro t l hl
      rw [e1]
      exact h.clogT t l hl
    · intro t ht
      rw [e1]
      exact h.ledT t ht
    · rw [e1]
      refine ⟨l1, own, fun j v hv i h1 h2 => ?_⟩
      rcases hm j v hv with q | ⟨q1, q2⟩
      · exact .inl (l3 j v q i h1 h2)
      · exact .inr ⟨rfl, q1, by omega⟩
    · intro e he
      rw [e1]
      rcases hl with r | ⟨c, r⟩
      · rw [r] at he; exact h.logT e he
      · rw [r] at he
        rcases List.mem_append.1 he with q | q
        · exact h.logT e q
        · rw [List.mem_singleton.1 q]
          exact Int.le_refl _
    · intro t i ha
      rw [e1]
      rcases ha with ha | ⟨rfl, _, hi⟩
      · obtain ⟨h1, h2⟩ := h.ack t i ha
        obtain ⟨h3, h4⟩ := G.ackOk _ _ _ ha
        refine ⟨h1, fun hg => ?_⟩
        have e := take_pre (E.llog t h3) h4
        rw [e] at hg ⊢
        exact (h2 (Good.ext E hg)).trans pre
      · refine ⟨Int.le_refl _, fun _ => ?_⟩
        show (if x.term = x.term then x'.log else g.llog x.term).take i <+: x'.log
        rw [own]
        exact take_is_pre _ _
    · rw [e1, e4]
      by_cases h0 : x.commit ≤ 0
      · exact .inl h0
      · have hc : x.commit.toNat ≤ x.log.length := by
          rcases h.com with q | ⟨_, _, _, _, _, _, q⟩
          · omega
          · exact q
        exact (h.com.ext E).less (Int.le_refl _) (Int.le_refl _) (take_pre pre hc) (Nat.le_trans hc pre.length_le)

/-- a leader counts what most have as sure -/
theorem sures (h : NInv N g k x) (hx : x'.term = x.term ∧ x'.vote = x.vote ∧ x'.log = x.log ∧ x'.role = x.role ∧ x'.votes = x.votes ∧ x'.mtch = x.mtch) (hc : SureL N g x.term x.log x'.commit) : NInv N g k x' := by
  obtain ⟨e1, e2, e3, e4, e5, e6⟩ := hx
  refine ⟨?_, ?_, ?_, ?_, ?_, ?_, ?_, ?_, ?_, ?_⟩
  · rw [e1, e2]; exact h.castT
  · rw [e1, e2]; exact h.voteC
  · rw [e1]; exact h.clogT
  · rw [e1, e3, e4, e5]; exact h.cand
  · rw [e1]; exact h.ledT
  · rw [e1, e3, e4, e6]; exact h.lead
  · rw [e3]; exact h.logM
  · rw [e1, e3]; exact h.logT
  · rw [e1, e3]; exact h.ack
  · rw [e1, e3]; exact hc
theorem sure_most (h : NInv N g k x) (hr : x.role = 3) {j : Nat} (h1 : 1 ≤ j) (h2 : j ≤ x.log.length) (ht : atN x.log j = x.term) {Q : List Int} (hQ : Quorum N Q) (hm : ∀ q ∈ Q, ∃ (a : Nat) (v : Int), q = (a : Int) + 1 ∧ x.mtch[a]? = some v ∧ (j : Int) ≤ v) : SureL N g x.term x.log (j : Int) := by
  obtain ⟨l1, l2, l3⟩ := h.lead hr
  refine .inr ⟨x.term, j, Int.le_refl _, ⟨h1, by rw [l2]; exact h2, by rw [l2]; exact ht, by rw [l1]; rfl, Q, hQ, fun q hq => ?_⟩, by simp, by rw [l2], by simpa using h2⟩
  obtain ⟨a, v, rfl, hv, hj⟩ := hm q hq
  exact l3 a v hv j h1 hj

/-- a leader hears what somebody has -/
theorem hears (h : NInv N g k x) {m : Msg} (hm : MsgOk N g m) (hk : m.kind = 4) (hy : m.yes = true) (ht : m.term = x.term) (hx : x'.term = x.term ∧ x'.vote = x.vote ∧ x'.log = x.log ∧ x'.role = 3 ∧ x.role = 3 ∧ x'.commit = x.commit)
    (hma : ∀ (j : Nat) (v : Int), x'.mtch[j]? = some v → x.mtch[j]? = some v ∨ (j : Int) + 1 = m.frm ∧ v ≤ m.index) : NInv N g k x' := by
  obtain ⟨e1, e2, e3, e4, e5, e6⟩ := hx
  obtain ⟨l1, l2, l3⟩ := h.lead e5
  refine ⟨?_, ?_, ?_, fun q => by omega, ?_, fun _ => ?_, ?_, ?_, ?_, ?_⟩
  · rw [e1, e2]; exact h.castT
  · rw [e1, e2]; exact h.voteC
  · rw [e1]; exact h.clogT
  · rw [e1]; exact h.ledT
  · rw [e1, e3]
    refine ⟨l1, l2, fun j v hv i h1 h2 => ?_⟩
    rcases hma j v hv with q | ⟨q1, q2⟩
    · exact l3 j v q i h1 h2
    · rw [q1, ← ht]
      exact hm.acked hk hy i h1 (by omega)
  · rw [e3]; exact h.logM
  · rw [e1, e3]; exact h.logT
  · rw [e1, e3]; exact h.ack
  · rw [e1, e3, e6]; exact h.com

/-- how many of a message's items stand in a log already, behind so many -/
def held (log : List Item) : Nat → List Item → Nat
  | _, [] => 0
  | i, x :: xs => match log[i]? with | some y => if y.1 = x.1 then held log (i + 1) xs + 1 else 0 | none => 0
theorem held_le (log : List Item) : ∀ (xs : List Item) (i : Nat), held log i xs ≤ xs.length
  | [], i => by rw [held]; exact Nat.le_refl _
  | x :: xs, i => by
    rw [held]
    have := held_le log xs (i + 1)
    cases h : log[i]? with
    | none => simp
    | some y =>
      simp only []
      split
      · simp; exact this
      · simp
/-- the log that a message's items make -/
def taken (log : List Item) (i : Nat) (xs : List Item) : List Item := if held log i xs < xs.length then log.take (i + held log i xs) ++ xs.drop (held log i xs) else log

theorem held_same {g : Gh} {log L : List Item} (ha : MatchL g log) (hb : MatchL g L) : ∀ (xs : List Item) (i : Nat), i ≤ log.length → log.take i = L.take i → L.take i ++ xs <+: L → i + held log i xs ≤ log.length ∧ log.take (i + held log i xs) = L.take (i + held log i xs) ∧
    (held log i xs < xs.length → ∀ y z, log[i + held log i xs]? = some y → L[i + held log i xs]? = some z → y.1 ≠ z.1)
  | [], i, hi, h1, _ => by
    rw [held]
    exact ⟨hi, h1, fun q => by simp at q⟩
  | x :: xs, i, hi, h1, h2 => by
    have hLi : i ≤ L.length := by have := congrArg List.length h1; rw [List.length_take, List.length_take] at this; omega
    have hx : L[i]? = some x := by
      refine pre_get h2 ?_
      rw [List.getElem?_append_right (by rw [List.length_take]; omega), List.length_take, Nat.min_eq_left hLi, Nat.sub_self]
      rfl
    rw [held]
    cases hl : log[i]? with
    | none => exact ⟨hi, h1, fun _ y z hy => by rw [Nat.add_zero, hl] at hy; cases hy⟩
    | some y =>
      simp only []
      by_cases e : y.1 = x.1
      · rw [if_pos e]
        have hi' := (List.getElem?_eq_some_iff.1 hl).1
        have h3 := match_same ha hb hl hx e
        have h4 : L.take (i + 1) ++ xs <+: L := by
          rw [List.take_add_one, hx]
          simpa using h2
        obtain ⟨r1, r2, r3⟩ := held_same ha hb xs (i + 1) (by omega) h3 h4
        rw [show i + (held log (i + 1) xs + 1) = i + 1 + held log (i + 1) xs by omega]
        refine ⟨r1, r2, fun q => r3 ?_⟩
        simp at q
        exact q
      · rw [if_neg e]
        refine ⟨hi, h1, fun _ y' z hy hz => ?_⟩
        rw [Nat.add_zero] at hy hz
        rw [hl] at hy
        rw [hx] at hz
        cases hy
        cases hz
        exact e
/-- what comes of a message's items -/
theorem taken_is {g : Gh} {log L : List Item} (ha : MatchL g log) (hb : MatchL g L) {xs : List Item} {i : Nat} (hi : i ≤ log.length) (h1 : log.take i = L.take i) (h2 : L.take i ++ xs <+: L) :
    i + xs.length ≤ L.length ∧ (taken log i xs).take (i + xs.length) = L.take (i + xs.length) ∧ i + xs.length ≤ (taken log i xs).length ∧ (taken log i xs = log ∧ held log i xs = xs.length ∨ held log i xs < xs.length ∧ taken log i xs = L.take (i + xs.length)) ∧ (∀ P, P <+: log → P <+: L → P <+: taken log i xs) ∧ (taken log i xs).take (i + held log i xs) = log.take (i + held log i xs) := by
  obtain ⟨r1, r2, r3⟩ := held_same ha hb xs i hi h1 h2
  have hLi : i ≤ L.length := by have := congrArg List.length h1; rw [List.length_take, List.length_take] at this; omega
  have hlen : i + xs.length ≤ L.length := by have := h2.length_le; rw [List.length_append, List.length_take] at this; omega
  have hh := held_le log xs i
  have hx : L.take (i + xs.length) = L.take i ++ xs := by
    have := pre_take h2
    rw [List.length_append, List.length_take, Nat.min_eq_left hLi] at this
    exact this
  by_cases hlt : held log i xs < xs.length
  · have et : taken log i xs = L.take (i + xs.length) := by
      unfold taken
      rw [if_pos hlt, r2]
      have : L.take (i + held log i xs) = L.take i ++ xs.take (held log i xs) := by
        have e : (L.take (i + xs.length)).take (i + held log i xs) = L.take (i + held log i xs) := by rw [List.take_take, Nat.min_eq_left (by omega)]
        rw [← e, hx, List.take_append, List.length_take, Nat.min_eq_left hLi, List.take_of_length_le (by rw [List.length_take]; omega)]
        congr 2
        omega
      rw [this, hx, List.append_assoc, List.take_append_drop]
    refine ⟨hlen, by rw [et, List.take_take, Nat.min_self], by rw [et, List.length_take]; omega, .inr ⟨hlt, et⟩, fun P p1 p2 => ?_, ?_⟩
    · rw [et]
      refine pre_or p2 (take_is_pre _ _) ?_
      rw [List.length_take, Nat.min_eq_left hlen]
      apply Nat.le_of_not_lt
      intro q
      obtain ⟨p, hp⟩ : ∃ p, P[i + held log i xs]? = some p := ⟨_, List.getElem?_eq_getElem (by omega)⟩
      exact r3 hlt p p (pre_get p1 hp) (pre_get p2 hp) rfl
    · rw [et, List.take_take, Nat.min_eq_left (by omega), r2]
  · have eh : held log i xs = xs.length := by omega
    have et : taken log i xs = log := by unfold taken; rw [if_neg hlt]
    rw [eh] at r1 r2
    exact ⟨hlen, by rw [et]; exact r2, by rw [et]; exact r1, .inl ⟨et, eh⟩, fun P p1 _ => by rw [et]; exact p1, by rw [et]⟩

/-- a follower takes a leader's items -/
theorem takes (G : GInv N g) (h : NInv N g k x) {m : Msg} (hm : MsgOk N g m) (hk : m.kind = 3) (ht : m.term = x.term) {i : Nat} (hi : m.index = i) (hil : i ≤ x.log.length) (hat : i = 0 ∨ atN x.log i = m.logTerm)
    (hx : x'.term = x.term ∧ x'.vote = x.vote ∧ x'.role = 1 ∧ x'.log = taken x.log i m.items)
    (hc : x'.commit ≤ x.commit ∧ x'.commit ≤ ((taken x.log i m.items).length : Int) ∨ x'.commit ≤ x.commit ∧ held x.log i m.items = m.items.length ∨ x'.commit ≤ m.commit ∧ x'.commit ≤ ((i + m.items.length : Nat) : Int)) :
    ∃ g', Ext g g' k ∧ GInv N g' ∧ NInv N g' k x' ∧ ∀ a : Nat, a ≤ i + m.items.length → g'.acks x.term k a := by
  obtain ⟨e1, e2, e3, e4⟩ := hx
  obtain ⟨a1, i', a2, a3, a4, a5, a6⟩ := hm.app hk
  obtain rfl : i = i' := by omega
  rw [ht] at a1 a3 a4 a5 a6
  have ls : (g.led x.term).isSome = true := by rw [a1]; rfl
  have LM := G.llogM _ ls
  have pre0 := match_at h.logM LM hil a3 (by rcases hat with q | q; exact .inl q; exact .inr (by rw [q, a4]))
  obtain ⟨t1, t2, t3, t4, t5, t6⟩ := taken_is h.logM LM hil pre0 a5
  rw [← e4] at t2 t3 t4 t5 t6
  have E : Ext g { g with acks := fun t q a => g.acks t q a ∨ t = x.term ∧ q = k ∧ a ≤ i + m.items.length } k :=
    ⟨fun _ _ h => h, fun _ _ h => .inl h, fun _ _ => rfl, fun _ _ => List.prefix_rfl, fun _ _ _ _ => rfl, fun _ _ _ h => h, fun _ _ _ h _ => h, fun _ _ _ h => h, fun _ _ _ h _ => h, fun _ _ _ _ h => h, fun _ _ _ h => .inl h, fun _ _ _ h hk => h.elim id (fun q => absurd q.2.1 hk)⟩
  have xM : MatchL g x'.log := by
    rcases t4 with ⟨q, _⟩ | ⟨_, q⟩
    · rw [q]; exact h.logM
    · rw [q]; exact LM.pre (take_is_pre _ _)
  refine ⟨{ g with acks := fun t q a => g.acks t q a ∨ t = x.term ∧ q = k ∧ a ≤ i + m.items.length }, ?E, ?G, ?I, fun a ha => .inr ⟨rfl, rfl, ha⟩⟩
  case E => exact E
  case G =>
    refine ⟨G.pos, G.ledPos, G.castOne, G.castNe, G.elogPre, G.elogLt, G.llogNew, fun t ht => (G.llogM t ht).ext E, G.ledQ, G.clogOne, fun t c l hl => ⟨(G.clogM _ _ _ hl).1.ext E, (G.clogM _ _ _ hl).2⟩, fun t q c vl hv => vrec_ext E G hv (fun s a ha hs => ?_), fun t q a ha => ?_⟩
    · rcases ha with ha | ⟨rfl, rfl, _⟩
      · exact ha
      · have := (h.castT _ _ (G.vrecOk _ _ _ _ hv).1).1
        omega
    · rcases ha with ha | ⟨rfl, rfl, hq⟩
      · exact G.ackOk _ _ _ ha
      · exact ⟨ls, by show a ≤ (g.llog x.term).length; omega⟩
  case I =>
    refine ⟨?_, ?_, ?_, fun q => by omega, ?_, fun q => by omega, xM.ext E, ?_, ?_, ?_⟩
    · intro t c hc
      rw [e1, e2]
      exact h.castT t c hc
    · intro h0
      rw [e1, e2] at *
      exact h.voteC h0
    · intro t l hl
      rw [e1]
      exact h.clogT t l hl
    · intro t ht
      rw [e1]
      exact h.ledT t ht
    · intro e he
      rw [e1]
      rcases t4 with ⟨q, _⟩ | ⟨_, q⟩
      · rw [q] at he; exact h.logT e he
      · rw [q] at he
        have he' := List.mem_of_mem_take he
        obtain ⟨j, hj⟩ := List.mem_iff_getElem?.1 he'
        rcases Nat.lt_or_ge j (g.elog x.term).length with q | q
        · obtain ⟨z, hz⟩ : ∃ z, (g.elog x.term)[j]? = some z := ⟨_, List.getElem?_eq_getElem q⟩
          have := pre_get (G.elogPre _ ls) hz
          rw [hj] at this
          cases this
          have := G.elogLt _ ls _ (List.mem_of_getElem? hz)
          omega
        · have := G.llogNew _ ls _ _ hj q
          omega
    · intro t a ha
      rw [e1]
      rcases ha with ha | ⟨rfl, _, hq⟩
      · obtain ⟨h1, h2⟩ := h.ack t a ha
        refine ⟨h1, fun hg => ?_⟩
        have hg' : Good g t ((g.llog t).take a) (x.term + 1) := hg
        refine t5 _ (h2 hg') ?_
        by_cases e : t = x.term
        · rw [e]
          exact take_is_pre _ _
        · exact (hg' x.term (by omega) (by omega) ls).trans (G.elogPre _ ls)
      · refine ⟨Int.le_refl _, fun _ => ?_⟩
        show (g.llog x.term).take a <+: x'.log
        have : (g.llog x.term).take a = (x'.log.take (i + m.items.length)).take a := by rw [t2, List.take_take, Nat.min_eq_left hq]
        rw [this, List.take_take]
        exact take_is_pre _ _
    · refine SureL.ext E ?_
      rw [e1]
      by_cases h0 : x'.commit ≤ 0
      · exact .inl h0
      have comL : ∀ T l c, SureL N g T l c → 0 < c → c.toNat ≤ l.length := fun T l c hs hp => by
        rcases hs with q | ⟨_, _, _, _, _, _, q⟩
        · omega
        · exact q
      have hh := held_le x.log m.items i
      rcases hc with ⟨c1, c2⟩ | ⟨c1, c2⟩ | ⟨c1, c2⟩
      · rw [← e4] at c2
        refine h.com.less (Int.le_refl _) c1 ?_ (by omega)
        rcases h.com with q | ⟨t, j, s1, s2, s3, s4, s5⟩
        · omega
        have pL : x.log.take x.commit.toNat <+: g.llog x.term := by
          rw [s4]
          by_cases e : t = x.term
          · rw [e]
            exact take_is_pre _ _
          · have w := complete G s2 (x.term - t - 1).toNat x.term (by omega) ls
            have p1 : (g.llog t).take x.commit.toNat <+: (g.llog t).take j := by
              have : (g.llog t).take x.commit.toNat = ((g.llog t).take j).take x.commit.toNat := by rw [List.take_take, Nat.min_eq_left s3]
              rw [this]
              exact take_is_pre _ _
            exact p1.trans (w.trans (G.elogPre _ ls))
        obtain ⟨r, hr⟩ := t5 _ (take_is_pre _ _) pL
        rw [← hr, List.take_append_of_le_length (by rw [List.length_take]; omega), List.take_take, Nat.min_eq_left (by omega)]
      · rcases t4 with ⟨q, _⟩ | ⟨q, _⟩
        · have := comL _ _ _ h.com (by omega)
          exact h.com.less (Int.le_refl _) c1 (by rw [q]) (by rw [q]; omega)
        · omega
      · refine a6.less (Int.le_refl _) c1 ?_ (by omega)
        have e : ∀ l : List Item, (l.take (i + m.items.length)).take x'.commit.toNat = l.take x'.commit.toNat := fun l => by rw [List.take_take, Nat.min_eq_left (by omega)]
        rw [← e, t2, e]

/-- what a leader sends -/
theorem sends (h : NInv N g k x) (hr : x.role = 3) {m : Msg} (hf : m.frm = k ∧ m.term = x.term ∧ m.commit = x.commit) {i c : Nat} (hi : m.index = i) (hl : i ≤ x.log.length) (ht : m.logTerm = atN x.log i) (hit : m.items = (x.log.drop i).take c) (hk : m.kind = 3) : MsgOk N g m := by
  obtain ⟨l1, l2, l3⟩ := h.lead hr
  obtain ⟨f1, f2, f3⟩ := hf
  refine ⟨fun q => by omega, fun q => by omega, fun _ => ?_, fun q => by omega⟩
  rw [f2, f1, l2]
  refine ⟨l1, i, hi, hl, ht, ?_, by rw [f3]; exact h.com⟩
  rw [hit]
  have : x.log.take i ++ (x.log.drop i).take c <+: x.log.take i ++ x.log.drop i := (List.prefix_append_right_inj _).2 (take_is_pre _ _)
  rwa [List.take_append_drop] at this
/-- a message that asks nothing of what was -/
theorem says_no {m : Msg} (h : m.kind = 2 ∨ m.kind = 4) (hy : m.yes = false) : MsgOk N g m :=
  ⟨fun q => by omega, fun _ q => (by rw [hy] at q; cases q), fun q => by omega, fun _ q => (by rw [hy] at q; cases q)⟩
end
end Go.Proofs.Ytiplnegiphhdlaa.Rf
