/- Raft in plain words: what is known of votes, leaders, logs and what is sure; that it stays so. -/
namespace Go.Proofs.Ytiplnegiphhdlaa.Rf

abbrev Item := Int × Int

structure Node where
  id : Int
  n : Int
  term : Int
  vote : Int
  log : List Item
  commit : Int
  role : Int
  boss : Int
  votes : List Int
  next : List Int
  mtch : List Int

structure Msg where
  kind : Int
  frm : Int
  dest : Int
  term : Int
  index : Int
  logTerm : Int
  commit : Int
  items : List Item
  yes : Bool

/-- the term of an item, from 1 on -/
def atN (l : List Item) : Nat → Int
  | 0 => 0
  | k + 1 => match l[k]? with | some x => x.1 | none => 0

/-- what was: who led in a term, its log at first and at last; votes; candidates' logs; logs of those who voted while there was no leader; who had how much of a leader's log -/
structure Gh where
  led : Int → Option Int
  elog : Int → List Item
  llog : Int → List Item
  cast : Int → Int → Int → Prop
  clog : Int → Int → List Item → Prop
  vrec : Int → Int → Int → List Item → Prop
  acks : Int → Int → Nat → Prop

/-- more than half of 1 to N -/
def Quorum (N : Int) (Q : List Int) : Prop := Q.Nodup ∧ (∀ q ∈ Q, 1 ≤ q ∧ q ≤ N) ∧ N < 2 * (Q.length : Int)

theorem nodup_len : ∀ (n : Nat) (Q : List Int), Q.Nodup → (∀ q ∈ Q, 1 ≤ q ∧ q ≤ (n : Int)) → Q.length ≤ n
  | 0, Q, _, h => by
    cases Q with
    | nil => exact Nat.le_refl _
    | cons a l => have := h a (by simp); omega
  | n + 1, Q, hn, h => by
    have h1 := nodup_len n (Q.filter (fun q => q ≠ ((n + 1 : Nat) : Int))) (hn.filter _) (fun q hq => by
      have := List.mem_filter.1 hq
      have h2 := h q this.1
      have h3 : q ≠ ((n + 1 : Nat) : Int) := by simpa using this.2
      omega)
    by_cases hm : ((n + 1 : Nat) : Int) ∈ Q
    · have h2 : Q.filter (fun q => q ≠ ((n + 1 : Nat) : Int)) = Q.erase ((n + 1 : Nat) : Int) := by
        rw [hn.erase_eq_filter]
        congr 1
        funext q
        simp [bne]
        by_cases e : q = (n : Int) + 1 <;> simp [e]
      rw [h2, List.length_erase_of_mem hm] at h1
      omega
    · have h2 : Q.filter (fun q => q ≠ ((n + 1 : Nat) : Int)) = Q := by
        rw [List.filter_eq_self]
        intro a ha
        simp only [decide_eq_true_eq]
        rintro rfl
        exact hm ha
      rw [h2] at h1
      omega
/-- two halves meet -/
theorem quorum_meet {N : Int} (hN : 1 ≤ N) {Q R : List Int} (hQ : Quorum N Q) (hR : Quorum N R) : ∃ q, q ∈ Q ∧ q ∈ R := by
  apply Classical.byContradiction
  intro h
  have h' : ∀ q, q ∈ Q → q ∉ R := fun q h1 h2 => h ⟨q, h1, h2⟩
  obtain ⟨q1, q2, q3⟩ := hQ
  obtain ⟨r1, r2, r3⟩ := hR
  have hn : (Q ++ R).Nodup := List.nodup_append.2 ⟨q1, r1, fun a ha b hb e => h' a ha (e ▸ hb)⟩
  have := nodup_len N.toNat (Q ++ R) hn (fun q hq => by
    rcases List.mem_append.1 hq with x | x
    · have := q2 q x; omega
    · have := r2 q x; omega)
  rw [List.length_append] at this
  omega

/-- what leaders of terms between have at first -/
def Good (g : Gh) (t : Int) (P : List Item) (T : Int) : Prop := ∀ s, t < s → s < T → (g.led s).isSome = true → P <+: g.elog s
/-- each item of a log is as its term's leader has it, with all ahead -/
def MatchL (g : Gh) (l : List Item) : Prop := ∀ i (x : Item), l[i]? = some x → (g.led x.1).isSome = true ∧ l.take (i + 1) <+: g.llog x.1
def lastT (l : List Item) : Int := atN l l.length
/-- a log is not older than another one -/
def UpTo (c v : List Item) : Prop := lastT v < lastT c ∨ lastT v = lastT c ∧ v.length ≤ c.length
def Committed (N : Int) (g : Gh) (t : Int) (j : Nat) : Prop := 1 ≤ j ∧ j ≤ (g.llog t).length ∧ atN (g.llog t) j = t ∧ (g.led t).isSome = true ∧ ∃ Q, Quorum N Q ∧ ∀ q ∈ Q, g.acks t q j
def SureL (N : Int) (g : Gh) (T : Int) (l : List Item) (c : Int) : Prop := c ≤ 0 ∨ ∃ t j, t ≤ T ∧ Committed N g t j ∧ c.toNat ≤ j ∧ l.take c.toNat = (g.llog t).take c.toNat ∧ c.toNat ≤ l.length

structure GInv (N : Int) (g : Gh) : Prop where
  pos : 1 ≤ N
  ledPos : ∀ t, (g.led t).isSome = true → 1 ≤ t
  castOne : ∀ t q c c', g.cast t q c → g.cast t q c' → c = c'
  castNe : ∀ t q c, g.cast t q c → c ≠ 0
  elogPre : ∀ t, (g.led t).isSome = true → g.elog t <+: g.llog t
  elogLt : ∀ t, (g.led t).isSome = true → ∀ x ∈ g.elog t, x.1 < t
  llogNew : ∀ t, (g.led t).isSome = true → ∀ i x, (g.llog t)[i]? = some x → (g.elog t).length ≤ i → x.1 = t
  llogM : ∀ t, (g.led t).isSome = true → MatchL g (g.llog t)
  ledQ : ∀ t k, g.led t = some k → g.clog t k (g.elog t) ∧ ∃ Q, Quorum N Q ∧ ∀ q ∈ Q, g.cast t q k ∧ ∃ vl, g.vrec t q k vl
  clogOne : ∀ t c l l', g.clog t c l → g.clog t c l' → l = l'
  clogM : ∀ t c l, g.clog t c l → MatchL g l ∧ ∀ x ∈ l, x.1 < t
  vrecOk : ∀ t q c vl, g.vrec t q c vl → g.cast t q c ∧ MatchL g vl ∧ (∃ cl, g.clog t c cl ∧ UpTo cl vl) ∧ ∀ s i, g.acks s q i → s < t → Good g s ((g.llog s).take i) t → (g.llog s).take i <+: vl
  ackOk : ∀ t q i, g.acks t q i → (g.led t).isSome = true ∧ i ≤ (g.llog t).length

structure NInv (N : Int) (g : Gh) (k : Int) (x : Node) : Prop where
  castT : ∀ t c, g.cast t k c → t ≤ x.term ∧ (t = x.term → x.vote = c)
  voteC : x.vote ≠ 0 → g.cast x.term k x.vote
  clogT : ∀ t l, g.clog t k l → t ≤ x.term
  cand : x.role = 2 → g.clog x.term k x.log ∧ g.led x.term ≠ some k ∧ ∀ v ∈ x.votes, g.cast x.term v k ∧ (g.led x.term = none → ∃ vl, g.vrec x.term v k vl)
  ledT : ∀ t, g.led t = some k → t ≤ x.term
  lead : x.role = 3 → g.led x.term = some k ∧ g.llog x.term = x.log ∧ ∀ (j : Nat) (v : Int), x.mtch[j]? = some v → ∀ i : Nat, 1 ≤ i → (i : Int) ≤ v → g.acks x.term ((j : Int) + 1) i
  logM : MatchL g x.log
  logT : ∀ e ∈ x.log, e.1 ≤ x.term
  ack : ∀ t i, g.acks t k i → t ≤ x.term ∧ (Good g t ((g.llog t).take i) (x.term + 1) → (g.llog t).take i <+: x.log)
  com : SureL N g x.term x.log x.commit

/-- what is known of a message -/
structure MsgOk (N : Int) (g : Gh) (m : Msg) : Prop where
  vote : m.kind = 1 → ∃ l, g.clog m.term m.frm l ∧ m.index = l.length ∧ m.logTerm = lastT l
  voted : m.kind = 2 → m.yes = true → g.cast m.term m.frm m.dest ∧ (g.led m.term = none → ∃ vl, g.vrec m.term m.frm m.dest vl)
  app : m.kind = 3 → g.led m.term = some m.frm ∧ ∃ i : Nat, m.index = i ∧ i ≤ (g.llog m.term).length ∧ m.logTerm = atN (g.llog m.term) i ∧ (g.llog m.term).take i ++ m.items <+: g.llog m.term ∧ SureL N g m.term (g.llog m.term) m.commit
  acked : m.kind = 4 → m.yes = true → ∀ i : Nat, 1 ≤ i → (i : Int) ≤ m.index → g.acks m.term m.frm i

/-- more is known, by what node k did -/
structure Ext (g g' : Gh) (k : Int) : Prop where
  led : ∀ t c, g.led t = some c → g'.led t = some c
  ledNew : ∀ t c, g'.led t = some c → g.led t = some c ∨ c = k
  elog : ∀ t, (g.led t).isSome = true → g'.elog t = g.elog t
  llog : ∀ t, (g.led t).isSome = true → g.llog t <+: g'.llog t
  llogK : ∀ t c, g.led t = some c → c ≠ k → g'.llog t = g.llog t
  cast : ∀ t q c, g.cast t q c → g'.cast t q c
  castNew : ∀ t q c, g'.cast t q c → q ≠ k → g.cast t q c
  clog : ∀ t c l, g.clog t c l → g'.clog t c l
  clogNew : ∀ t c l, g'.clog t c l → c ≠ k → g.clog t c l
  vrec : ∀ t q c l, g.vrec t q c l → g'.vrec t q c l
  acks : ∀ t q i, g.acks t q i → g'.acks t q i
  acksNew : ∀ t q i, g'.acks t q i → q ≠ k → g.acks t q i

theorem take_pre {α : Type} {l l' : List α} (h : l <+: l') {i : Nat} (hi : i ≤ l.length) : l'.take i = l.take i := by
  obtain ⟨r, rfl⟩ := h
  rw [List.take_append_of_le_length hi]
theorem pre_take {α : Type} {l l' : List α} (h : l <+: l') : l'.take l.length = l := by
  obtain ⟨r, rfl⟩ := h
  simp
theorem pre_get {α : Type} {l l' : List α} (h : l <+: l') {i : Nat} {x : α} (hx : l[i]? = some x) : l'[i]? = some x := by
  obtain ⟨r, rfl⟩ := h
  have hi := (List.getElem?_eq_some_iff.1 hx).1
  rw [List.getElem?_append_left hi]
  exact hx
theorem atN_pre {l l' : List Item} (h : l <+: l') {i : Nat} (hi : i ≤ l.length) : atN l' i = atN l i := by
  cases i with
  | zero => rfl
  | succ k =>
    obtain ⟨x, hx⟩ : ∃ x, l[k]? = some x := ⟨_, List.getElem?_eq_getElem (by omega)⟩
    rw [atN, atN, hx, pre_get h hx]
theorem take_is_pre {α : Type} (l : List α) (i : Nat) : l.take i <+: l := ⟨l.drop i, List.take_append_drop i l⟩
/-- two that begin a third one: the shorter begins the longer -/
theorem pre_or {α : Type} {a b c : List α} (ha : a <+: c) (hb : b <+: c) (h : a.length ≤ b.length) : a <+: b := List.prefix_of_prefix_length_le ha hb h
theorem pre_same {α : Type} {a b c : List α} (ha : a <+: c) (hb : b <+: c) (h : a.length = b.length) : a = b := by
  obtain ⟨r, e⟩ := pre_or ha hb (Nat.le_of_eq h)
  subst e
  rw [List.length_append] at h
  have : r = [] := List.eq_nil_of_length_eq_zero (by omega)
  subst this
  simp

section
variable {N : Int} {g g' : Gh} {k : Int}
theorem Ext.some (E : Ext g g' k) {t : Int} (h : (g.led t).isSome = true) : (g'.led t).isSome = true := by
  obtain ⟨c, hc⟩ := Option.isSome_iff_exists.1 h
  rw [E.led t c hc]
  rfl
theorem Good.ext (E : Ext g g' k) {t T : Int} {P : List Item} (h : Good g' t P T) : Good g t P T := fun s h1 h2 h3 => by
  rw [← E.elog s h3]
  exact h s h1 h2 (E.some h3)
theorem MatchL.ext (E : Ext g g' k) {l : List Item} (h : MatchL g l) : MatchL g' l := fun i x hx => by
  obtain ⟨h1, h2⟩ := h i x hx
  exact ⟨E.some h1, h2.trans (E.llog _ h1)⟩
theorem MatchL.pre {l l' : List Item} (h : MatchL g l) (hp : l' <+: l) : MatchL g l' := fun i x hx => by
  obtain ⟨h1, h2⟩ := h i x (pre_get hp hx)
  have hi := (List.getElem?_eq_some_iff.1 hx).1
  rw [take_pre hp (by omega)] at h2
  exact ⟨h1, h2⟩
theorem Committed.ext (E : Ext g g' k) {t : Int} {j : Nat} (h : Committed N g t j) : Committed N g' t j := by
  obtain ⟨h1, h2, h3, h4, Q, h5, h6⟩ := h
  have hp := E.llog t h4
  exact ⟨h1, Nat.le_trans h2 hp.length_le, by rw [atN_pre hp h2]; exact h3, E.some h4, Q, h5, fun q hq => E.acks _ _ _ (h6 q hq)⟩
theorem SureL.ext (E : Ext g g' k) {T c : Int} {l : List Item} (h : SureL N g T l c) : SureL N g' T l c := by
  rcases h with h | ⟨t, j, h1, h2, h3, h4, h5⟩
  · exact .inl h
  · refine .inr ⟨t, j, h1, h2.ext E, h3, ?_, h5⟩
    rw [take_pre (E.llog t h2.2.2.2.1) (Nat.le_trans h3 h2.2.1)]
    exact h4
theorem SureL.less {T T' c c' : Int} {l l' : List Item} (h : SureL N g T l c) (hT : T ≤ T') (hc : c' ≤ c) (hl : l'.take c'.toNat = l.take c'.toNat) (hn : c'.toNat ≤ l'.length) : SureL N g T' l' c' := by
  by_cases h0 : c' ≤ 0
  · exact .inl h0
  · rcases h with h | ⟨t, j, h1, h2, h3, h4, h5⟩
    · omega
    · refine .inr ⟨t, j, by omega, h2, by omega, ?_, hn⟩
      rw [hl]
      have e : ∀ m : List Item, (m.take c.toNat).take c'.toNat = m.take c'.toNat := fun m => by rw [List.take_take, Nat.min_eq_left (by omega)]
      rw [← e l, h4, e]
theorem MsgOk.ext (E : Ext g g' k) {m : Msg} (h : MsgOk N g m) : MsgOk N g' m where
  vote hk := by
    obtain ⟨l, h1, h2⟩ := h.vote hk
    exact ⟨l, E.clog _ _ _ h1, h2⟩
  voted hk hy := by
    obtain ⟨h1, h2⟩ := h.voted hk hy
    refine ⟨E.cast _ _ _ h1, fun hn => ?_⟩
    have : g.led m.term = none := by
      cases e : g.led m.term with
      | none => rfl
      | some c => rw [E.led _ _ e] at hn; cases hn
    obtain ⟨vl, h3⟩ := h2 this
    exact ⟨vl, E.vrec _ _ _ _ h3⟩
  app hk := by
    obtain ⟨h1, i, h2, h3, h4, h5, h6⟩ := h.app hk
    have hs : (g.led m.term).isSome = true := by rw [h1]; rfl
    have hp := E.llog _ hs
    refine ⟨E.led _ _ h1, i, h2, Nat.le_trans h3 hp.length_le, by rw [atN_pre hp h3]; exact h4, by rw [take_pre hp h3]; exact h5.trans hp, ?_⟩
    by_cases h0 : m.commit ≤ 0
    · exact .inl h0
    · have h7 : m.commit.toNat ≤ (g.llog m.term).length := by
        rcases h6 with h6 | ⟨_, _, _, _, _, _, q⟩
        · omega
        · exact q
      exact (h6.ext E).less (Int.le_refl _) (Int.le_refl _) (take_pre hp h7) (Nat.le_trans h7 hp.length_le)
  acked hk hy i h1 h2 := E.acks _ _ _ (h.acked hk hy i h1 h2)
theorem NInv.ext (E : Ext g g' k) (G : GInv N g) {j : Int} {x : Node} (ne : j ≠ k) (h : NInv N g j x) : NInv N g' j x where
  castT t c hc := h.castT t c (E.castNew _ _ _ hc ne)
  voteC hv := E.cast _ _ _ (h.voteC hv)
  clogT t l hl := h.clogT t l (E.clogNew _ _ _ hl ne)
  cand hr := by
    obtain ⟨h1, h2, h3⟩ := h.cand hr
    refine ⟨E.clog _ _ _ h1, fun e => ?_, fun v hv => ?_⟩
    · rcases E.ledNew _ _ e with q | q
      · exact h2 q
      · exact ne q
    · obtain ⟨h4, h5⟩ := h3 v hv
      refine ⟨E.cast _ _ _ h4, fun hn => ?_⟩
      have : g.led x.term = none := by
        cases e : g.led x.term with
        | none => rfl
        | some c => rw [E.led _ _ e] at hn; cases hn
      obtain ⟨vl, h6⟩ := h5 this
      exact ⟨vl, E.vrec _ _ _ _ h6⟩
  ledT t ht := by
    rcases E.ledNew _ _ ht with q | q
    · exact h.ledT t q
    · exact absurd q ne
  lead hr := by
    obtain ⟨h1, h2, h3⟩ := h.lead hr
    refine ⟨E.led _ _ h1, by rw [E.llogK _ _ h1 ne]; exact h2, fun a v hv i h4 h5 => E.acks _ _ _ (h3 a v hv i h4 h5)⟩
  logM := h.logM.ext E
  logT := h.logT
  ack t i ha := by
    have ha' := E.acksNew _ _ _ ha ne
    obtain ⟨h1, h2⟩ := h.ack t i ha'
    obtain ⟨h3, h4⟩ := G.ackOk _ _ _ ha'
    rw [take_pre (E.llog t h3) h4]
    exact ⟨h1, fun hg => h2 (Good.ext E hg)⟩
  com := h.com.ext E
end

/-- an item's term tells the log ahead: two logs with items of a term at a place are the same up to there -/
theorem match_same {g : Gh} {a b : List Item} (ha : MatchL g a) (hb : MatchL g b) {i : Nat} {x y : Item} (hx : a[i]? = some x) (hy : b[i]? = some y) (e : x.1 = y.1) : a.take (i + 1) = b.take (i + 1) := by
  obtain ⟨_, h1⟩ := ha i x hx
  obtain ⟨_, h2⟩ := hb i y hy
  rw [← e] at h2
  have l1 := (List.getElem?_eq_some_iff.1 hx).1
  have l2 := (List.getElem?_eq_some_iff.1 hy).1
  exact pre_same h1 h2 (by rw [List.length_take, List.length_take]; omega)
theorem atN_some {l : List Item} {i : Nat} (h1 : 1 ≤ i) (h2 : i ≤ l.length) : ∃ x, l[i - 1]? = some x ∧ atN l i = x.1 := by
  obtain ⟨k, rfl⟩ : ∃ k, i = k + 1 := ⟨i - 1, by omega⟩
  obtain ⟨x, hx⟩ : ∃ x, l[k]? = some x := ⟨_, List.getElem?_eq_getElem (by omega)⟩
  exact ⟨x, by simpa using hx, by rw [atN, hx]⟩
theorem lastT_some {l : List Item} (h : l ≠ []) : ∃ x, l[l.length - 1]? = some x ∧ lastT l = x.1 := by
  have : 0 < l.length := List.length_pos_iff.2 h
  exact atN_some (by omega) (Nat.le_refl _)
theorem match_at {g : Gh} {a b : List Item} (ha : MatchL g a) (hb : MatchL g b) {i : Nat} (la : i ≤ a.length) (lb : i ≤ b.length) (e : i = 0 ∨ atN a i = atN b i) : a.take i = b.take i := by
  cases i with
  | zero => simp
  | succ k =>
    rcases e with e | e
    · cases e
    obtain ⟨x, h1, h2⟩ := atN_some (by omega) la
    obtain ⟨y, h3, h4⟩ := atN_some (by omega) lb
    exact match_same ha hb h1 h3 (by rw [← h2, ← h4, e])

/-- LEADER COMPLETENESS: what most have, of a term's leader, later leaders have at first -/
theorem complete {N : Int} {g : Gh} (G : GInv N g) {t : Int} {j : Nat} (hc : Committed N g t j) : ∀ (d : Nat) (s : Int), s = t + 1 + d → (g.led s).isSome = true → (g.llog t).take j <+: g.elog s := by
  intro d
  induction d using Nat.strongRecOn with
  | _ d ih =>
    intro s hs hl
    have good : Good g t ((g.llog t).take j) s := fun u h1 h2 h3 => ih (u - t - 1).toNat (by omega) u (by omega) h3
    obtain ⟨k, hk⟩ := Option.isSome_iff_exists.1 hl
    obtain ⟨hcl, R, hR, hv⟩ := G.ledQ s k hk
    obtain ⟨c1, c2, c3, c4, Q, hQ, ha⟩ := hc
    obtain ⟨q, hq1, hq2⟩ := quorum_meet G.pos hQ hR
    obtain ⟨_, vl, hvl⟩ := hv q hq2
    obtain ⟨_, vM, ⟨cl, hc', up⟩, pres⟩ := G.vrecOk _ _ _ _ hvl
    have e := G.clogOne _ _ _ _ hc' hcl
    subst e
    obtain ⟨cM, cT⟩ := G.clogM _ _ _ hcl
    have P := pres t j (ha q hq1) (by omega) good
    have lenP : ((g.llog t).take j).length = j := by rw [List.length_take]; omega
    have jv : j ≤ vl.length := by have := P.length_le; omega
    have vne : vl ≠ [] := by intro e; subst e; simp at jv; omega
    obtain ⟨x, hx, hxT⟩ := lastT_some vne
    -- the last item of the one who voted is of the term or later
    obtain ⟨y, hy, hyT⟩ := atN_some c1 c2
    have hy' : ((g.llog t).take j)[j - 1]? = some y := by rw [List.getElem?_take_of_lt (by omega)]; exact hy
    have hyv := pre_get P hy'
    have hxt : t ≤ lastT vl := by
      -- items of a log do not fall: by the leader's log of the last item's term
      obtain ⟨l1, l2⟩ := vM _ x hx
      rw [show vl.length - 1 + 1 = vl.length by omega, List.take_length] at l2
      have hyl := pre_get l2 hyv
      rw [hxT]
      apply Int.not_lt.1
      intro hlt
      have ht : y.1 = t := by rw [← hyT]; exact c3
      rcases Nat.lt_or_ge (j - 1) (g.elog x.1).length with q | q
      · obtain ⟨z, hz⟩ : ∃ z, (g.elog x.1)[j - 1]? = some z := ⟨_, List.getElem?_eq_getElem q⟩
        have := pre_get (G.elogPre _ l1) hz
        rw [hyl] at this
        cases this
        have := G.elogLt _ l1 _ (List.mem_of_getElem? hz)
        omega
      · have := G.llogNew _ l1 _ _ hyl q
        omega
    rcases up with up | ⟨up, ul⟩
    · -- a later last item: of a leader between
      have cne : g.elog s ≠ [] := by
        intro e
        rw [e] at up
        have e0 : lastT ([] : List Item) = 0 := rfl
        have := G.ledPos t c4
        omega
      obtain ⟨z, hz, hzT⟩ := lastT_some cne
      obtain ⟨z1, z2⟩ := cM _ z hz
      have zl : 0 < (g.elog s).length := List.length_pos_iff.2 cne
      rw [show (g.elog s).length - 1 + 1 = (g.elog s).length by omega, List.take_length] at z2
      have zs : z.1 < s := cT z (List.mem_of_getElem? hz)
      have tz : t < z.1 := by omega
      have P2 := good z.1 tz zs z1
      have P3 := P2.trans (G.elogPre _ z1)
      refine pre_or P3 z2 ?_
      rw [lenP]
      apply Nat.le_of_not_lt
      intro hlt
      have zi := pre_get z2 hz
      -- the last item would lie in the leader's first log
      have h3 : (g.elog s).length - 1 < (g.elog z.1).length := by have := P2.length_le; omega
      obtain ⟨y2, hy2⟩ : ∃ y2, (g.elog z.1)[(g.elog s).length - 1]? = some y2 := ⟨_, List.getElem?_eq_getElem h3⟩
      have := pre_get (G.elogPre _ z1) hy2
      rw [zi] at this
      cases this
      have := G.elogLt _ z1 _ (List.mem_of_getElem? hy2)
      omega
    · -- the same last term: one begins the other
      have cne : g.elog s ≠ [] := by intro e; rw [e] at ul; simp at ul; exact vne ul
      obtain ⟨z, hz, hzT⟩ := lastT_some cne
      obtain ⟨_, z2⟩ := cM _ z hz
      obtain ⟨_, x2⟩ := vM _ x hx
      have zl : 0 < (g.elog s).length := List.length_pos_iff.2 cne
      have xl : 0 < vl.length := List.length_pos_iff.2 vne
      rw [show (g.elog s).length - 1 + 1 = (g.elog s).length by omega, List.take_length] at z2
      rw [show vl.length - 1 + 1 = vl.length by omega, List.take_length] at x2
      rw [show z.1 = x.1 by omega] at z2
      exact P.trans (pre_or x2 z2 ul)

end Go.Proofs.Ytiplnegiphhdlaa.Rf
