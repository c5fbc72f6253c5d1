/- Raft in plain words: of a right node each step makes a right one (P1). -/
import Derived.Test.YtiplnegiphhdlaaRfC
namespace Go.Proofs.Ytiplnegiphhdlaa.Rf

theorem sureN_le (x : Node) : ∀ i : Nat, x.commit ≤ sureN x i ∧ (sureN x i = x.commit ∨ sureN x i ≤ (i : Int))
  | 0 => by rw [sureN]; exact ⟨Int.le_refl _, .inl rfl⟩
  | i + 1 => by
    rw [sureN]
    obtain ⟨h1, h2⟩ := sureN_le x i
    split
    · rename_i h
      exact ⟨by omega, .inr (Int.le_refl _)⟩
    · exact ⟨h1, h2.imp id (fun q => by omega)⟩
theorem sureN_is (x : Node) : ∀ i : Nat, sureN x i = x.commit ∨ ∃ j : Nat, 1 ≤ j ∧ j ≤ i ∧ sureN x i = j ∧ most x.n (have9 x j) ∧ atN x.log j = x.term
  | 0 => .inl rfl
  | i + 1 => by
    rw [sureN]
    split
    · rename_i h
      exact .inr ⟨i + 1, by omega, Nat.le_refl _, rfl, h.2⟩
    · rcases sureN_is x i with q | ⟨j, h1, h2, h3⟩
      · exact .inl q
      · exact .inr ⟨j, h1, by omega, h3⟩
theorem inB_le {a lo hi hi' : Int} (h : inB a lo hi) (l : hi ≤ hi') : inB a lo hi' := ⟨h.1, Int.le_trans h.2 l⟩

theorem right_sure {x : Node} (r : Right x) : Right (sure x) := by
  obtain ⟨h1, h2⟩ := sureN_le x x.log.length
  have hc := r.commit
  refine { r with commit := ?_ }
  show inB (sureN x x.log.length) 0 (x.log.length : Int)
  unfold inB at *
  omega
theorem grown_len (x : Node) (cmd : Int) : x.log.length ≤ (grown x cmd).length ∧ ((grown x cmd).length ≤ 60 ∨ 60 < x.log.length) := by
  unfold grown
  split
  · rw [List.length_append]; simp; omega
  · omega
theorem grown_pre (x : Node) (cmd : Int) : x.log <+: grown x cmd := by
  unfold grown
  split
  · exact List.prefix_append _ _
  · exact List.prefix_rfl
theorem rises_app {l k : List Item} {t : Int} (hl : rises l t) (hk : rises k t) (h : ∀ a ∈ l, ∀ b ∈ k, a.1 ≤ b.1) : rises (l ++ k) t := by
  refine ⟨fun x hx => ?_, ?_⟩
  · rcases List.mem_append.1 hx with q | q
    · exact hl.1 x q
    · exact hk.1 x q
  · rw [List.pairwise_append]
    exact ⟨hl.2, hk.2, h⟩
theorem term_pos {x : Node} (r : Right x) (h : x.role ≠ 1) : 1 ≤ x.term := by
  have := r.term.1
  have := r.zero
  omega
theorem right_putOne {x : Node} (r : Right x) (hr : x.role = 3) (cmd : Int) : Right (putOne x cmd) := by
  obtain ⟨g1, g2⟩ := grown_len x cmd
  have hlen := r.log
  have ht := term_pos r (by omega)
  have hL := r.lens
  unfold lensOk at hL
  rw [if_pos hr] at hL
  have hp := r.places
  have hi := r.id
  refine { r with commit := inB_le r.commit (by show _ ≤ ((grown x cmd).length : Int); omega), log := by show (grown x cmd).length ≤ 60; omega, rise := ?_, lens := ?_, places := ?_ }
  · show rises (grown x cmd) x.term
    unfold grown
    split
    · refine rises_app r.rise ⟨fun y hy => ?_, by simp⟩ (fun a ha b hb => ?_)
      · rw [List.mem_singleton.1 hy]
        exact ⟨ht, Int.le_refl _⟩
      · rw [List.mem_singleton.1 hb]
        exact (r.rise.1 a ha).2
    · exact r.rise
  · show lensOk (putOne x cmd)
    unfold lensOk putOne
    rw [if_pos hr]
    simpa using hL
  · refine ⟨fun v hv => ?_, fun v hv => ?_⟩
    · have hv : v ∈ x.next.set (x.id - 1).toNat (((grown x cmd).length : Int) + 1) := hv
      show inB v 1 (((grown x cmd).length : Int) + 1)
      rcases List.mem_or_eq_of_mem_set hv with q | q
      · exact inB_le (hp.1 v q) (by omega)
      · unfold inB; omega
    · have hv : v ∈ x.mtch.set (x.id - 1).toNat ((grown x cmd).length : Int) := hv
      show inB v 0 ((grown x cmd).length : Int)
      rcases List.mem_or_eq_of_mem_set hv with q | q
      · exact inB_le (hp.2 v q) (by omega)
      · unfold inB; omega
theorem right_put {x : Node} (r : Right x) (hr : x.role = 3) (cmd : Int) : Right (put x cmd).1 := right_sure (right_putOne r hr cmd)
theorem right_crowned {x : Node} (r : Right x) (hr : x.role = 2) : Right (crowned x) := by
  have ht := term_pos r (by omega)
  refine { r with boss := ?_, role := ?_, zero := ?_, novotes := fun _ => rfl, votes := ⟨(fun _ h => by cases h), List.Pairwise.nil⟩, lens := ?_, places := ?_ }
  · have := r.id
    show inB x.id 0 x.n
    unfold inB at *; omega
  · show inB 3 1 3
    unfold inB; omega
  · intro h
    have h : x.term = 0 := h
    omega
  · have := r.n
    unfold inB at this
    show lensOk (crowned x)
    unfold lensOk crowned
    simp
    omega
  · refine ⟨fun v hv => ?_, fun v hv => ?_⟩
    · have hv : v ∈ List.replicate x.n.toNat ((x.log.length : Int) + 1) := hv
      rw [List.eq_of_mem_replicate hv]
      show inB _ 1 ((x.log.length : Int) + 1)
      unfold inB; omega
    · have hv : v ∈ List.replicate x.n.toNat (0 : Int) := hv
      rw [List.eq_of_mem_replicate hv]
      show inB 0 0 (x.log.length : Int)
      unfold inB; omega
theorem right_elect {x : Node} (r : Right x) (hr : x.role = 2) : Right (elect x).1 := by
  unfold elect
  split
  · exact right_put (right_crowned r hr) rfl 0
  · exact r
theorem no_places {x : Node} (r : Right x) (hr : x.role ≠ 3) : x.next = [] ∧ x.mtch = [] := by
  have := r.lens
  unfold lensOk at this
  rwa [if_neg hr] at this
theorem right_asks {x : Node} (r : Right x) (hr : x.role ≠ 3) (ht : x.term ≠ 1000000) : Right (asks x) := by
  have h1 := r.term
  have h2 := r.id
  have h3 := r.n
  obtain ⟨n1, n2⟩ := no_places r hr
  unfold inB at h1 h2 h3
  refine { r with vote := ?_, boss := ?_, term := ?_, role := ?_, zero := ?_, rise := ?_, novotes := fun h => absurd rfl h, votes := ?_, lens := ?_ }
  · show inB x.id 0 x.n
    unfold inB; omega
  · show inB 0 0 x.n
    unfold inB; omega
  · show inB (x.term + 1) 0 1000000
    unfold inB; omega
  · show inB 2 1 3
    unfold inB; omega
  · intro h
    have h : x.term + 1 = 0 := h
    omega
  · exact ⟨fun y hy => inB_le (r.rise.1 y hy) (by show x.term ≤ x.term + 1; omega), r.rise.2⟩
  · refine ⟨fun v hv => ?_, by show List.Pairwise _ [x.id]; simp⟩
    have hv : v ∈ [x.id] := hv
    rw [List.mem_singleton.1 hv]
    exact r.id
  · show lensOk (asks x)
    unfold lensOk asks
    simp [n1, n2]
theorem right_timeout {x : Node} (r : Right x) : Right (timeout x).1 := by
  unfold timeout
  split
  · exact r
  · rename_i h
    have h2 : x.role ≠ 3 := fun q => h (.inr (.inl q))
    have h3 : x.term ≠ 1000000 := fun q => h (.inr (.inr q))
    exact right_elect (right_asks r h2 h3) rfl
theorem right_beat {x : Node} (r : Right x) : Right (beat x).1 := by unfold beat; split <;> exact r
theorem right_propose {x : Node} (r : Right x) (cmd : Int) : Right (propose x cmd).1 := by
  unfold propose
  split
  · exact r
  · rename_i h
    exact right_put r (Classical.byContradiction (fun q => h (.inr (.inl q)))) cmd
theorem right_follow {x : Node} (r : Right x) {b : Int} (hb : inB b 0 x.n) : Right (follow x b) :=
  { r with boss := hb, role := by show inB 1 1 3; unfold inB; omega, zero := fun _ => rfl, novotes := fun _ => rfl, votes := ⟨(fun _ h => by cases h), List.Pairwise.nil⟩, lens := by show lensOk (follow x b); simp [lensOk, follow], places := ⟨(fun _ h => by cases h), (fun _ h => by cases h)⟩ }
theorem right_n {x : Node} (r : Right x) : inB 0 0 x.n := by have := r.n; unfold inB at *; omega
theorem right_restart {x : Node} (r : Right x) : Right (restart x) := by
  unfold restart
  split
  · exact r
  · exact { right_follow r (right_n r) with commit := by show inB 0 0 (x.log.length : Int); unfold inB; omega }
theorem right_bump {x : Node} (r : Right x) {t : Int} (ht : inB t 1 1000000) : Right (bump x t) := by
  unfold bump
  split
  · rename_i h
    have f := right_follow r (right_n r)
    refine { f with vote := by have := r.n; show inB 0 0 x.n; unfold inB at *; omega, term := by unfold inB at *; show 0 ≤ t ∧ t ≤ 1000000; omega, zero := fun _ => rfl, rise := ⟨fun y hy => inB_le (r.rise.1 y hy) (by show x.term ≤ t; omega), r.rise.2⟩ }
  · exact r
theorem right_onVote {x : Node} (r : Right x) {m : Msg} (hf : inB m.frm 1 x.n) : Right (onVote x m).1 := by
  unfold onVote
  split
  · exact { r with vote := by unfold inB at *; show 0 ≤ m.frm ∧ m.frm ≤ x.n; omega }
  · exact r
theorem upto_pair (n : Nat) : ((List.range n).map (fun i : Nat => (i : Int) + 1)).Pairwise (fun a b => a < b) := by
  rw [List.pairwise_map]
  exact List.pairwise_lt_range.imp (fun h => by omega)
theorem upto_mem {n : Nat} {q : Int} (h : q ∈ (List.range n).map (fun i : Nat => (i : Int) + 1)) : 1 ≤ q ∧ q ≤ (n : Int) := by
  obtain ⟨i, hi, rfl⟩ := List.mem_map.1 h
  have := List.mem_range.1 hi
  omega
theorem right_voters {x : Node} (r : Right x) (hr : x.role = 2) (k : Int) : Right { x with votes := voters x k } := by
  refine { r with novotes := fun h => absurd hr h, votes := ⟨fun v hv => ?_, (upto_pair _).filter _⟩ }
  have hv : v ∈ voters x k := hv
  have := upto_mem (List.mem_filter.1 hv).1
  have h := r.n
  unfold inB at *
  show 1 ≤ v ∧ v ≤ x.n
  omega
theorem right_onVoted {x : Node} (r : Right x) (m : Msg) : Right (onVoted x m).1 := by
  unfold onVoted
  split
  · exact r
  · rename_i h
    have hr : x.role = 2 := Classical.byContradiction (fun q => h (.inl q))
    exact right_elect (right_voters r hr m.frm) hr

theorem held_bound (log : List Item) : ∀ (xs : List Item) (i : Nat), i ≤ log.length → i + held log i xs ≤ log.length ∧ ∀ j, j < held log i xs → ∃ y z, log[i + j]? = some y ∧ xs[j]? = some z ∧ y.1 = z.1
  | [], i, h => by rw [held]; exact ⟨h, fun j hj => by omega⟩
  | x :: xs, i, h => by
    rw [held]
    cases hl : log[i]? with
    | none => exact ⟨h, fun j hj => by simp at hj⟩
    | some y =>
      simp only []
      split
      · rename_i e
        have hi := (List.getElem?_eq_some_iff.1 hl).1
        obtain ⟨h1, h2⟩ := held_bound log xs (i + 1) (by omega)
        refine ⟨by omega, fun j hj => ?_⟩
        cases j with
        | zero => exact ⟨y, x, by simpa using hl, rfl, e⟩
        | succ j =>
          obtain ⟨a, b, h3, h4, h5⟩ := h2 j (by omega)
          exact ⟨a, b, by rw [show i + (j + 1) = i + 1 + j by omega]; exact h3, by simpa using h4, h5⟩
      · exact ⟨h, fun j hj => by simp at hj⟩
theorem taken_len (log : List Item) (i : Nat) (xs : List Item) (hi : i ≤ log.length) : i + xs.length ≤ (taken log i xs).length ∧ (taken log i xs).length ≤ max log.length (i + xs.length) ∧ i + held log i xs ≤ (taken log i xs).length := by
  have h1 := held_le log xs i
  have h2 := (held_bound log xs i hi).1
  unfold taken
  split
  · rw [List.length_append, List.length_take, List.length_drop]
    omega
  · omega
theorem rises_take {l : List Item} {t : Int} (h : rises l t) (i : Nat) : rises (l.take i) t := ⟨fun x hx => h.1 x (List.mem_of_mem_take hx), h.2.take⟩
theorem rises_drop {l : List Item} {t : Int} (h : rises l t) (i : Nat) : rises (l.drop i) t := ⟨fun x hx => h.1 x (List.mem_of_mem_drop hx), h.2.drop⟩
theorem rises_le {l : List Item} {t : Int} (h : rises l t) {i j : Nat} {x y : Item} (hx : l[i]? = some x) (hy : l[j]? = some y) (hij : i ≤ j) : x.1 ≤ y.1 := by
  by_cases e : i = j
  · subst e
    rw [hx] at hy
    cases hy
    exact Int.le_refl _
  · obtain ⟨l1, e1⟩ := List.getElem?_eq_some_iff.1 hx
    obtain ⟨l2, e2⟩ := List.getElem?_eq_some_iff.1 hy
    have := List.pairwise_iff_getElem.1 h.2 i j l1 l2 (by omega)
    rw [e1, e2] at this
    exact this
theorem rises_taken {log xs : List Item} {t lt : Int} {i : Nat} (hl : rises log t) (hx : rises xs t) (hi : i ≤ log.length) (h0 : i = 0 ∨ atN log i = lt) (hf : ∀ y, xs[0]? = some y → lt ≤ y.1) : rises (taken log i xs) t := by
  unfold taken
  split
  · rename_i hlt
    refine rises_app (rises_take hl _) (rises_drop hx _) (fun a ha b hb => ?_)
    obtain ⟨h1, h2⟩ := held_bound log xs i hi
    obtain ⟨p, hp⟩ := List.mem_iff_getElem?.1 ha
    obtain ⟨q, hq⟩ := List.mem_iff_getElem?.1 hb
    have hp1 := (List.getElem?_eq_some_iff.1 hp).1
    rw [List.length_take] at hp1
    rw [List.getElem?_take_of_lt (by omega)] at hp
    rw [List.getElem?_drop] at hq
    by_cases hh : held log i xs = 0
    · rw [hh] at hp1 hq
      have hi0 : 1 ≤ i := by omega
      obtain ⟨y, y1, y2⟩ := atN_some hi0 hi
      obtain ⟨z, hz⟩ : ∃ z, xs[0]? = some z := ⟨_, List.getElem?_eq_getElem (by omega)⟩
      have a1 := rises_le hl hp y1 (by omega)
      have a2 := hf z hz
      have a3 := rises_le hx hz hq (by omega)
      rcases h0 with e | e
      · omega
      · omega
    · obtain ⟨y, z, y1, z1, e⟩ := h2 (held log i xs - 1) (by omega)
      have a1 := rises_le hl hp y1 (by omega)
      have a2 := rises_le hx z1 hq (by omega)
      omega
  · exact hl
theorem right_onAppend {x : Node} (r : Right x) {m : Msg} (hf : inB m.frm 1 x.n) (hi : inB m.index 0 60) (hlen : m.index + (m.items.length : Int) ≤ 60) (hr : rises m.items m.term) (h1 : ∀ y, m.items[0]? = some y → m.logTerm ≤ y.1) (hc : 0 ≤ m.commit) : Right (onAppend x m).1 := by
  unfold onAppend
  split
  · exact r
  · rename_i h
    have ht : m.term = x.term := Classical.byContradiction (fun q => h (.inl q))
    have fr : Right (follow x m.frm) := right_follow r (by unfold inB at *; omega)
    split
    · rename_i hfit
      obtain ⟨f1, f2⟩ := hfit
      unfold inB at hi
      have hil : m.index.toNat ≤ x.log.length := by omega
      obtain ⟨t1, t2, t3⟩ := taken_len x.log m.index.toNat m.items hil
      have hlog := r.log
      have hcm := r.commit
      unfold inB at hcm
      refine { fr with commit := ?_, log := ?_, rise := ?_, places := ⟨(fun _ h => by cases h), (fun _ h => by cases h)⟩ }
      · show inB (max (if held x.log m.index.toNat m.items < m.items.length then min x.commit ((taken x.log m.index.toNat m.items).length : Int) else x.commit) (min m.commit (m.index + (m.items.length : Int)))) 0 ((taken x.log m.index.toNat m.items).length : Int)
        have hh := held_le x.log m.items m.index.toNat
        unfold inB
        by_cases hn : held x.log m.index.toNat m.items < m.items.length
        · rw [if_pos hn]
          omega
        · rw [if_neg hn]
          have e : taken x.log m.index.toNat m.items = x.log := by unfold taken; rw [if_neg hn]
          rw [e] at t1 ⊢
          omega
      · show (taken x.log m.index.toNat m.items).length ≤ 60
        omega
      · show rises (taken x.log m.index.toNat m.items) x.term
        exact rises_taken r.rise (by rw [← ht]; exact hr) hil (by rcases f2 with q | q; exact .inl (by omega); exact .inr q) h1
    · exact fr
theorem next_mem {l : List Int} {i : Nat} (h : i < l.length) : l.getD i 0 ∈ l := by
  rw [List.getD_eq_getElem?_getD, List.getElem?_eq_getElem h]
  exact List.getElem_mem h
theorem right_heardYes {x : Node} (r : Right x) (hr : x.role = 3) {m : Msg} (hf : inB m.frm 1 x.n) : Right (heardYes x m) := by
  have hp := r.places
  have hL := r.lens
  unfold lensOk at hL
  rw [if_pos hr] at hL
  have hv := hp.2 _ (next_mem (l := x.mtch) (i := (m.frm - 1).toNat) (by unfold inB at hf; omega))
  have hh : inB (had x m) 0 (x.log.length : Int) := by
    unfold had inB at *
    omega
  unfold inB at hh
  refine { r with lens := ?_, places := ⟨fun v hv => ?_, fun v hv => ?_⟩ }
  · show lensOk (heardYes x m)
    unfold lensOk heardYes
    rw [if_pos hr]
    simpa using hL
  · have hv : v ∈ x.next.set (m.frm - 1).toNat (had x m + 1) := hv
    show inB v 1 ((x.log.length : Int) + 1)
    rcases List.mem_or_eq_of_mem_set hv with q | q
    · exact hp.1 v q
    · unfold inB; omega
  · have hv : v ∈ x.mtch.set (m.frm - 1).toNat (had x m) := hv
    show inB v 0 (x.log.length : Int)
    rcases List.mem_or_eq_of_mem_set hv with q | q
    · exact hp.2 v q
    · unfold inB; omega
theorem right_heardNo {x : Node} (r : Right x) (hr : x.role = 3) {m : Msg} (hf : inB m.frm 1 x.n) : Right (heardNo x m) := by
  have hp := r.places
  have hL := r.lens
  unfold lensOk at hL
  rw [if_pos hr] at hL
  have hv := hp.1 _ (next_mem (l := x.next) (i := (m.frm - 1).toNat) (by unfold inB at hf; omega))
  have hh : inB (nextNo x m) 1 ((x.log.length : Int) + 1) := by
    unfold nextNo inB at *
    omega
  refine { r with lens := ?_, places := ⟨fun v hv => ?_, hp.2⟩ }
  · show lensOk (heardNo x m)
    unfold lensOk heardNo
    rw [if_pos hr]
    simpa using hL
  · have hv : v ∈ x.next.set (m.frm - 1).toNat (nextNo x m) := hv
    show inB v 1 ((x.log.length : Int) + 1)
    rcases List.mem_or_eq_of_mem_set hv with q | q
    · exact hp.1 v q
    · rw [q]; exact hh
theorem right_onAppended {x : Node} (r : Right x) {m : Msg} (hf : inB m.frm 1 x.n) : Right (onAppended x m).1 := by
  unfold onAppended
  split
  · exact r
  · rename_i h
    have hr : x.role = 3 := Classical.byContradiction (fun q => h (.inl q))
    split
    · exact right_sure (right_heardYes r hr hf)
    · exact right_heardNo r hr hf
theorem bump_same (x : Node) (t : Int) : (bump x t).id = x.id ∧ (bump x t).n = x.n ∧ (bump x t).log = x.log ∧ (bump x t).commit = x.commit := by
  unfold bump
  split
  · exact ⟨rfl, rfl, rfl, rfl⟩
  · exact ⟨rfl, rfl, rfl, rfl⟩
/-- WHAT IS RIGHT STAYS RIGHT -/
theorem right_receive {x : Node} (r : Right x) (m : Msg) : Right (receive x m).1 := by
  unfold receive
  split
  · exact r
  · rename_i h
    have hl : ¬ Lost x m := fun q => h (.inr q)
    unfold Lost at hl
    obtain ⟨l1, l2, l3, l4, l5, l6, l7, l8, l9, l10, l11⟩ := Classical.not_not.1 hl
    have rb := right_bump r l5
    have hf : inB m.frm 1 (bump x m.term).n := by rw [(bump_same x m.term).2.1]; exact l2
    unfold byKind
    split
    · exact right_onVote rb hf
    · split
      · exact right_onVoted rb m
      · split
        · exact right_onAppend rb hf l6 l9 l10 l11 l7
        · exact right_onAppended rb hf
end Go.Proofs.Ytiplnegiphhdlaa.Rf
