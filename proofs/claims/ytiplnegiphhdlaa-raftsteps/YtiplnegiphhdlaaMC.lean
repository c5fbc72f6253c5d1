/- Walks: Most, Copy, With, Follower. -/
import Derived.Test.YtiplnegiphhdlaaMB
import Derived.Laws.OwnMore
namespace Go.Proofs.Ytiplnegiphhdlaa
open Go.RowKit

/-- a new block of one cell -/
theorem cell_one_new (w : World) (t : TypeId) (u : Value) : ∀ j x, [u][j]? = some x → (w.alloc (.cells #[u] t)).cell? ((⟨w.heap.size, 0, none⟩ : Addr).add j) = some x := by
  intro j x h
  cases j with
  | zero => simp at h; subst h; simp [go_sem, Addr.add]
  | succ j => simp at h
theorem one_int (n : Int) : ∀ u ∈ [Value.int .i64 n], u.oneCell' = true := by
  intro u hu
  simp at hu
  subst hu
  rfl
/-- nil goes behind what a slice owns -/
def NoneOk (t e : TypeId) (size : Nat) : Prop := ∀ (ty : TypeId) (c base : Nat) (v : Value) (n : Nat) (xs : List Value) (w : World), w.ownsRow base e size v n xs → (Builtin.append_ #[t, t] ty #[v, .slice none 0 c]).run Try.prog w = .ok v w
theorem none_I : NoneOk 23 3 1 := by
  intro ty c base v n xs w hown
  rcases hown.2 with ⟨rfl, rfl⟩ | ⟨g, cap, cur, rfl, _, hgb, r1, r2, r3, r4⟩
  · simp [go_sem, Builtin.append_]
  · simp [go_sem, Builtin.append_, r1]
theorem none_T : NoneOk 22 58 2 := by
  intro ty c base v n xs w hown
  rcases hown.2 with ⟨rfl, rfl⟩ | ⟨g, cap, cur, rfl, _, hgb, r1, r2, r3, r4⟩
  · simp [go_sem, Builtin.append_]
  · simp [go_sem, Builtin.append_, r1]
theorem none_M : NoneOk 28 49 9 := by
  intro ty c base v n xs w hown
  rcases hown.2 with ⟨rfl, rfl⟩ | ⟨g, cap, cur, rfl, _, hgb, r1, r2, r3, r4⟩
  · simp [go_sem, Builtin.append_]
  · simp [go_sem, Builtin.append_, r1]
/-- a whole slice goes behind what a slice owns -/
theorem run_append_sc {P : Nat → Prop} {w : World} (base : Nat) (t ty e : TypeId) (i : TypeInfo) (z : Value) (size bytes : Nat) (ht : Try.prog.underlying t = some (.slice e)) (hi : Try.prog.info? e = some i) (hz : i.zero = some z)
    (hsize : i.size = size) (hby : i.bytes = bytes) (hzs : z.cells.size = size) (hsz : 0 < size) (hno : NoneOk t e size) (v x : Value) (n m : Nat) (xs cs : List Value) (hown : w.ownsRow base e size v n xs) (hx : SC P w x size m cs) (h1 : ∀ u ∈ cs, u.oneCell' = true)
    (h63 : n + m ≤ maxLen) (hbytes : (n + m) * bytes ≤ 140737488355328) (hbase : base ≤ w.heap.size) :
    ∃ v' w', (Builtin.append_ #[t, t] ty #[v, x]).run Try.prog w = .ok v' w' ∧ w'.ownsRow base e size v' (n + m) (xs ++ cs) ∧ w.grownBy w' v.ownBlock ∧ (v'.ownBlock = v.ownBlock ∨ v'.ownBlock = some w.heap.size) := by
  obtain ⟨hl, a, cap, rfl, _, _, hc⟩ := hx
  cases a with
  | none =>
    have hm : m = 0 := by
      rcases Nat.eq_zero_or_pos m with h | h
      · exact h
      · obtain ⟨b, off, e1, _⟩ := hc (by omega)
        cases e1
    subst hm
    obtain rfl : cs = [] := List.eq_nil_of_length_eq_zero (by simpa using hl)
    exact ⟨v, w, hno ty cap base v n xs w hown, by simpa using hown, World.grownBy.refl w _, .inl rfl⟩
  | some a =>
    have hnews : ∀ j u, cs[j]? = some u → w.cell? (a.add j) = some u := by
      intro j u hj
      have hm : m ≠ 0 := by
        intro h
        subst h
        obtain rfl : cs = [] := List.eq_nil_of_length_eq_zero (by simpa using hl)
        simp at hj
      obtain ⟨b, off, e1, _, e3⟩ := hc hm
      cases e1
      rw [Addr.add_lit]
      exact e3 j u hj
    obtain ⟨v', w', k1, k2, k3, _, k5⟩ := run_append_own_at (P := Try.prog) w base t ty e i z size bytes ht hi hz hsize hby hzs hsz v n xs hown a m cap cs hl hnews h1 h63 hbytes hbase
    exact ⟨v', w', k1, k2, k3, k5⟩
theorem wpList_append_sc {P : Nat → Prop} {w : World} {ops : Array Oper} {rest : List Oper} {o : Oper} {a : Act} {Q : Exit → Act → World → Prop} (hgd : o.guard = none) (s x : Operand) (t : TypeId)
    (ho : o.op = .call { callee := .builtin .append, args := #[s, x], argTypes := #[t, t] })
    (base : Nat) (e : TypeId) (i : TypeInfo) (z : Value) (size bytes : Nat) (ht : Try.prog.underlying t = some (.slice e)) (hi : Try.prog.info? e = some i) (hz : i.zero = some z)
    (hsize : i.size = size) (hby : i.bytes = bytes) (hzs : z.cells.size = size) (hsz : 0 < size) (hno : NoneOk t e size) (v xv : Value) (n m : Nat) (xs cs : List Value) (hs : a.eval s = v) (hxv : a.eval x = xv) (hown : w.ownsRow base e size v n xs) (hx : SC P w xv size m cs) (h1 : ∀ u ∈ cs, u.oneCell' = true)
    (h63 : n + m ≤ maxLen) (hbytes : (n + m) * bytes ≤ 140737488355328) (hbase : base ≤ w.heap.size)
    (h : ∀ v' w', w'.ownsRow base e size v' (n + m) (xs ++ cs) → w.grownBy w' v.ownBlock → (v'.ownBlock = v.ownBlock ∨ v'.ownBlock = some w.heap.size) → wpList Try.prog ops Q rest (a.put o.dst v') w') : wpList Try.prog ops Q (o :: rest) a w := by
  obtain ⟨v', w', hr, h2, h3, h4⟩ := run_append_sc base t o.type e i z size bytes ht hi hz hsize hby hzs hsz hno v xv n m xs cs hown hx h1 h63 hbytes hbase
  refine wpList_plain hgd fun K hK => ?_
  unfold Oper.wp execOp
  simp only [ho, resolve, invoke, builtin, Sem.run_bind, Sem.run_pure, Result.andThen_ok, List.map_toArray, List.map_cons, List.map_nil, hs, hxv, hr]
  exact hK _ _ (h v' w' h2 h3 h4)
/-- an empty row of one's own -/
theorem own_empty {w : World} (base : Nat) (e : TypeId) (size : Nat) (hb : base ≤ w.heap.size) : (w.alloc (.cells #[] e)).ownsRow base e size (.slice (some ⟨w.heap.size, 0, none⟩) 0 0) 0 [] :=
  World.ownsRow_made w #[] 0 hb (by unfold maxLen; omega) (by simp)
theorem own_slice {base : Nat} {e : TypeId} {size : Nat} {w : World} {v : Value} {n : Nat} {xs : List Value} (h : w.ownsRow base e size v n xs) (hn : 0 < n) : ∃ g cap, v = .slice (some ⟨g, 0, none⟩) n cap ∧ base ≤ g ∧ g < w.heap.size ∧ n ≤ cap ∧ w.heap[g]? ≠ none ∧ ∀ j, w.frozen? ⟨g, j, none⟩ = false := by
  rcases h.2 with ⟨_, h2⟩ | ⟨g, cap, cur, hv, hb, hg, hn', _⟩
  · omega
  · refine ⟨g, cap, hv, hb, lt_of_block hg, hn', by rw [hg]; simp, fun j => ?_⟩
    simp [World.frozen?, hg]
/-- a node's eleven cells -/
abbrev nodeC (x : Rf.Node) (lv vv nv mv : Value) : Array Value := #[.int .i64 x.id, .int .i64 x.n, .int .i64 x.term, .int .i64 x.vote, lv, .int .i64 x.commit, .int .i64 x.role, .int .i64 x.boss, vv, nv, mv]

end Go.Proofs.Ytiplnegiphhdlaa

namespace Go.Proofs.Ytiplnegiphhdlaa.R15
open Go.RowKit

theorem most_any (x : Rf.Node) (v : Array Value) (k : Nat) (w : World) (hv : Nv w v x) (h0 : 1 ≤ x.n) (h1 : x.n ≤ 5) (hk : k ≤ 1000000) :
    Calls Try.prog 44 #[.agg v, .int .i64 (k : Int)] w fun e w' => e = .returned (.bool (decide (Rf.most x.n k))) ∧ Below w.heap.size w w' := by
  obtain ⟨lv, vv, nv, mv, rfl, h2, h3, h4, h5⟩ := hv
  obtain ⟨la, lc, rfl, _⟩ := SC.shape h2
  obtain ⟨va, vc, rfl, _⟩ := SC.shape h3
  obtain ⟨na, nc, rfl, _⟩ := SC.shape h4
  obtain ⟨ma, mc, rfl, _⟩ := SC.shape h5
  have HB := hide (below_new w (.cells (nodeC x (.slice la x.log.length lc) (.slice va x.votes.length vc) (.slice na x.next.length nc) (.slice ma x.mtch.length mc)) 25))
  have ew : IntKind.i64.wrap (x.n - (k : Int)) = x.n - (k : Int) := wrap_i64 (by omega) (by omega)
  clear h2 h3 h4 h5
  by_cases hm : Rf.most x.n k
  · have hd : decide (Rf.most x.n k) = true := decide_eq_true hm
    have hm' : x.n - (k : Int) < (k : Int) := by unfold Rf.most at hm; omega
    go_enter Try.func44, Try.ntmps44
    go_wp2
    go_ret
    exact ⟨by first | (rw [hd]; done) | (rw [hd]; rfl) | rfl | (simp [hm]; done), unhide HB⟩
  · have hd : decide (Rf.most x.n k) = false := decide_eq_false hm
    have hm' : ¬ x.n - (k : Int) < (k : Int) := by unfold Rf.most at hm; omega
    go_enter Try.func44, Try.ntmps44
    go_wp2
    go_ret
    exact ⟨by first | (rw [hd]; done) | (rw [hd]; rfl) | rfl | (simp [hm]; done), unhide HB⟩

set_option maxHeartbeats 1000000 in
theorem copy_any (z : Int) (n : Nat) (hn : n ≤ 1000) (w : World) : Calls Try.prog 45 #[.int .i64 z, .int .i64 (n : Int)] w fun e w' => ∃ v, e = .returned v ∧ Iv w' v (List.replicate n z) ∧ Below w.heap.size w w' := by
  obtain ⟨i0, I0, I1, I2, I3⟩ := info_parts info_I
  have I0' := hide I0
  have I1' := hide I1
  have I2' := hide I2
  have I3' := hide I3
  clear I0 I1 I2 I3
  go_enter Try.func45, Try.ntmps45
  go_wp2_with fail
  go_loopw [1, 5] (fun i o wr => ∃ m : Nat, m ≤ n ∧ i = .int .i64 ((n - m : Nat) : Int) ∧ Hid (wr.ownsRow w.heap.size 3 1 o m (ints (List.replicate m z))) ∧ Hid (Below w.heap.size w wr)) (fun i _ _ => (intOf i).toNat)
  case atStart => exact ⟨0, Nat.zero_le _, by simp, hide (World.ownsRow_nil _ _ _ _), hide (Below.refl _ _)⟩
  case round =>
    obtain ⟨m, hm, rfl, HO, HB⟩ := hrel
    by_cases hlt : m < n
    · have h1 : (0 : Int) < ((n - m : Nat) : Int) := by omega
      have h1' : 0 < n - m := by omega
      have m1 : Hid (m + 1 ≤ maxLen) := hide (by unfold maxLen; omega)
      have m2 : Hid ((m + 1) * 8 ≤ 140737488355328) := hide (by omega)
      have m3 : ∀ o, Hid (w.heap.size ≤ (wr.alloc o).heap.size) := fun o => hide (by simp; have := (unhide HB).size; omega)
      have HO2 : Hid (∀ o, (wr.alloc o).ownsRow w.heap.size 3 1 u5 m (ints (List.replicate m z))) := hide (fun o => (unhide HO).alloc o)
      go_wp2_with (at_builtin; refine wpList_append_own_at _ rfl _ _ 23 rfl w.heap.size 3 i0 (.int .i64 0) 1 8 Try.underlying23 (unhide I0') (unhide I1') (unhide I2') (unhide I3') rfl (by decide) _ _ _ rfl (unhide HO2 _) ⟨wr.heap.size, 0, none⟩ 1 1 [.int .i64 z] rfl rfl (cell_one_new _ _ _) (one_int _) (unhide m1) (unhide m2) (unhide (m3 _)) ?_)
      intro v' w' ho hg _ _
      have HO3 := hide ho
      have HB3 := hide ((below_via (unhide HB) (below_new wr (.cells #[.int .i64 z] 3))).trans (own_old (unhide HO2 _) hg (unhide (m3 _))))
      clear ho hg HO HO2 HB m1 m2 m3
      have ew : IntKind.i64.wrap (((n - m : Nat) : Int) - 1) = ((n - (m + 1) : Nat) : Int) := by rw [wrap_i64 (by omega) (by omega)]; omega
      go_wp2
      go_roundw
      case rel => exact ⟨m + 1, by omega, by first | rfl | go_num | (congr 1; omega), by rw [List.replicate_succ', ints_app]; exact HO3, HB3⟩
      case measure => simp [intOf]; omega
    · obtain rfl : m = n := by omega
      have h1 : ¬ (0 : Int) < ((m - m : Nat) : Int) := by omega
      go_wp2
      go_ret
      have := SC.own (unhide HO)
      exact ⟨_, rfl, by show SC _ _ _ 1 (List.replicate m z).length _; rw [List.length_replicate]; exact this, unhide HB⟩

set_option maxHeartbeats 1000000 in
theorem with_any (l : List Int) (v : Value) (i : Nat) (z : Int) (w : World) (hv : Iv w v l) (hi : i < l.length) (hl : l.length ≤ 1000) : Calls Try.prog 48 #[v, .int .i64 (i : Int), .int .i64 z] w fun e w' => ∃ v', e = .returned v' ∧ Iv w' v' (l.set i z) ∧ Below w.heap.size w w' := by
  obtain ⟨i0, I0, I1, I2, I3⟩ := info_parts info_I
  have I0' := hide I0
  have I1' := hide I1
  have I2' := hide I2
  have I3' := hide I3
  clear I0 I1 I2 I3
  have HV := hide hv
  obtain ⟨a, cap, rfl, _, _⟩ := SC.shape hv
  clear hv
  have hB := below_new w (.cells #[] 3)
  have hO := hide (own_empty (w := w) w.heap.size 3 1 (Nat.le_refl _))
  have hX : Hid (SC (· < (w.alloc (.cells #[] 3)).heap.size) (w.alloc (.cells #[] 3)) (.slice a l.length cap) 1 l.length (ints l)) := hide (SC.keep (kept hB) (unhide HV))
  have m1 : Hid (0 + l.length ≤ maxLen) := hide (by unfold maxLen; omega)
  have m2 : Hid ((0 + l.length) * 8 ≤ 140737488355328) := hide (by omega)
  have m3 : Hid (w.heap.size ≤ (w.alloc (.cells #[] 3)).heap.size) := hide (by simp)
  have HB := hide hB
  clear hB
  go_enter Try.func48, Try.ntmps48
  go_wp2_with (at_builtin; refine wpList_append_sc rfl _ _ 23 rfl w.heap.size 3 i0 (.int .i64 0) 1 8 Try.underlying23 (unhide I0') (unhide I1') (unhide I2') (unhide I3') rfl (by decide) none_I _ _ _ _ _ _ rfl rfl (unhide hO) (unhide hX) (ints_one _) (unhide m1) (unhide m2) (unhide m3) ?_)
  intro v' w' ho hg _
  have HB2 := hide ((unhide HB).trans (own_old (unhide hO) hg (unhide m3)))
  obtain ⟨g, cp, rfl, g1, g2, g3, _, g4⟩ := own_slice ho (by omega)
  have hi' : (i : Int) < (l.length : Int) := by omega
  have gf := g4 i
  have gc : w'.cell? ⟨g, i, none⟩ = some (.int .i64 l[i]) := by
    have := World.ownsRow.cells ho (g := g) rfl i (.int .i64 l[i]) (by simp [ints])
    rwa [Addr.add_lit, Nat.zero_add] at this
  have st := ho.stored i (.int .i64 z)
  have HS := hide st.1
  have HB3 := hide ((unhide HB2).trans ((Below.refl w.heap.size w').grown st.2 (unhide HB2).size (fun k hk => by cases hk; exact g1)))
  clear ho hg HB HB2 st m1 m2 m3 hX hO HV g4
  go_wp2
  go_ret
  exact ⟨_, rfl, by show SC _ _ _ 1 (l.set i z).length _; rw [List.length_set]; have := SC.own (unhide HS); rwa [show (ints l).set i (.int .i64 z) = ints (l.set i z) by simp [ints, List.map_set]] at this, unhide HB3⟩

theorem follower_any (x : Rf.Node) (v : Array Value) (boss : Int) (w : World) (hv : Nv w v x) : Calls Try.prog 36 #[.agg v, .int .i64 boss] w (PostN w (Rf.follow x boss)) := by
  obtain ⟨lv, vv, nv, mv, rfl, h2, h3, h4, h5⟩ := hv
  have H2 := hide h2
  obtain ⟨la, lc, rfl, _⟩ := SC.shape h2
  obtain ⟨va, vc, rfl, _⟩ := SC.shape h3
  obtain ⟨na, nc, rfl, _⟩ := SC.shape h4
  obtain ⟨ma, mc, rfl, _⟩ := SC.shape h5
  clear h2 h3 h4 h5
  go_enter Try.func36, Try.ntmps36
  go_wp2
  refine bodyPost_ret (v := .agg #[.int .i64 x.id, .int .i64 x.n, .int .i64 x.term, .int .i64 x.vote, .slice la x.log.length lc, .int .i64 x.commit, .int .i64 1, .int .i64 boss, .slice none 0 0, .slice none 0 0, .slice none 0 0]) (by simp [results, Try.results36, go_sem]) rfl ?_
  refine PostN.of ?_ fun hb => ⟨_, _, _, _, rfl, TV.keep (kept hb) (unhide H2), SC.nil _ _ _, SC.nil _ _ _, SC.nil _ _ _⟩
  repeat (first | exact Below.refl _ _ | refine Below.setCell ?_ (by simp) _ | refine Below.alloc ?_ (by simp) _)

end Go.Proofs.Ytiplnegiphhdlaa.R15
