/- Walks: the document's Copy, With, Follower again: what they tell is new, or was handed in; a node that is worked on in a block. -/
import Derived.Test.YtiplnegiphhdlaaMH
import Derived.Test.YtiplnegiphhdlaaMJ
namespace Go.Proofs.Ytiplnegiphhdlaa
open Go.RowKit

theorem PN.of {P : Nat → Prop} {w w' : World} {x : Rf.Node} {v : Array Value} (hb : Below w.heap.size w w') (h : Below w.heap.size w w' → NV (fun b => P b ∨ Fresh w w' b) w' v x) : PN P w x (.returned (.agg v)) w' := ⟨v, rfl, h hb, hb⟩
theorem keptP {P : Nat → Prop} {w w' : World} (hP : ∀ c, P c → c < w.heap.size) (hb : Below w.heap.size w w') : ∀ c, P c → (P c ∨ Fresh w w' c) ∧ w'.heap[c]? = w.heap[c]? := fun c hc => ⟨.inl hc, hb.block c (hP c hc)⟩
theorem keptN {P : Nat → Prop} {w w' : World} (hP : ∀ c, P c → c < w.heap.size) (hb : Below w.heap.size w w') : ∀ c, P c → c < w'.heap.size ∧ w'.heap[c]? = w.heap[c]? := fun c hc => ⟨Nat.lt_of_lt_of_le (hP c hc) hb.size, hb.block c (hP c hc)⟩
/-- blocks that were handed in, or came later than two of one's own -/
def Aw (P : Nat → Prop) (b : Nat) (w : World) (c : Nat) : Prop := P c ∨ (b + 1 < c ∧ c < w.heap.size)
/-- a node in block b; its lists lie elsewhere -/
def NB (P : Nat → Prop) (b : Nat) (w : World) (x : Rf.Node) : Prop := ∃ v, BK w b 25 v ∧ NV (Aw P b w) w v x
theorem Aw.lt {P : Nat → Prop} {b : Nat} {w : World} (hP : ∀ c, P c → c < b) (hb : b < w.heap.size) {c : Nat} (h : Aw P b w c) : c < w.heap.size ∧ c ≠ b := by
  rcases h with h | h
  · have := hP c h; omega
  · omega
theorem Aw.mono {P : Nat → Prop} {b : Nat} {w w' : World} (hs : w.heap.size ≤ w'.heap.size) {c : Nat} (h : Aw P b w c) : Aw P b w' c := h.imp id fun q => ⟨q.1, Nat.lt_of_lt_of_le q.2 hs⟩
theorem NB.below {P : Nat → Prop} {b : Nat} {w w' : World} {x : Rf.Node} (hP : ∀ c, P c → c < b) (h : NB P b w x) (hb : Below w.heap.size w w') : NB P b w' x := by
  obtain ⟨v, h1, h2⟩ := h
  exact ⟨v, h1.keep hb, h2.keep fun c hc => ⟨hc.mono hb.size, hb.block c (Aw.lt hP h1.low hc).1⟩⟩
theorem NB.new {P : Nat → Prop} {w w' : World} {v : Array Value} {x : Rf.Node} (hP : ∀ c, P c → c < w.heap.size) (hv : NV P w v x) (h1 : BK w' w.heap.size 25 v) (hb : Below w.heap.size w w') : NB P w.heap.size w' x :=
  ⟨v, h1, hv.keep fun c hc => ⟨.inl hc, hb.block c (hP c hc)⟩⟩
/-- one cell is stored -/
theorem NB.set {P : Nat → Prop} {b : Nat} {w : World} {v : Array Value} {x : Rf.Node} (hP : ∀ c, P c → c < b) (h : BK w b 25 v) (j : Nat) (u : Value) (hv : NV (Aw P b w) w (v.setIfInBounds j u) x) : NB P b (w.setCell ⟨b, j, none⟩ u) x :=
  ⟨_, h.set j u, hv.keep fun c hc => ⟨Aw.mono (by simp [World.setCell]) hc, Below.heap_setCell _ ⟨b, j, none⟩ _ c (Aw.lt hP h.low hc).2⟩⟩
/-- another node is stored -/
theorem NB.put {P : Nat → Prop} {b : Nat} {w : World} {z0 z1 z2 z3 z4 z5 z6 z7 z8 z9 z10 v0 v1 v2 v3 v4 v5 v6 v7 v8 v9 v10 : Value} {x : Rf.Node} (hP : ∀ c, P c → c < b) (h : BK w b 25 #[z0, z1, z2, z3, z4, z5, z6, z7, z8, z9, z10]) (hv : NV (Aw P b w) w #[v0, v1, v2, v3, v4, v5, v6, v7, v8, v9, v10] x) : NB P b (put11 w b v0 v1 v2 v3 v4 v5 v6 v7 v8 v9 v10) x := by
  refine ⟨_, BK.put11 h v0 v1 v2 v3 v4 v5 v6 v7 v8 v9 v10, hv.keep fun c hc => ?_⟩
  have hne := (Aw.lt hP h.low hc).2
  refine ⟨Aw.mono (by simp [put11, World.setCell]) hc, ?_⟩
  have hs : ∀ (u : World) (j : Nat) (y : Value), (u.setCell ⟨b, j, none⟩ y).heap[c]? = u.heap[c]? := fun u j y => Below.heap_setCell u ⟨b, j, none⟩ y c hne
  unfold put11
  simp only [hs]
theorem NB.cells {P : Nat → Prop} {b : Nat} {w : World} {x : Rf.Node} (h : NB P b w x) : ∃ a1 n1 c1 a2 n2 c2 a3 n3 c3 a4 n4 c4, BK w b 25 #[.int .i64 x.id, .int .i64 x.n, .int .i64 x.term, .int .i64 x.vote, .slice a1 n1 c1, .int .i64 x.commit, .int .i64 x.role, .int .i64 x.boss, .slice a2 n2 c2, .slice a3 n3 c3, .slice a4 n4 c4] ∧ NV (Aw P b w) w #[.int .i64 x.id, .int .i64 x.n, .int .i64 x.term, .int .i64 x.vote, .slice a1 n1 c1, .int .i64 x.commit, .int .i64 x.role, .int .i64 x.boss, .slice a2 n2 c2, .slice a3 n3 c3, .slice a4 n4 c4] x ∧ Hid (n1 = x.log.length ∧ n2 = x.votes.length ∧ n3 = x.next.length ∧ n4 = x.mtch.length) := by
  obtain ⟨v, h1, h2⟩ := h
  obtain ⟨lv, vv, nv, mv, rfl, t1, t2, t3, t4⟩ := id h2
  obtain ⟨a1, c1, rfl, _⟩ := SC.shape t1
  obtain ⟨a2, c2, rfl, _⟩ := SC.shape t2
  obtain ⟨a3, c3, rfl, _⟩ := SC.shape t3
  obtain ⟨a4, c4, rfl, _⟩ := SC.shape t4
  exact ⟨a1, _, c1, a2, _, c2, a3, _, c3, a4, _, c4, h1, h2, hide ⟨rfl, rfl, rfl, rfl⟩⟩
/-- what it is for others -/
theorem NV.awNv {P : Nat → Prop} {b : Nat} {w : World} {v : Array Value} {x : Rf.Node} (hP : ∀ c, P c → c < b) (hb : b < w.heap.size) (h : NV (Aw P b w) w v x) : Nv w v x := h.keep fun _ hc => ⟨(Aw.lt hP hb hc).1, rfl⟩

end Go.Proofs.Ytiplnegiphhdlaa

namespace Go.Proofs.Ytiplnegiphhdlaa.R15
open Go.RowKit

set_option maxHeartbeats 1000000 in
theorem copy_new (z : Int) (n : Nat) (hn : n ≤ 1000) (w : World) : Calls Try.prog 45 #[.int .i64 z, .int .i64 (n : Int)] w fun e w' => ∃ v, e = .returned v ∧ IV (Fresh w w') w' v (List.replicate n z) ∧ Below w.heap.size w w' := by
  obtain ⟨i0, I0, I1, I2, I3⟩ := info_parts info_I
  have I0' := hide I0
  have I1' := hide I1
  have I2' := hide I2
  have I3' := hide I3
  clear I0 I1 I2 I3
  go_enter Try.func45, Try.ntmps45
  go_wp2_with fail
  go_loopw [1, 5] (fun i o wr => ∃ m : Nat, m ≤ n ∧ i = .int .i64 ((n - m : Nat) : Int) ∧ Hid (wr.ownsRow w.heap.size 3 1 o m (ints (List.replicate m z))) ∧ Hid (Below w.heap.size w wr)) (fun i _ _ => (intOf i).toNat)
  case atStart => exact ⟨0, Nat.zero_le _, by simp, hide (World.ownsRow_nil _ _ _ _), hide (Below.refl _ _)⟩
  case round =>
    obtain ⟨m, hm, rfl, HO, HB⟩ := hrel
    by_cases hlt : m < n
    · have h1 : (0 : Int) < ((n - m : Nat) : Int) := by omega
      have h1' : 0 < n - m := by omega
      have m1 : Hid (m + 1 ≤ maxLen) := hide (by unfold maxLen; omega)
      have m2 : Hid ((m + 1) * 8 ≤ 140737488355328) := hide (by omega)
      have m3 : ∀ o, Hid (w.heap.size ≤ (wr.alloc o).heap.size) := fun o => hide (by simp; have := (unhide HB).size; omega)
      have HO2 : Hid (∀ o, (wr.alloc o).ownsRow w.heap.size 3 1 u5 m (ints (List.replicate m z))) := hide (fun o => (unhide HO).alloc o)
      go_wp2_with (at_builtin; refine wpList_append_own_at _ rfl _ _ 23 rfl w.heap.size 3 i0 (.int .i64 0) 1 8 Try.underlying23 (unhide I0') (unhide I1') (unhide I2') (unhide I3') rfl (by decide) _ _ _ rfl (unhide HO2 _) ⟨wr.heap.size, 0, none⟩ 1 1 [.int .i64 z] rfl rfl (cell_one_new _ _ _) (one_int _) (unhide m1) (unhide m2) (unhide (m3 _)) ?_)
      intro v' w' ho hg _ _
      have HO3 := hide ho
      have HB3 := hide ((below_via (unhide HB) (below_new wr (.cells #[.int .i64 z] 3))).trans (own_old (unhide HO2 _) hg (unhide (m3 _))))
      clear ho hg HO HO2 HB m1 m2 m3
      have ew : IntKind.i64.wrap (((n - m : Nat) : Int) - 1) = ((n - (m + 1) : Nat) : Int) := by rw [wrap_i64 (by omega) (by omega)]; omega
      go_wp2
      go_roundw
      case rel => exact ⟨m + 1, by omega, by first | rfl | go_num | (congr 1; omega), by rw [List.replicate_succ', ints_app]; exact HO3, HB3⟩
      case measure => simp [intOf]; omega
    · obtain rfl : m = n := by omega
      have h1 : ¬ (0 : Int) < ((m - m : Nat) : Int) := by omega
      go_wp2
      go_ret
      have := SC.own' (unhide HO)
      exact ⟨_, rfl, by show SC _ _ _ 1 (List.replicate m z).length _; rw [List.length_replicate]; exact this, unhide HB⟩

set_option maxHeartbeats 1000000 in
theorem with_new (l : List Int) (v : Value) (i : Nat) (z : Int) (w : World) (hv : Iv w v l) (hi : i < l.length) (hl : l.length ≤ 1000) : Calls Try.prog 48 #[v, .int .i64 (i : Int), .int .i64 z] w fun e w' => ∃ v', e = .returned v' ∧ IV (Fresh w w') w' v' (l.set i z) ∧ Below w.heap.size w w' := by
  obtain ⟨i0, I0, I1, I2, I3⟩ := info_parts info_I
  have I0' := hide I0
  have I1' := hide I1
  have I2' := hide I2
  have I3' := hide I3
  clear I0 I1 I2 I3
  have HV := hide hv
  obtain ⟨a, cap, rfl, _, _⟩ := SC.shape hv
  clear hv
  have hB := below_new w (.cells #[] 3)
  have hO := hide (own_empty (w := w) w.heap.size 3 1 (Nat.le_refl _))
  have hX : Hid (SC (· < (w.alloc (.cells #[] 3)).heap.size) (w.alloc (.cells #[] 3)) (.slice a l.length cap) 1 l.length (ints l)) := hide (SC.keep (kept hB) (unhide HV))
  have m1 : Hid (0 + l.length ≤ maxLen) := hide (by unfold maxLen; omega)
  have m2 : Hid ((0 + l.length) * 8 ≤ 140737488355328) := hide (by omega)
  have m3 : Hid (w.heap.size ≤ (w.alloc (.cells #[] 3)).heap.size) := hide (by simp)
  have HB := hide hB
  clear hB
  go_enter Try.func48, Try.ntmps48
  go_wp2_with (at_builtin; refine wpList_append_sc rfl _ _ 23 rfl w.heap.size 3 i0 (.int .i64 0) 1 8 Try.underlying23 (unhide I0') (unhide I1') (unhide I2') (unhide I3') rfl (by decide) none_I _ _ _ _ _ _ rfl rfl (unhide hO) (unhide hX) (ints_one _) (unhide m1) (unhide m2) (unhide m3) ?_)
  intro v' w' ho hg _
  have HB2 := hide ((unhide HB).trans (own_old (unhide hO) hg (unhide m3)))
  obtain ⟨g, cp, rfl, g1, g2, g3, _, g4⟩ := own_slice ho (by omega)
  have hi' : (i : Int) < (l.length : Int) := by omega
  have gf := g4 i
  have gc : w'.cell? ⟨g, i, none⟩ = some (.int .i64 l[i]) := by
    have := World.ownsRow.cells ho (g := g) rfl i (.int .i64 l[i]) (by simp [ints])
    rwa [Addr.add_lit, Nat.zero_add] at this
  have st := ho.stored i (.int .i64 z)
  have HS := hide st.1
  have HB3 := hide ((unhide HB2).trans ((Below.refl w.heap.size w').grown st.2 (unhide HB2).size (fun k hk => by cases hk; exact g1)))
  clear ho hg HB HB2 st m1 m2 m3 hX hO HV g4
  go_wp2
  go_ret
  exact ⟨_, rfl, by show SC _ _ _ 1 (l.set i z).length _; rw [List.length_set]; have := SC.own' (unhide HS); rwa [show (ints l).set i (.int .i64 z) = ints (l.set i z) by simp [ints, List.map_set]] at this, unhide HB3⟩

theorem follower_new (P : Nat → Prop) (x : Rf.Node) (v : Array Value) (boss : Int) (w : World) (hv : NV P w v x) (hP : ∀ c, P c → c < w.heap.size) : Calls Try.prog 36 #[.agg v, .int .i64 boss] w (PN P w (Rf.follow x boss)) := by
  obtain ⟨lv, vv, nv, mv, rfl, h2, h3, h4, h5⟩ := hv
  have HP := hide hP
  have H2 := hide h2
  obtain ⟨la, lc, rfl, _⟩ := SC.shape h2
  obtain ⟨va, vc, rfl, _⟩ := SC.shape h3
  obtain ⟨na, nc, rfl, _⟩ := SC.shape h4
  obtain ⟨ma, mc, rfl, _⟩ := SC.shape h5
  clear h2 h3 h4 h5 hP
  go_enter Try.func36, Try.ntmps36
  go_wp2
  refine bodyPost_ret (v := .agg #[.int .i64 x.id, .int .i64 x.n, .int .i64 x.term, .int .i64 x.vote, .slice la x.log.length lc, .int .i64 x.commit, .int .i64 1, .int .i64 boss, .slice none 0 0, .slice none 0 0, .slice none 0 0]) (by simp [results, Try.results36, go_sem]) rfl ?_
  refine PN.of ?_ fun hb => ⟨_, _, _, _, rfl, TV.keep (keptP (unhide HP) hb) (unhide H2), SC.nil _ _ _, SC.nil _ _ _, SC.nil _ _ _⟩
  repeat (first | exact Below.refl _ _ | refine Below.setCell ?_ (by simp) _ | refine Below.alloc ?_ (by simp) _)

end Go.Proofs.Ytiplnegiphhdlaa.R15
