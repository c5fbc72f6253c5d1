/- Walks: Batch. -/
import Derived.Test.YtiplnegiphhdlaaMD
namespace Go.Proofs.Ytiplnegiphhdlaa
open Go.RowKit

theorem step_append_own_at {P : Program} {ops : Array Oper} {o : Oper} {a : Act} {w : World} {K : Act → World → Prop} {Q : Exit → Act → World → Prop} {E : Prop}
    (hg : o.guard = none) (s x : Operand) (t : TypeId) (ho : o.op = Op.call { callee := Callee.builtin Builtin.append, args := #[s, x], argTypes := #[t, t] })
    (base : Nat) (e : TypeId) (i : TypeInfo) (z : Value) (size bytes : Nat) (ht : P.underlying t = some (.slice e)) (hi : P.info? e = some i) (hz : i.zero = some z)
    (hsize : i.size = size) (hby : i.bytes = bytes) (hzs : z.cells.size = size) (hsz : 0 < size)
    (v : Value) (n : Nat) (xs : List Value) (hs : a.eval s = v) (hown : w.ownsRow base e size v n xs)
    (ad : Addr) (m c : Nat) (news : List Value) (hx : a.eval x = .slice (some ad) m c) (hl : news.length = m * size) (hnews : ∀ j u, news[j]? = some u → w.cell? (ad.add j) = some u) (h1 : ∀ u ∈ news, u.oneCell' = true)
    (h63 : n + m ≤ maxLen) (hbytes : (n + m) * bytes ≤ 140737488355328) (hbase : base ≤ w.heap.size)
    (hK : ∀ v' w', w'.ownsRow base e size v' (n + m) (xs ++ news) → w.grownBy w' v.ownBlock → (v'.ownBlock = v.ownBlock ∨ v'.ownBlock = some w.heap.size) → K (a.put o.dst v') w') :
    if Region.wanted o (yielded ops a.tmps) = true then Oper.wp P o a w K Q else E := by
  have hw : Region.wanted o (yielded ops a.tmps) = true := by simp [Region.wanted, hg]
  rw [if_pos hw]
  obtain ⟨v', w', hr, h2, h3, _, h5⟩ := run_append_own_at (P := P) w base t o.type e i z size bytes ht hi hz hsize hby hzs hsz v n xs hown ad m c news hl hnews h1 h63 hbytes hbase
  unfold Oper.wp execOp
  simp only [ho, resolve, invoke, builtin, Sem.run_bind, Sem.run_pure, Result.andThen_ok, List.map_toArray, List.map_cons, List.map_nil, hs, hx, hr]
  exact hK v' w' h2 h3 h5
theorem cell_two_new (W : World) (t : TypeId) (a b : Value) : ∀ j u, [a, b][j]? = some u → (W.alloc (.cells #[a, b] t)).cell? ((⟨W.heap.size, 0, none⟩ : Addr).add j) = some u := by
  intro j u h
  rw [Addr.add_lit]
  have hj : j < 2 := by
    rcases Nat.lt_or_ge j 2 with q | q
    · exact q
    · rw [List.getElem?_eq_none (by simpa using q)] at h; cases h
  rcases (by omega : j = 0 ∨ j = 1) with rfl | rfl <;> (simp at h; subst h; simp [go_sem])
theorem one_two (a b : Int) : ∀ u ∈ [Value.int .i64 a, Value.int .i64 b], u.oneCell' = true := by
  intro u hu
  simp at hu
  rcases hu with rfl | rfl <;> rfl
theorem its_one_more (l : List Rf.Item) (x : Rf.Item) : its (l ++ [x]) = its l ++ [.int .i64 x.1, .int .i64 x.2] := by simp [its]
/-- a message, a node is stored -/
theorem BK.put9 {w : World} {b : Nat} {t : TypeId} {z0 z1 z2 z3 z4 z5 z6 z7 z8 : Value} (h : BK w b t #[z0, z1, z2, z3, z4, z5, z6, z7, z8]) (v0 v1 v2 v3 v4 v5 v6 v7 v8 : Value) : BK (((((((((w.setCell ⟨b, 0, none⟩ v0).setCell ⟨b, 1, none⟩ v1).setCell ⟨b, 2, none⟩ v2).setCell ⟨b, 3, none⟩ v3).setCell ⟨b, 4, none⟩ v4).setCell ⟨b, 5, none⟩ v5).setCell ⟨b, 6, none⟩ v6).setCell ⟨b, 7, none⟩ v7).setCell ⟨b, 8, none⟩ v8) b t #[v0, v1, v2, v3, v4, v5, v6, v7, v8] := by
  have h0 := h.set 0 v0
  simp only [List.setIfInBounds_toArray, List.set_cons_zero] at h0
  have h1 := h0.set 1 v1
  simp only [List.setIfInBounds_toArray, List.set_cons_zero, List.set_cons_succ] at h1
  have h2 := h1.set 2 v2
  simp only [List.setIfInBounds_toArray, List.set_cons_zero, List.set_cons_succ] at h2
  have h3 := h2.set 3 v3
  simp only [List.setIfInBounds_toArray, List.set_cons_zero, List.set_cons_succ] at h3
  have h4 := h3.set 4 v4
  simp only [List.setIfInBounds_toArray, List.set_cons_zero, List.set_cons_succ] at h4
  have h5 := h4.set 5 v5
  simp only [List.setIfInBounds_toArray, List.set_cons_zero, List.set_cons_succ] at h5
  have h6 := h5.set 6 v6
  simp only [List.setIfInBounds_toArray, List.set_cons_zero, List.set_cons_succ] at h6
  have h7 := h6.set 7 v7
  simp only [List.setIfInBounds_toArray, List.set_cons_zero, List.set_cons_succ] at h7
  have h8 := h7.set 8 v8
  simp only [List.setIfInBounds_toArray, List.set_cons_zero, List.set_cons_succ] at h8
  exact h8
theorem BK.put11 {w : World} {b : Nat} {t : TypeId} {z0 z1 z2 z3 z4 z5 z6 z7 z8 z9 z10 : Value} (h : BK w b t #[z0, z1, z2, z3, z4, z5, z6, z7, z8, z9, z10]) (v0 v1 v2 v3 v4 v5 v6 v7 v8 v9 v10 : Value) : BK (((((((((((w.setCell ⟨b, 0, none⟩ v0).setCell ⟨b, 1, none⟩ v1).setCell ⟨b, 2, none⟩ v2).setCell ⟨b, 3, none⟩ v3).setCell ⟨b, 4, none⟩ v4).setCell ⟨b, 5, none⟩ v5).setCell ⟨b, 6, none⟩ v6).setCell ⟨b, 7, none⟩ v7).setCell ⟨b, 8, none⟩ v8).setCell ⟨b, 9, none⟩ v9).setCell ⟨b, 10, none⟩ v10) b t #[v0, v1, v2, v3, v4, v5, v6, v7, v8, v9, v10] := by
  have h0 := h.set 0 v0
  simp only [List.setIfInBounds_toArray, List.set_cons_zero] at h0
  have h1 := h0.set 1 v1
  simp only [List.setIfInBounds_toArray, List.set_cons_zero, List.set_cons_succ] at h1
  have h2 := h1.set 2 v2
  simp only [List.setIfInBounds_toArray, List.set_cons_zero, List.set_cons_succ] at h2
  have h3 := h2.set 3 v3
  simp only [List.setIfInBounds_toArray, List.set_cons_zero, List.set_cons_succ] at h3
  have h4 := h3.set 4 v4
  simp only [List.setIfInBounds_toArray, List.set_cons_zero, List.set_cons_succ] at h4
  have h5 := h4.set 5 v5
  simp only [List.setIfInBounds_toArray, List.set_cons_zero, List.set_cons_succ] at h5
  have h6 := h5.set 6 v6
  simp only [List.setIfInBounds_toArray, List.set_cons_zero, List.set_cons_succ] at h6
  have h7 := h6.set 7 v7
  simp only [List.setIfInBounds_toArray, List.set_cons_zero, List.set_cons_succ] at h7
  have h8 := h7.set 8 v8
  simp only [List.setIfInBounds_toArray, List.set_cons_zero, List.set_cons_succ] at h8
  have h9 := h8.set 9 v9
  simp only [List.setIfInBounds_toArray, List.set_cons_zero, List.set_cons_succ] at h9
  have h10 := h9.set 10 v10
  simp only [List.setIfInBounds_toArray, List.set_cons_zero, List.set_cons_succ] at h10
  exact h10
abbrev put9 (w : World) (b : Nat) (v0 v1 v2 v3 v4 v5 v6 v7 v8 : Value) : World := (((((((((w.setCell ⟨b, 0, none⟩ v0).setCell ⟨b, 1, none⟩ v1).setCell ⟨b, 2, none⟩ v2).setCell ⟨b, 3, none⟩ v3).setCell ⟨b, 4, none⟩ v4).setCell ⟨b, 5, none⟩ v5).setCell ⟨b, 6, none⟩ v6).setCell ⟨b, 7, none⟩ v7).setCell ⟨b, 8, none⟩ v8)
abbrev put11 (w : World) (b : Nat) (v0 v1 v2 v3 v4 v5 v6 v7 v8 v9 v10 : Value) : World := (((((((((((w.setCell ⟨b, 0, none⟩ v0).setCell ⟨b, 1, none⟩ v1).setCell ⟨b, 2, none⟩ v2).setCell ⟨b, 3, none⟩ v3).setCell ⟨b, 4, none⟩ v4).setCell ⟨b, 5, none⟩ v5).setCell ⟨b, 6, none⟩ v6).setCell ⟨b, 7, none⟩ v7).setCell ⟨b, 8, none⟩ v8).setCell ⟨b, 9, none⟩ v9).setCell ⟨b, 10, none⟩ v10)
theorem below_put9 {w w' : World} {b B : Nat} {v0 v1 v2 v3 v4 v5 v6 v7 v8 : Value} (h : Below B w w') (hb : B ≤ b) : Below B w (put9 w' b v0 v1 v2 v3 v4 v5 v6 v7 v8) := by
  have h0 := h.setCell (p := ⟨b, 0, none⟩) hb v0
  have h1 := h0.setCell (p := ⟨b, 1, none⟩) hb v1
  have h2 := h1.setCell (p := ⟨b, 2, none⟩) hb v2
  have h3 := h2.setCell (p := ⟨b, 3, none⟩) hb v3
  have h4 := h3.setCell (p := ⟨b, 4, none⟩) hb v4
  have h5 := h4.setCell (p := ⟨b, 5, none⟩) hb v5
  have h6 := h5.setCell (p := ⟨b, 6, none⟩) hb v6
  have h7 := h6.setCell (p := ⟨b, 7, none⟩) hb v7
  have h8 := h7.setCell (p := ⟨b, 8, none⟩) hb v8
  exact h8
theorem below_put11 {w w' : World} {b B : Nat} {v0 v1 v2 v3 v4 v5 v6 v7 v8 v9 v10 : Value} (h : Below B w w') (hb : B ≤ b) : Below B w (put11 w' b v0 v1 v2 v3 v4 v5 v6 v7 v8 v9 v10) := by
  have h0 := h.setCell (p := ⟨b, 0, none⟩) hb v0
  have h1 := h0.setCell (p := ⟨b, 1, none⟩) hb v1
  have h2 := h1.setCell (p := ⟨b, 2, none⟩) hb v2
  have h3 := h2.setCell (p := ⟨b, 3, none⟩) hb v3
  have h4 := h3.setCell (p := ⟨b, 4, none⟩) hb v4
  have h5 := h4.setCell (p := ⟨b, 5, none⟩) hb v5
  have h6 := h5.setCell (p := ⟨b, 6, none⟩) hb v6
  have h7 := h6.setCell (p := ⟨b, 7, none⟩) hb v7
  have h8 := h7.setCell (p := ⟨b, 8, none⟩) hb v8
  have h9 := h8.setCell (p := ⟨b, 9, none⟩) hb v9
  have h10 := h9.setCell (p := ⟨b, 10, none⟩) hb v10
  exact h10
theorem own_put9 {w : World} {base b : Nat} {e : TypeId} {size : Nat} {v : Value} {n : Nat} {xs : List Value} {v0 v1 v2 v3 v4 v5 v6 v7 v8 : Value} (h : w.ownsRow base e size v n xs) (hb : b < base) : (put9 w b v0 v1 v2 v3 v4 v5 v6 v7 v8).ownsRow base e size v n xs := by
  have h0 := ownsRow_setCell_below h (a := ⟨b, 0, none⟩) hb v0
  have h1 := ownsRow_setCell_below h0 (a := ⟨b, 1, none⟩) hb v1
  have h2 := ownsRow_setCell_below h1 (a := ⟨b, 2, none⟩) hb v2
  have h3 := ownsRow_setCell_below h2 (a := ⟨b, 3, none⟩) hb v3
  have h4 := ownsRow_setCell_below h3 (a := ⟨b, 4, none⟩) hb v4
  have h5 := ownsRow_setCell_below h4 (a := ⟨b, 5, none⟩) hb v5
  have h6 := ownsRow_setCell_below h5 (a := ⟨b, 6, none⟩) hb v6
  have h7 := ownsRow_setCell_below h6 (a := ⟨b, 7, none⟩) hb v7
  have h8 := ownsRow_setCell_below h7 (a := ⟨b, 8, none⟩) hb v8
  exact h8
theorem own_put11 {w : World} {base b : Nat} {e : TypeId} {size : Nat} {v : Value} {n : Nat} {xs : List Value} {v0 v1 v2 v3 v4 v5 v6 v7 v8 v9 v10 : Value} (h : w.ownsRow base e size v n xs) (hb : b < base) : (put11 w b v0 v1 v2 v3 v4 v5 v6 v7 v8 v9 v10).ownsRow base e size v n xs := by
  have h0 := ownsRow_setCell_below h (a := ⟨b, 0, none⟩) hb v0
  have h1 := ownsRow_setCell_below h0 (a := ⟨b, 1, none⟩) hb v1
  have h2 := ownsRow_setCell_below h1 (a := ⟨b, 2, none⟩) hb v2
  have h3 := ownsRow_setCell_below h2 (a := ⟨b, 3, none⟩) hb v3
  have h4 := ownsRow_setCell_below h3 (a := ⟨b, 4, none⟩) hb v4
  have h5 := ownsRow_setCell_below h4 (a := ⟨b, 5, none⟩) hb v5
  have h6 := ownsRow_setCell_below h5 (a := ⟨b, 6, none⟩) hb v6
  have h7 := ownsRow_setCell_below h6 (a := ⟨b, 7, none⟩) hb v7
  have h8 := ownsRow_setCell_below h7 (a := ⟨b, 8, none⟩) hb v8
  have h9 := ownsRow_setCell_below h8 (a := ⟨b, 9, none⟩) hb v9
  have h10 := ownsRow_setCell_below h9 (a := ⟨b, 10, none⟩) hb v10
  exact h10
theorem BK.new' (w : World) (t : TypeId) (vs : Array Value) {b : Nat} (h : w.heap.size = b) : BK (w.alloc (.cells vs t)) b t vs := h ▸ BK.new w t vs
theorem BK.newD (w : World) (t : TypeId) (vs : Array Value) {b : Nat} (h : w.heap.size = b) (n : Nat) : BK ((w.drewN n).alloc (.cells vs t)) b t vs := BK.new' (w.drewN n) t vs h
theorem BK.drewN {w : World} {b : Nat} {t : TypeId} {vs : Array Value} (h : BK w b t vs) (n : Nat) : BK (w.drewN n) b t vs := h
theorem BK.low' {w w' : World} {b B : Nat} {t : TypeId} {vs : Array Value} (h : BK w b t vs) (hb : Below B w w') (hl : b < B) : BK w' b t vs := (hb.block b hl).trans h
theorem grown_below {B : Nat} {wr w2 w3 : World} {e : TypeId} {size n : Nat} {sv : Value} {cs : List Value} (h : wr.ownsRow B e size sv n cs) (h2 : Below wr.heap.size wr w2) (hg : w2.grownBy w3 sv.ownBlock) (hB : B ≤ wr.heap.size) : Below B wr w3 :=
  (h2.mono hB).trans (own_old (own_below h h2) hg (Nat.le_trans hB h2.size))
/-- items go into a message, one by one -/
structure BatS (w wr : World) (tN tM tI : TypeId) (NA ZA : Array Value) (g0 g1 g2 g3 g4 g5 g6 g8 : Value) (iv : Value) (acc : List Rf.Item) : Prop where
  own : wr.ownsRow (w.heap.size + 3) tI 2 iv acc.length (its acc)
  msg : BK wr (w.heap.size + 2) tM #[g0, g1, g2, g3, g4, g5, g6, iv, g8]
  node : BK wr w.heap.size tN NA
  res : BK wr (w.heap.size + 1) tM ZA
  bel : Below w.heap.size w wr
  size : w.heap.size + 3 ≤ wr.heap.size
theorem BatS.next {w wr w2 w3 : World} {tN tM tI : TypeId} {NA ZA : Array Value} {g0 g1 g2 g3 g4 g5 g6 g8 iv iv' : Value} {acc : List Rf.Item} {y : Rf.Item} (h : BatS w wr tN tM tI NA ZA g0 g1 g2 g3 g4 g5 g6 g8 iv acc) (h2 : Below wr.heap.size wr w2)
    (ho : w3.ownsRow (w.heap.size + 3) tI 2 iv' (acc.length + 1) (its acc ++ [.int .i64 y.1, .int .i64 y.2])) (hg : w2.grownBy w3 iv.ownBlock) : BatS w (w3.setCell ⟨w.heap.size + 2, 7, none⟩ iv') tN tM tI NA ZA g0 g1 g2 g3 g4 g5 g6 g8 iv' (acc ++ [y]) := by
  have hO2 := own_below h.own h2
  have s2 := h2.size
  have s1 := h.size
  have hb3 : Below (w.heap.size + 3) w2 w3 := own_old hO2 hg (by omega)
  have hb : Below (w.heap.size + 3) wr w3 := (h2.mono (by omega)).trans hb3
  refine ⟨?_, ?_, ?_, ?_, ?_, ?_⟩
  · rw [its_one_more, List.length_append]
    exact ownsRow_setCell_below ho (by show w.heap.size + 2 < _; omega) _
  · have := (h.msg.low' hb (by omega)).set 7 iv'
    simp only [List.setIfInBounds_toArray, List.set_cons_zero, List.set_cons_succ] at this
    exact this
  · exact (h.node.low' hb (by omega)).other _ _ (by show w.heap.size ≠ w.heap.size + 2; omega)
  · exact (h.res.low' hb (by omega)).other _ _ (by show w.heap.size + 1 ≠ w.heap.size + 2; omega)
  · exact (h.bel.trans (hb.mono (by omega))).setCell (by simp) _
  · have := hb.size
    simp [World.setCell]
    omega
/-- a message is told -/
def PostG (w : World) (m : Rf.Msg) (e : Ending) (w' : World) : Prop := ∃ v, e = .returned (.agg v) ∧ GV (Fresh w w') w' v m ∧ Below w.heap.size w w'
theorem PostG.of {w w' : World} {m : Rf.Msg} {v : Array Value} (hb : Below w.heap.size w w') (h : Below w.heap.size w w' → GV (Fresh w w') w' v m) : PostG w m (.returned (.agg v)) w' := ⟨v, rfl, h hb, hb⟩
theorem keepC {w w' : World} {b : Nat} {t : TypeId} {vs : Array Value} (h : BK w b t vs) (hb : Below w.heap.size w w') {j : Nat} {u : Value} (hj : vs[j]? = some u) : w'.cell? ⟨b, j, none⟩ = some u := (h.keep hb).at hj

end Go.Proofs.Ytiplnegiphhdlaa

namespace Go.Proofs.Ytiplnegiphhdlaa.R15
open Go.RowKit

set_option maxHeartbeats 2000000 in
set_option maxRecDepth 100000 in
theorem batch_any (x : Rf.Node) (v : Array Value) (k f : Nat) (w : World) (hv : Nv w v x) (hk : 1 ≤ k) (hkl : k ≤ x.next.length) (hf : x.next[k - 1]? = some (f : Int)) (hf1 : 1 ≤ f) (hf2 : f ≤ x.log.length + 1) (hl : x.log.length ≤ 60) (hn : x.next.length ≤ 5) :
    Calls Try.prog 46 #[.agg v, .int .i64 (k : Int)] w (PostG w (Rf.batch x (k : Int))) := by
  obtain ⟨lv, vv, nv, mv, rfl, h2, h3, h4, h5⟩ := hv
  have H2 := hide h2
  have H4 := hide h4
  obtain ⟨la, LL, lc, rfl, hLL, _, _⟩ := SC.shp h2
  obtain ⟨va, VL, vc, rfl, hVL, _, _⟩ := SC.shp h3
  obtain ⟨na, NL, nc, rfl, hNL, _, _⟩ := SC.shp h4
  obtain ⟨ma, ML, mc, rfl, hML, _, _⟩ := SC.shp h5
  clear h2 h3 h4 h5
  have hgd : x.next.getD (k - 1) 0 = (f : Int) := by simp [List.getD, hf]
  have HBt : Hid (Rf.batch x (k : Int) = { kind := 3, frm := x.id, dest := k, term := x.term, index := ((f - 1 : Nat) : Int), logTerm := Rf.atN x.log (f - 1), commit := x.commit, items := (x.log.drop (f - 1)).take 3, yes := false }) := hide (by
    rw [Rf.batch, show ((k : Int) - 1).toNat = k - 1 by omega, hgd, show ((f : Int) - 1).toNat = f - 1 by omega, show (f : Int) - 1 = ((f - 1 : Nat) : Int) by omega])
  obtain ⟨b, off, cap', e, hbl, _, _⟩ := (unhide H4).ex (by intro e; rw [e] at hf; simp at hf)
  have ena : na = some ⟨b, off, none⟩ := by cases e; rfl
  clear e
  subst ena
  have q0 := (unhide H4).at hf
  have hkl' : ((k - 1 : Nat) : Int) < (NL : Int) := by rw [unhide hNL]; omega
  have hkl2 : k - 1 < NL := by rw [unhide hNL]; omega
  have ek : (k : Int) - 1 = ((k - 1 : Nat) : Int) := by omega
  have ek2 : IntKind.i64.wrap ((k - 1 : Nat) : Int) = ((k - 1 : Nat) : Int) := wrap_i64 (by omega) (by omega)
  have ef : (f : Int) - 1 = ((f - 1 : Nat) : Int) := by omega
  have ef2 : IntKind.i64.wrap ((f - 1 : Nat) : Int) = ((f - 1 : Nat) : Int) := wrap_i64 (by omega) (by omega)
  have bne1 : b ≠ w.heap.size := by omega
  have bne2 : b ≠ w.heap.size + 1 := by omega
  obtain ⟨id, n, term, vote, log, commit, role, boss, votes, next, mtch⟩ := x
  simp only at *
  obtain ⟨W0, hW0⟩ : ∃ W0, W0 = (w.alloc (.cells #[.int .i64 id, .int .i64 n, .int .i64 term, .int .i64 vote, .slice la LL lc, .int .i64 commit, .int .i64 role, .int .i64 boss, .slice va VL vc, .slice (some ⟨b, off, none⟩) NL nc, .slice ma ML mc] 25)).alloc (.cells #[.int .i64 0, .int .i64 0, .int .i64 0, .int .i64 0, .int .i64 0, .int .i64 0, .int .i64 0, .slice none 0 0, .bool false] 49) := ⟨_, rfl⟩
  have HB0 : Hid (Below w.heap.size w W0) := hide (by rw [hW0]; exact (below_new _ _).alloc (by simp) _)
  have HX0 : Hid (BK W0 w.heap.size 25 #[.int .i64 id, .int .i64 n, .int .i64 term, .int .i64 vote, .slice la LL lc, .int .i64 commit, .int .i64 role, .int .i64 boss, .slice va VL vc, .slice (some ⟨b, off, none⟩) NL nc, .slice ma ML mc]) := hide (by rw [hW0]; exact (BK.new w _ _).keep (below_new _ _))
  have HR0 : Hid (BK W0 (w.heap.size + 1) 49 #[.int .i64 0, .int .i64 0, .int .i64 0, .int .i64 0, .int .i64 0, .int .i64 0, .int .i64 0, .slice none 0 0, .bool false]) := hide (by
    rw [hW0]
    have := BK.new (w.alloc (.cells #[.int .i64 id, .int .i64 n, .int .i64 term, .int .i64 vote, .slice la LL lc, .int .i64 commit, .int .i64 role, .int .i64 boss, .slice va VL vc, .slice (some ⟨b, off, none⟩) NL nc, .slice ma ML mc] 25)) 49 #[.int .i64 0, .int .i64 0, .int .i64 0, .int .i64 0, .int .i64 0, .int .i64 0, .int .i64 0, .slice none 0 0, .bool false]
    simpa using this)
  have hS0 : W0.heap.size = w.heap.size + 2 := by rw [hW0]; simp
  go_enter Try.func46, Try.ntmps46
  go_upto_region 2 with fail
  rw [← hW0]
  clear hW0
  have CA := hide (fun wx (hx : Below w.heap.size w wx) => at_any log (.slice la LL lc) (f - 1) wx (TV.keep (kept hx) (unhide H2)))
  obtain ⟨c0, c1, c2, c3, c4, c5, c6, c7, c8, c9, c10⟩ := (show NX W0 w.heap.size _ _ _ _ _ _ _ _ _ _ _ from unhide HX0).tell
  have l0 : w.heap.size < W0.heap.size := by omega
  obtain ⟨LT, hLT⟩ : ∃ z, z = Rf.atN log (f - 1) := ⟨_, rfl⟩
  rw [← hLT] at CA
  have HLT := hide hLT
  clear hLT
  go_cut [6] from 14 (fun p wx => p = .pointer (some ⟨w.heap.size + 2, 0, none⟩) ∧ Hid (wx.heap.size = w.heap.size + 3) ∧ Hid (BK wx (w.heap.size + 2) 49 #[.int .i64 3, .int .i64 id, .int .i64 (k : Int), .int .i64 term, .int .i64 ((f - 1 : Nat) : Int), .int .i64 LT, .int .i64 commit, .slice none 0 0, .bool false]) ∧ Hid (Below W0.heap.size W0 wx))
  case first =>
    clear HX0 HR0 c1 c3 c6 c7 c8 c9 c10
    go_region_held2 (fun w' => w'.cell? ⟨w.heap.size, 0, none⟩ = some (.int .i64 id) ∧ w'.cell? ⟨w.heap.size, 2, none⟩ = some (.int .i64 term) ∧ w'.cell? ⟨w.heap.size, 4, none⟩ = some (.slice la LL lc) ∧ w'.cell? ⟨w.heap.size, 5, none⟩ = some (.int .i64 commit)) (go_keep)
      ((go_at_call 26; with_reducible refine (unhide CA _ (by repeat (first | exact unhide HB0 | apply Below.drew | refine Below.alloc ?_ (by first | omega | (simp; omega)) _))).mono ?_; rintro e w2 ⟨rfl, m2, rfl⟩))
    all_goals go_wp2_with fail
    all_goals go_meet
    all_goals
      refine ⟨rfl, hide (by simp [World.setCell]; omega), hide ?_, hide ?_⟩
      · first
          | with_reducible exact BK.newD W0 _ _ hS0 _
          | with_reducible exact BK.put9 (BK.drewN (BK.new' W0 _ _ hS0) _) _ _ _ _ _ _ _ _ _
          | with_reducible exact BK.put9 (BK.new' (W0.drewN _) _ _ hS0) _ _ _ _ _ _ _ _ _
      · repeat (first | with_reducible exact Below.refl _ _ | with_reducible refine Below.setCell ?_ (by first | omega | (simp; omega)) _ | with_reducible refine below_drewN ?_ _ | with_reducible apply Below.drew | with_reducible refine Below.alloc ?_ (by first | omega | (simp; omega) | simp) _)
  case rest =>
  obtain ⟨rfl, HSz, HG, HBW⟩ := hcut
  clear c0 c1 c2 c3 c4 c5 c6 c7 c8 c9 c10 CA q0 hkl' hkl2 ek ek2 bne1 bne2 l0
  have hTS : Hid (BatS w wc 25 49 58 #[.int .i64 id, .int .i64 n, .int .i64 term, .int .i64 vote, .slice la LL lc, .int .i64 commit, .int .i64 role, .int .i64 boss, .slice va VL vc, .slice (some ⟨b, off, none⟩) NL nc, .slice ma ML mc] #[.int .i64 0, .int .i64 0, .int .i64 0, .int .i64 0, .int .i64 0, .int .i64 0, .int .i64 0, .slice none 0 0, .bool false] (.int .i64 3) (.int .i64 id) (.int .i64 (k : Int)) (.int .i64 term) (.int .i64 ((f - 1 : Nat) : Int)) (.int .i64 LT) (.int .i64 commit) (.bool false) (.slice none 0 0) []) :=
    hide ⟨World.ownsRow_nil _ _ _ _, unhide HG, (unhide HX0).keep (unhide HBW), (unhide HR0).keep (unhide HBW), below_via (unhide HB0) (unhide HBW), by rw [unhide HSz]; omega⟩
  clear HG HX0 HR0 HB0 HBW HSz hS0
  have hfb : (f : Int) ≤ 61 := by omega
  have HfL : Hid (f - 1 ≤ log.length) := hide (by omega)
  have hLb : (LL : Int) ≤ 60 := by rw [unhide hLL]; omega
  obtain ⟨i0, I0, I1, I2, I3⟩ := info_parts info_T
  have I0' := hide I0
  have I1' := hide I1
  have I2' := hide I2
  have I3' := hide I3
  clear I0 I1 I2 I3
  have Hf := hide (And.intro hf (And.intro hgd (And.intro hl (And.intro hf2 hn))))
  clear hf hgd hl hf2 hn hkl
  go_wp2_with fail
  go_loopw [7] (fun i wr => ∃ (p : Nat) (iv : Value), i = .int .i64 (p : Int) ∧ (f : Int) ≤ (p : Int) ∧ (p : Int) ≤ 64 ∧ Hid (p ≤ f + 3) ∧ Hid (p - 1 ≤ log.length) ∧ Hid (BatS w wr 25 49 58 #[.int .i64 id, .int .i64 n, .int .i64 term, .int .i64 vote, .slice la LL lc, .int .i64 commit, .int .i64 role, .int .i64 boss, .slice va VL vc, .slice (some ⟨b, off, none⟩) NL nc, .slice ma ML mc] #[.int .i64 0, .int .i64 0, .int .i64 0, .int .i64 0, .int .i64 0, .int .i64 0, .int .i64 0, .slice none 0 0, .bool false] (.int .i64 3) (.int .i64 id) (.int .i64 (k : Int)) (.int .i64 term) (.int .i64 ((f - 1 : Nat) : Int)) (.int .i64 LT) (.int .i64 commit) (.bool false) iv ((log.drop (f - 1)).take (p - f)))) (fun i _ => f + 3 - (intOf i).toNat)
  case atStart => exact ⟨f, _, rfl, by omega, by omega, hide (by omega), HfL, by rw [Nat.sub_self, List.take_zero]; exact hTS⟩
  case round =>
    obtain ⟨p, iv, rfl, p1, p2, HP3, HP4, HT⟩ := hrel
    clear hTS
    have acl : ((log.drop (f - 1)).take (p - f)).length = p - f := by rw [List.length_take, List.length_drop]; have := unhide HP4; omega
    obtain ⟨ia, ic, rfl⟩ : ∃ a cap, iv = .slice a (p - f) cap := by
      have := SC.shape (SC.own (unhide HT).own)
      rw [acl] at this
      obtain ⟨a, cap, h, _⟩ := this
      exact ⟨a, cap, h⟩
    obtain ⟨c0, c1, c2, c3, c4, c5, c6, c7, c8, c9, c10⟩ := (show NX wr w.heap.size _ _ _ _ _ _ _ _ _ _ _ from (unhide HT).node).tell
    obtain ⟨g0, g1, g2, g3, g4, g5, g6, g7, g8⟩ := (show GX wr (w.heap.size + 2) _ _ _ _ _ _ _ _ _ from (unhide HT).msg).tell
    have g7f := (unhide HT).msg.thaw 7
    have sz := (unhide HT).size
    have FIN : Hid ((log.drop (f - 1)).take (p - f) = (log.drop (f - 1)).take 3 → PostG w (Rf.batch ⟨id, n, term, vote, log, commit, role, boss, votes, next, mtch⟩ (k : Int)) (.returned (.agg #[.int .i64 3, .int .i64 id, .int .i64 (k : Int), .int .i64 term, .int .i64 ((f - 1 : Nat) : Int), .int .i64 LT, .int .i64 commit, .slice ia (p - f) ic, .bool false])) (put9 wr (w.heap.size + 1) (.int .i64 3) (.int .i64 id) (.int .i64 (k : Int)) (.int .i64 term) (.int .i64 ((f - 1 : Nat) : Int)) (.int .i64 LT) (.int .i64 commit) (.slice ia (p - f) ic) (.bool false))) := hide (fun e => by
      rw [unhide HBt]
      refine PostG.of (below_put9 (unhide HT).bel (by omega)) fun _ => ⟨_, by rw [unhide HLT], ?_⟩
      have := SC.own' (own_put9 (b := w.heap.size + 1) (v0 := .int .i64 3) (v1 := .int .i64 id) (v2 := .int .i64 (k : Int)) (v3 := .int .i64 term) (v4 := .int .i64 ((f - 1 : Nat) : Int)) (v5 := .int .i64 LT) (v6 := .int .i64 commit) (v7 := .slice ia (p - f) ic) (v8 := .bool false) (unhide HT).own (by omega))
      rw [e] at this
      exact SC.keep (fun b hb => ⟨⟨by have := hb.1; omega, hb.2⟩, rfl⟩) this)
    by_cases k1 : (p : Int) < (f : Int) + 3
    · by_cases k2 : (p : Int) ≤ (LL : Int)
      · have k3 : p - 1 < log.length := by have := unhide hLL; omega
        obtain ⟨y, hy⟩ : ∃ y, log[p - 1]? = some y := ⟨_, List.getElem?_eq_getElem k3⟩
        obtain ⟨lb, lo, cap', e, hlb, _, _⟩ := (unhide H2).ex (by intro e; rw [e] at k3; simp at k3)
        have ela : la = some ⟨lb, lo, none⟩ := by cases e; rfl
        clear e FIN
        subst ela
        obtain ⟨y0, y1⟩ := (TV.keep (kept (unhide HT).bel) (unhide H2)).at hy
        have ep : (p : Int) - 1 = ((p - 1 : Nat) : Int) := by omega
        have ep2 : IntKind.i64.wrap ((p - 1 : Nat) : Int) = ((p - 1 : Nat) : Int) := wrap_i64 (by omega) (by omega)
        have ep3 : ((p - 1 : Nat) : Int) < (LL : Int) := by omega
        have ep4 : p - 1 < LL := by omega
        have HAc : Hid ((log.drop (f - 1)).take (p + 1 - f) = (log.drop (f - 1)).take (p - f) ++ [y]) := hide (by
          rw [show p + 1 - f = (p - f) + 1 by omega, List.take_add_one, List.getElem?_drop, show f - 1 + (p - f) = p - 1 by omega, hy]
          rfl)
        have HO : Hid (wr.ownsRow (w.heap.size + 3) 58 2 (.slice ia (p - f) ic) (p - f) (its ((log.drop (f - 1)).take (p - f)))) := hide (by have := (unhide HT).own; rwa [acl] at this)
        have HAl := hide acl
        have HY := hide (And.intro k3 hy)
        have pf4 : p - f ≤ 3 := by omega
        have z0 : w.heap.size < wr.heap.size := by omega
        have z2 : w.heap.size + 2 < wr.heap.size := by omega
        have z3 : lb < wr.heap.size := by omega
        clear k3 hy acl
        go_wp2_with fail
        go_region_law (first
          | (refine step_append_own_at rfl _ _ 22 rfl (w.heap.size + 3) 58 i0 (.agg #[.int .i64 0, .int .i64 0]) 2 16 Try.underlying22 (unhide I0') (unhide I1') (unhide I2') (unhide I3') rfl (by decide) _ (p - f) (its ((log.drop (f - 1)).take (p - f))) rfl (by first | exact (unhide HO).drew.alloc _ | exact ((unhide HO).alloc _).drew) ⟨wr.heap.size, 0, none⟩ 1 1 [.int .i64 y.1, .int .i64 y.2] rfl rfl (cell_two_new _ _ _ _) (one_two _ _) (by unfold maxLen; omega) (by omega) (by simp; omega) ?_
             intro v3 w3 hown hgrow hat
             obtain ⟨gg, cc, rfl, hg1, hg2, _⟩ := own_slice hown (by omega)
             have bb := grown_below (unhide HO) (by repeat (first | with_reducible exact Below.refl _ _ | with_reducible apply Below.drew | with_reducible refine Below.alloc ?_ (by simp) _)) hgrow (by omega)
             have m3 := (unhide HT).msg.low' bb (by omega)
             have g7n := m3.at (j := 7) rfl
             have g7m := m3.thaw 7
             have l3 := m3.low))
        all_goals
          have HN := hide ((unhide HT).next (by repeat (first | with_reducible exact Below.refl _ _ | with_reducible apply Below.drew | with_reducible refine Below.alloc ?_ (by simp) _)) (by rw [unhide HAl]; exact hown) hgrow)
          clear hown hgrow hat bb m3 g7n g7m HO HT
          go_wp2
          go_roundw
          case rel => exact ⟨p + 1, _, by go_num, by omega, by omega, hide (by omega), hide (by have := (unhide HY).1; omega), by rw [unhide HAc]; exact HN⟩
          case measure => simp [intOf]; omega
      · replace FIN := hide (unhide FIN (by
          have e1 : (log.drop (f - 1)).length ≤ p - f := by rw [List.length_drop, ← unhide hLL]; have := unhide HP4; omega
          rw [List.take_of_length_le e1, List.take_of_length_le (by omega)]))
        obtain ⟨r0, r1, r2, r3, r4, r5, r6, r7, r8⟩ := (show GX wr (w.heap.size + 1) _ _ _ _ _ _ _ _ _ from (unhide HT).res).tell
        obtain ⟨t0, t1, t2, t3, t4, t5, t6, t7, t8, t9, t10⟩ := (unhide HT).res.thaw11
        clear HT acl HP3 HP4
        go_wp2
        exact bodyPost_ret (v := .agg #[.int .i64 3, .int .i64 id, .int .i64 (k : Int), .int .i64 term, .int .i64 ((f - 1 : Nat) : Int), .int .i64 LT, .int .i64 commit, .slice ia (p - f) ic, .bool false]) (by simp [results, Try.results46, go_sem, r0, r1, r2, r3, r4, r5, r6, r7, r8]) rfl (unhide FIN)
    · replace FIN := hide (unhide FIN (by rw [show p - f = 3 by have := unhide HP3; omega]))
      obtain ⟨r0, r1, r2, r3, r4, r5, r6, r7, r8⟩ := (show GX wr (w.heap.size + 1) _ _ _ _ _ _ _ _ _ from (unhide HT).res).tell
      obtain ⟨t0, t1, t2, t3, t4, t5, t6, t7, t8, t9, t10⟩ := (unhide HT).res.thaw11
      clear HT acl HP3 HP4
      go_wp2
      exact bodyPost_ret (v := .agg #[.int .i64 3, .int .i64 id, .int .i64 (k : Int), .int .i64 term, .int .i64 ((f - 1 : Nat) : Int), .int .i64 LT, .int .i64 commit, .slice ia (p - f) ic, .bool false]) (by simp [results, Try.results46, go_sem, r0, r1, r2, r3, r4, r5, r6, r7, r8]) rfl (unhide FIN)

end Go.Proofs.Ytiplnegiphhdlaa.R15
