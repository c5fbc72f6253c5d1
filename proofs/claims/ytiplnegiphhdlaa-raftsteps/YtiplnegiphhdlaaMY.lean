/- Nodes and messages that came in. -/
import Derived.Test.YtiplnegiphhdlaaMA
import Derived.SizedLaws
namespace Go.Proofs.Ytiplnegiphhdlaa
open Go.ChangeShapes Go.WideShapes Go.ChangeAt Go.RowKit Go.Joins

theorem cellsN : Try.prog.cellsOf 25 = 11 := by kernel_rfl
theorem cellsM : Try.prog.cellsOf 49 = 9 := by kernel_rfl
theorem cellsT : Try.prog.cellsOf 58 = 2 := by kernel_rfl
theorem cellsInt : Try.prog.cellsOf 3 = 1 := by kernel_rfl
theorem cellsBool : Try.prog.cellsOf 4 = 1 := by kernel_rfl
theorem cellsTs : Try.prog.cellsOf 22 = 1 := by kernel_rfl
theorem cellsIs : Try.prog.cellsOf 23 = 1 := by kernel_rfl
theorem bytesInt : Try.prog.bytesOf 3 = 8 := by kernel_rfl
theorem bytesT : Try.prog.bytesOf 58 = 16 := by kernel_rfl
theorem laidOutT : laidOutB Try.prog = true := by kernel_rfl
theorem cell_spotT {w : World} {a : Addr} {v : Value} (h : w.cell? a = some v) : a.spot = none := by
  unfold World.cell? at h
  split at h
  · by_cases e : a.spot.isSome = true
    · rw [if_pos e] at h; cases h
    · simpa using e
  · cases h
theorem cells1 {w : World} {base : Nat} {a : Addr} {cs : List Value} (h : w.cells? base a 1 = some cs) : a.spot = none ∧ a.block < w.heap.size ∧ ∃ c, cs = [c] ∧ w.cell? ⟨a.block, a.off, none⟩ = some c := by
  unfold World.cells? at h
  split at h
  case isFalse => cases h
  simp only [show List.range 1 = [0] from rfl, List.mapM_cons, List.mapM_nil, Option.bind_eq_bind, Option.pure_def, Option.bind_eq_some_iff] at h
  obtain ⟨c0, h0, r1, q1, hcs⟩ := h
  cases q1
  have hs : a.spot = none := by
    have := cell_spotT h0
    simpa [Addr.add] using this
  have hb : a.block < w.heap.size := by
    have := World.block_lt_of_cell? w _ h0
    simpa [Addr.add] using this
  obtain ⟨b, o, sp⟩ := a
  simp only at hs
  subst hs
  simp only [Option.some.injEq] at hcs
  subst hcs
  exact ⟨rfl, hb, c0, rfl, by simpa [Addr.add] using h0⟩
theorem cells2 {w : World} {base : Nat} {a : Addr} {cs : List Value} (h : w.cells? base a 2 = some cs) : a.spot = none ∧ a.block < w.heap.size ∧ ∃ c d, cs = [c, d] ∧ w.cell? ⟨a.block, a.off, none⟩ = some c ∧ w.cell? ⟨a.block, a.off + 1, none⟩ = some d := by
  unfold World.cells? at h
  split at h
  case isFalse => cases h
  simp only [show List.range 2 = [0, 1] from rfl, List.mapM_cons, List.mapM_nil, Option.bind_eq_bind, Option.pure_def, Option.bind_eq_some_iff] at h
  obtain ⟨c0, h0, r1, ⟨c1, h1, r2, q2, q1⟩, hcs⟩ := h
  cases q2
  cases q1
  have hs : a.spot = none := by
    have := cell_spotT h0
    simpa [Addr.add] using this
  have hb : a.block < w.heap.size := by
    have := World.block_lt_of_cell? w _ h0
    simpa [Addr.add] using this
  obtain ⟨b, o, sp⟩ := a
  simp only at hs
  subst hs
  simp only [Option.some.injEq] at hcs
  subst hcs
  exact ⟨rfl, hb, c0, c1, rfl, by simpa [Addr.add] using h0, by simpa [Addr.add] using h1⟩
theorem choose_listT {α : Type} {P : Nat → α → Prop} : ∀ (n : Nat), (∀ i, i < n → ∃ x, P i x) → ∃ l : List α, l.length = n ∧ ∀ i x, l[i]? = some x → P i x := by
  intro n
  induction n with
  | zero => intro _; exact ⟨[], rfl, fun i x h => by simp at h⟩
  | succ n ih =>
    intro h
    obtain ⟨l, hl, hp⟩ := ih (fun i hi => h i (by omega))
    obtain ⟨x, hx⟩ := h n (by omega)
    refine ⟨l ++ [x], by simp [hl], fun i y hy => ?_⟩
    rcases Nat.lt_or_ge i n with hi | hi
    · rw [List.getElem?_append_left (by omega)] at hy
      exact hp i y hy
    · rw [List.getElem?_append_right (by omega)] at hy
      have : i = n := by
        rcases Nat.eq_or_lt_of_le hi with e | e
        · exact e.symm
        · rw [List.getElem?_eq_none (by simp; omega)] at hy; cases hy
      subst this
      simp [hl] at hy
      rw [← hy]; exact hx
theorem ints_ex {l : List Int} {j : Nat} {u : Value} (h : (ints l)[j]? = some u) : ∃ x, l[j]? = some x ∧ u = .int .i64 x := by
  rw [ints, List.getElem?_map] at h
  cases e : l[j]? with
  | none => rw [e] at h; cases h
  | some x => rw [e] at h; cases h; exact ⟨x, rfl, rfl⟩
theorem its_ex : ∀ {l : List Rf.Item} {j : Nat} {u : Value}, (its l)[j]? = some u → ∃ x, l[j / 2]? = some x ∧ u = (if j % 2 = 0 then .int .i64 x.1 else .int .i64 x.2)
  | [], j, u, h => by simp [its] at h
  | y :: l, 0, u, h => by simp [its] at h; exact ⟨y, by simp, by simp [h]⟩
  | y :: l, 1, u, h => by simp [its] at h; exact ⟨y, by simp, by simp [h]⟩
  | y :: l, j + 2, u, h => by
    have e : its (y :: l) = [.int .i64 y.1, .int .i64 y.2] ++ its l := by simp [its]
    rw [e, List.getElem?_append_right (by simp)] at h
    obtain ⟨x, h1, h2⟩ := its_ex (l := l) (j := j) (by simpa using h)
    refine ⟨x, ?_, ?_⟩
    · rw [show (j + 2) / 2 = j / 2 + 1 by omega]
      simpa using h1
    · rw [show (j + 2) % 2 = j % 2 by omega]
      exact h2

section
variable {H : Type} {enc : TypeId × Value → H} {w : World} {base : Nat} {spare : Nat → Bool} {held : Bool}
set_option maxRecDepth 100000 in
theorem ints_of {fuel : Nat} {c : Value} {x : DataW H × List MemPlace} (h : DataW.trod enc Try.prog w base spare held fuel 23 [c] = some x) : ∃ l, Iv w c l ∧ ((∀ n ∈ x.1.weights Try.prog 23, n ≤ reachBytes) → l.length * 8 ≤ reachBytes) := by
  rcases DataW.trod_slice Try.underlying23 h with ⟨e5, _⟩ | ⟨a, len, cap, elems, rest, n', hn', e5, hx, _, hlc, hm, hel, hat, _⟩
  · simp at e5
    subst e5
    exact ⟨[], SC.nil _ _ _, fun _ => by simp⟩
  · simp at e5
    subst e5
    have each : ∀ i, i < len → ∃ z : Int, ∃ cs', w.cells? base (a.add (i * 1)) 1 = some cs' ∧ cs' = [.int .i64 z] := by
      intro i hi
      have := hat i hi
      rw [cellsInt, List.getElem?_eq_getElem (by omega), Option.bind_eq_some_iff] at this
      obtain ⟨cs', hc, ht2⟩ := this
      obtain ⟨z, e, _⟩ := DataW.trod_int Try.underlying3 ht2
      exact ⟨z, cs', hc, e⟩
    obtain ⟨l, hl, hp⟩ := choose_listT len each
    have hm' : cap ≤ 9223372036854775807 := by unfold maxLen at hm; omega
    have hb : (∀ n ∈ x.1.weights Try.prog 23, n ≤ reachBytes) → l.length * 8 ≤ reachBytes := by
      intro hw
      have := hw ((elems.length + rest.length) * 8) (by rw [hx]; simp [DataW.weights, Try.underlying23, bytesInt])
      omega
    refine ⟨l, ⟨by simp [ints], _, cap, by rw [hl], by omega, hm', fun hne => ?_⟩, hb⟩
    obtain ⟨_, cs0, hc0, _⟩ := each 0 (by omega)
    simp only [Nat.zero_mul] at hc0
    have h00 : a.add 0 = a := rfl
    rw [h00] at hc0
    obtain ⟨hsp, hblk, _⟩ := cells1 hc0
    obtain ⟨b, off, sp⟩ := a
    simp only at hsp hblk
    subst hsp
    refine ⟨b, off, rfl, hblk, fun j u hj => ?_⟩
    obtain ⟨z, hz, rfl⟩ := ints_ex hj
    obtain ⟨cs', hc, hM⟩ := hp j z hz
    rw [Nat.mul_one, Addr.add_lit] at hc
    obtain ⟨_, _, c, e1, e2⟩ := cells1 hc
    rw [hM] at e1
    rw [e2, ← (List.cons.inj e1).1]
set_option maxRecDepth 100000 in
theorem items_of {fuel : Nat} {c : Value} {x : DataW H × List MemPlace} (h : DataW.trod enc Try.prog w base spare held fuel 22 [c] = some x) : ∃ l, Tv w c l ∧ ((∀ n ∈ x.1.weights Try.prog 22, n ≤ reachBytes) → l.length * 16 ≤ reachBytes) := by
  rcases DataW.trod_slice Try.underlying22 h with ⟨e5, _⟩ | ⟨a, len, cap, elems, rest, n', hn', e5, hx, _, hlc, hm, hel, hat, _⟩
  · simp at e5
    subst e5
    exact ⟨[], SC.nil _ _ _, fun _ => by simp⟩
  · simp at e5
    subst e5
    have each : ∀ i, i < len → ∃ z : Rf.Item, ∃ cs', w.cells? base (a.add (i * 2)) 2 = some cs' ∧ cs' = [.int .i64 z.1, .int .i64 z.2] := by
      intro i hi
      have := hat i hi
      rw [cellsT, List.getElem?_eq_getElem (by omega), Option.bind_eq_some_iff] at this
      obtain ⟨cs', hc, ht2⟩ := this
      obtain ⟨xs, n, hn, hx, hl, hlen, hf⟩ := DataW.trod_struct Try.underlying58 ht2
      obtain ⟨_, _, c0, c1, rfl, _, _⟩ := cells2 hc
      have h0 := hf 0 _ rfl
      have h1 := hf 1 _ rfl
      simp [cellsInt] at h0 h1
      obtain ⟨y0, y1, rfl⟩ : ∃ y0 y1, xs = [y0, y1] := by
        match xs, hlen with
        | [y0, y1], _ => exact ⟨y0, y1, rfl⟩
      simp at h0 h1
      obtain ⟨z0, e0, _⟩ := DataW.trod_int Try.underlying3 h0
      obtain ⟨z1, e1, _⟩ := DataW.trod_int Try.underlying3 h1
      simp at e0 e1
      subst e0 e1
      exact ⟨(z0, z1), _, hc, rfl⟩
    obtain ⟨l, hl, hp⟩ := choose_listT len each
    have hm' : cap ≤ 9223372036854775807 := by unfold maxLen at hm; omega
    have hb : (∀ n ∈ x.1.weights Try.prog 22, n ≤ reachBytes) → l.length * 16 ≤ reachBytes := by
      intro hw
      have := hw ((elems.length + rest.length) * 16) (by rw [hx]; simp [DataW.weights, Try.underlying22, bytesT])
      omega
    refine ⟨l, ⟨its_len l, _, cap, by rw [hl], by omega, hm', fun hne => ?_⟩, hb⟩
    obtain ⟨_, cs0, hc0, _⟩ := each 0 (by omega)
    simp only [Nat.zero_mul] at hc0
    have h00 : a.add 0 = a := rfl
    rw [h00] at hc0
    obtain ⟨hsp, hblk, _⟩ := cells2 hc0
    obtain ⟨b, off, sp⟩ := a
    simp only at hsp hblk
    subst hsp
    refine ⟨b, off, rfl, hblk, fun j u hj => ?_⟩
    obtain ⟨z, hz, rfl⟩ := its_ex hj
    obtain ⟨cs', hc, hM⟩ := hp (j / 2) z hz
    rw [Addr.add_lit] at hc
    obtain ⟨_, _, c, d, e1, e2, e3⟩ := cells2 hc
    rw [hM] at e1
    simp only [List.cons.injEq, and_true] at e1
    obtain ⟨rfl, rfl⟩ := e1
    simp only at e2 e3
    split
    · rw [← e2]; congr 2; omega
    · rw [← e3]; congr 2; omega
set_option maxRecDepth 100000 in
theorem node_value {r : Reach} {b0 : Nat} {v : Value} {d : DataW H} {p : List MemPlace} (hv : Value.okWide Try.prog w r b0 25 v) (h : DataW.Trod enc Try.prog w base spare held 25 v d p) :
    ∃ (x : Rf.Node) (u : Array Value), v = .agg u ∧ Nv w u x ∧ ((∀ n ∈ d.weights Try.prog 25, n ≤ reachBytes) → x.log.length * 16 ≤ reachBytes ∧ x.votes.length * 8 ≤ reachBytes ∧ x.next.length * 8 ≤ reachBytes ∧ x.mtch.length * 8 ≤ reachBytes) := by
  obtain ⟨cs, rfl, hsz⟩ := okWide_struct Try.underlying25 hv
  obtain ⟨fuel, hf⟩ := h
  obtain ⟨xs, k, hk, hx, hl, hlen, hf⟩ := DataW.trod_struct Try.underlying25 hf
  rw [cellsN] at hl
  obtain ⟨z0, z1, z2, z3, z4, z5, z6, z7, z8, z9, z10, rfl⟩ : ∃ z0 z1 z2 z3 z4 z5 z6 z7 z8 z9 z10, cs = #[z0, z1, z2, z3, z4, z5, z6, z7, z8, z9, z10] := by
    obtain ⟨l⟩ := cs
    match l, hl with
    | [z0, z1, z2, z3, z4, z5, z6, z7, z8, z9, z10], _ => exact ⟨z0, z1, z2, z3, z4, z5, z6, z7, z8, z9, z10, rfl⟩
  obtain ⟨y0, y1, y2, y3, y4, y5, y6, y7, y8, y9, y10, rfl⟩ : ∃ y0 y1 y2 y3 y4 y5 y6 y7 y8 y9 y10, xs = [y0, y1, y2, y3, y4, y5, y6, y7, y8, y9, y10] := by
    match xs, hlen with
    | [y0, y1, y2, y3, y4, y5, y6, y7, y8, y9, y10], _ => exact ⟨y0, y1, y2, y3, y4, y5, y6, y7, y8, y9, y10, rfl⟩
  have h0 := hf 0 _ rfl
  have h1 := hf 1 _ rfl
  have h2 := hf 2 _ rfl
  have h3 := hf 3 _ rfl
  have h4 := hf 4 _ rfl
  have h5 := hf 5 _ rfl
  have h6 := hf 6 _ rfl
  have h7 := hf 7 _ rfl
  have h8 := hf 8 _ rfl
  have h9 := hf 9 _ rfl
  have h10 := hf 10 _ rfl
  simp [Value.cells, cellsInt, cellsTs, cellsIs] at h0 h1 h2 h3 h4 h5 h6 h7 h8 h9 h10
  obtain ⟨w0, e0, _⟩ := DataW.trod_int Try.underlying3 h0
  simp at e0
  subst e0
  obtain ⟨w1, e1, _⟩ := DataW.trod_int Try.underlying3 h1
  simp at e1
  subst e1
  obtain ⟨w2, e2, _⟩ := DataW.trod_int Try.underlying3 h2
  simp at e2
  subst e2
  obtain ⟨w3, e3, _⟩ := DataW.trod_int Try.underlying3 h3
  simp at e3
  subst e3
  obtain ⟨w4, k4, b4⟩ := items_of h4
  obtain ⟨w5, e5, _⟩ := DataW.trod_int Try.underlying3 h5
  simp at e5
  subst e5
  obtain ⟨w6, e6, _⟩ := DataW.trod_int Try.underlying3 h6
  simp at e6
  subst e6
  obtain ⟨w7, e7, _⟩ := DataW.trod_int Try.underlying3 h7
  simp at e7
  subst e7
  obtain ⟨w8, k8, b8⟩ := ints_of h8
  obtain ⟨w9, k9, b9⟩ := ints_of h9
  obtain ⟨w10, k10, b10⟩ := ints_of h10
  refine ⟨⟨w0, w1, w2, w3, w4, w5, w6, w7, w8, w9, w10⟩, _, rfl, ⟨_, _, _, _, rfl, k4, k8, k9, k10⟩, fun hw => ?_⟩
  have hd : d = .agg [y0.1, y1.1, y2.1, y3.1, y4.1, y5.1, y6.1, y7.1, y8.1, y9.1, y10.1] := congrArg Prod.fst hx
  rw [hd] at hw
  simp only [DataW.weights, Try.underlying25] at hw
  exact ⟨b4 fun n hn => hw n (DataW.weights_mem_each (j := 4) rfl rfl n hn), b8 fun n hn => hw n (DataW.weights_mem_each (j := 8) rfl rfl n hn), b9 fun n hn => hw n (DataW.weights_mem_each (j := 9) rfl rfl n hn), b10 fun n hn => hw n (DataW.weights_mem_each (j := 10) rfl rfl n hn)⟩
set_option maxRecDepth 100000 in
theorem msg_value {r : Reach} {b0 : Nat} {v : Value} {d : DataW H} {p : List MemPlace} (hv : Value.okWide Try.prog w r b0 49 v) (h : DataW.Trod enc Try.prog w base spare held 49 v d p) :
    ∃ (m : Rf.Msg) (u : Array Value), v = .agg u ∧ Gv w u m ∧ ((∀ n ∈ d.weights Try.prog 49, n ≤ reachBytes) → m.items.length * 16 ≤ reachBytes) := by
  obtain ⟨cs, rfl, hsz⟩ := okWide_struct Try.underlying49 hv
  obtain ⟨fuel, hf⟩ := h
  obtain ⟨xs, k, hk, hx, hl, hlen, hf⟩ := DataW.trod_struct Try.underlying49 hf
  rw [cellsM] at hl
  obtain ⟨z0, z1, z2, z3, z4, z5, z6, z7, z8, rfl⟩ : ∃ z0 z1 z2 z3 z4 z5 z6 z7 z8, cs = #[z0, z1, z2, z3, z4, z5, z6, z7, z8] := by
    obtain ⟨l⟩ := cs
    match l, hl with
    | [z0, z1, z2, z3, z4, z5, z6, z7, z8], _ => exact ⟨z0, z1, z2, z3, z4, z5, z6, z7, z8, rfl⟩
  obtain ⟨y0, y1, y2, y3, y4, y5, y6, y7, y8, rfl⟩ : ∃ y0 y1 y2 y3 y4 y5 y6 y7 y8, xs = [y0, y1, y2, y3, y4, y5, y6, y7, y8] := by
    match xs, hlen with
    | [y0, y1, y2, y3, y4, y5, y6, y7, y8], _ => exact ⟨y0, y1, y2, y3, y4, y5, y6, y7, y8, rfl⟩
  have h0 := hf 0 _ rfl
  have h1 := hf 1 _ rfl
  have h2 := hf 2 _ rfl
  have h3 := hf 3 _ rfl
  have h4 := hf 4 _ rfl
  have h5 := hf 5 _ rfl
  have h6 := hf 6 _ rfl
  have h7 := hf 7 _ rfl
  have h8 := hf 8 _ rfl
  simp [Value.cells, cellsInt, cellsTs, cellsBool] at h0 h1 h2 h3 h4 h5 h6 h7 h8
  obtain ⟨w0, e0, _⟩ := DataW.trod_int Try.underlying3 h0
  simp at e0
  subst e0
  obtain ⟨w1, e1, _⟩ := DataW.trod_int Try.underlying3 h1
  simp at e1
  subst e1
  obtain ⟨w2, e2, _⟩ := DataW.trod_int Try.underlying3 h2
  simp at e2
  subst e2
  obtain ⟨w3, e3, _⟩ := DataW.trod_int Try.underlying3 h3
  simp at e3
  subst e3
  obtain ⟨w4, e4, _⟩ := DataW.trod_int Try.underlying3 h4
  simp at e4
  subst e4
  obtain ⟨w5, e5, _⟩ := DataW.trod_int Try.underlying3 h5
  simp at e5
  subst e5
  obtain ⟨w6, e6, _⟩ := DataW.trod_int Try.underlying3 h6
  simp at e6
  subst e6
  obtain ⟨w7, k7, b7⟩ := items_of h7
  obtain ⟨w8, e8, _⟩ := DataW.trod_bool Try.underlying4 h8
  simp at e8
  subst e8
  refine ⟨⟨w0, w1, w2, w3, w4, w5, w6, w7, w8⟩, _, rfl, ⟨_, rfl, k7⟩, fun hw => ?_⟩
  have hd : d = .agg [y0.1, y1.1, y2.1, y3.1, y4.1, y5.1, y6.1, y7.1, y8.1] := congrArg Prod.fst hx
  rw [hd] at hw
  simp only [DataW.weights, Try.underlying49] at hw
  exact b7 fun n hn => hw n (DataW.weights_mem_each (j := 7) rfl rfl n hn)
end

end Go.Proofs.Ytiplnegiphhdlaa
