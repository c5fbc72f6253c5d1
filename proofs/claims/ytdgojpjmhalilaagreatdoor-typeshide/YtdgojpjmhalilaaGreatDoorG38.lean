/- An expression, a variable, a list of variables that came in. -/
import Derived.Test.YtdgojpjmhalilaaGreatDoorG35
import Derived.Test.YtdgojpjmhalilaaGreatDoorG30
import Derived.Test.YtdgojpjmhalilaaGreatDoorG26
namespace Go.Proofs.YtdgojpjmhalilaaGreatDoor
open Go.ChangeShapes Go.WideShapes Go.ChangeAt Go.RowKit Go.Joins

theorem cellsExpr : Tryz.prog.cellsOf 29 = 9 := by kernel_rfl
theorem cellsExprs : Tryz.prog.cellsOf 27 = 1 := by kernel_rfl
theorem cellsVar : Tryz.prog.cellsOf 35 = 3 := by kernel_rfl

theorem array9 {α : Type} {cs : Array α} (h : cs.size = 9) : ∃ c0 c1 c2 c3 c4 c5 c6 c7 c8, cs = #[c0, c1, c2, c3, c4, c5, c6, c7, c8] := by
  obtain ⟨l⟩ := cs
  match l, h with
  | [c0, c1, c2, c3, c4, c5, c6, c7, c8], _ => exact ⟨c0, c1, c2, c3, c4, c5, c6, c7, c8, rfl⟩
theorem array3 {α : Type} {cs : Array α} (h : cs.size = 3) : ∃ c0 c1 c2, cs = #[c0, c1, c2] := by
  obtain ⟨l⟩ := cs
  match l, h with
  | [c0, c1, c2], _ => exact ⟨c0, c1, c2, rfl⟩
theorem list4 {α : Type} {l : List α} (h : l.length = 4) : ∃ c0 c1 c2 c3, l = [c0, c1, c2, c3] := by
  match l, h with
  | [c0, c1, c2, c3], _ => exact ⟨c0, c1, c2, c3, rfl⟩

theorem cells9 {w : World} {base : Nat} {a : Addr} {cs : List Value} (h : w.cells? base a 9 = some cs) : a.spot = none ∧ a.block < w.heap.size ∧ Nine w a.block a.off cs.toArray := by
  unfold World.cells? at h
  split at h
  case isFalse => cases h
  simp only [show List.range 9 = [0, 1, 2, 3, 4, 5, 6, 7, 8] from rfl, List.mapM_cons, List.mapM_nil, Option.bind_eq_bind, Option.pure_def, Option.bind_eq_some_iff] at h
  obtain ⟨c0, h0, r1, ⟨c1, h1, r2, ⟨c2, h2, r3, ⟨c3, h3, r4, ⟨c4, h4, r5, ⟨c5, h5, r6, ⟨c6, h6, r7, ⟨c7, h7, r8, ⟨c8, h8, r9, q9, q8⟩, q7⟩, q6⟩, q5⟩, q4⟩, q3⟩, q2⟩, q1⟩, hcs⟩ := h
  cases q9
  cases q8
  cases q7
  cases q6
  cases q5
  cases q4
  cases q3
  cases q2
  cases q1
  have hs : a.spot = none := by
    have := cell_spot h0
    simpa [Addr.add] using this
  have hb : a.block < w.heap.size := by
    have := World.block_lt_of_cell? w _ h0
    simpa [Addr.add] using this
  obtain ⟨b, o, sp⟩ := a
  simp only at hs
  subst hs
  simp only [Option.some.injEq] at hcs
  subst hcs
  refine ⟨rfl, hb, c0, c1, c2, c3, c4, c5, c6, c7, c8, rfl, ?_, ?_, ?_, ?_, ?_, ?_, ?_, ?_, ?_⟩
  · simpa [Addr.add] using h0
  · simpa [Addr.add] using h1
  · simpa [Addr.add] using h2
  · simpa [Addr.add] using h3
  · simpa [Addr.add] using h4
  · simpa [Addr.add] using h5
  · simpa [Addr.add] using h6
  · simpa [Addr.add] using h7
  · simpa [Addr.add] using h8
theorem cells3 {w : World} {base : Nat} {a : Addr} {cs : List Value} (h : w.cells? base a 3 = some cs) : a.spot = none ∧ a.block < w.heap.size ∧ ∃ c0 c1 c2, cs = [c0, c1, c2] ∧ w.cell? ⟨a.block, a.off, none⟩ = some c0 ∧ w.cell? ⟨a.block, a.off + 1, none⟩ = some c1 ∧ w.cell? ⟨a.block, a.off + 2, none⟩ = some c2 := by
  unfold World.cells? at h
  split at h
  case isFalse => cases h
  simp only [show List.range 3 = [0, 1, 2] from rfl, List.mapM_cons, List.mapM_nil, Option.bind_eq_bind, Option.pure_def, Option.bind_eq_some_iff] at h
  obtain ⟨c0, h0, r1, ⟨c1, h1, r2, ⟨c2, h2, r3, q3, q2⟩, q1⟩, hcs⟩ := h
  cases q3
  cases q2
  cases q1
  have hs : a.spot = none := by
    have := cell_spot h0
    simpa [Addr.add] using this
  have hb : a.block < w.heap.size := by
    have := World.block_lt_of_cell? w _ h0
    simpa [Addr.add] using this
  obtain ⟨b, o, sp⟩ := a
  simp only at hs
  subst hs
  simp only [Option.some.injEq] at hcs
  subst hcs
  refine ⟨rfl, hb, c0, c1, c2, rfl, ?_, ?_, ?_⟩
  · simpa [Addr.add] using h0
  · simpa [Addr.add] using h1
  · simpa [Addr.add] using h2

theorem xmemL_of {B : Nat} {w : World} {b : Nat} : ∀ (ks : List XT) (off : Nat), (∀ i u, ks[i]? = some u → ∃ cs, Nine w b (off + i * 9) cs ∧ XMem B w u cs) → XMemL B w ks b off
  | [], off, _ => by rw [XMemL]; trivial
  | u :: us, off, h => by
    rw [XMemL]
    refine ⟨by simpa using h 0 u rfl, xmemL_of us (off + 9) fun i v hv => ?_⟩
    have := h (i + 1) v (by simpa using hv)
    rwa [show off + (i + 1) * 9 = off + 9 + i * 9 by omega] at this
theorem mem_six {B : Nat} {w : World} {T : Tree} {cs : Array Value} (h : Mem B w T cs) : ∃ (vk : Int) (vy : Bool) (vc vx : Int) (vt : ByteArray) (va : Option Addr) (vn vp : Nat), cs = #[.int .i64 vk, .bool vy, .int .i64 vc, .int .i64 vx, .string vt, .slice va vn vp] := by
  obtain ⟨k, y, c, x, t, ks⟩ := T
  rw [Mem] at h
  obtain ⟨_, _, a, cap, rfl, _⟩ := h
  exact ⟨_, _, _, _, _, _, _, _, rfl⟩
theorem memT_two {B : Nat} {w : World} {T : TT} {cs : Array Value} (h : MemT B w T cs) : ∃ (k : Int) (a : Option Addr) (n p : Nat), cs = #[.int .i64 k, .slice a n p] := by
  obtain ⟨k, ks⟩ := T
  rw [MemT, MemTP] at h
  obtain ⟨_, a, cap, rfl, _⟩ := h
  exact ⟨_, _, _, _, rfl⟩

section
variable {H : Type} {enc : TypeId × Value → H} {w : World} {base : Nat} {spare : Nat → Bool} {held : Bool}
set_option maxRecDepth 100000 in
set_option maxHeartbeats 2000000 in
theorem expr_of : ∀ (fuel : Nat) (cs : List Value) (x : DataW H × List MemPlace), DataW.trod enc Tryz.prog w base spare held fuel 29 cs = some x → ∃ X, XMem w.heap.size w X cs.toArray := by
  intro fuel
  induction fuel using Nat.strongRecOn with
  | _ fuel ih =>
    intro cs x hf
    obtain ⟨xs, n, hn, hx, hl, hlen, hf⟩ := DataW.trod_struct Tryz.underlying29 hf
    rw [cellsExpr] at hl
    obtain ⟨c0, c1, c2, c3, c4, c5, c6, c7, c8, hcs⟩ := array9 (cs := cs.toArray) (by simpa using hl)
    obtain rfl : cs = [c0, c1, c2, c3, c4, c5, c6, c7, c8] := by simpa using congrArg Array.toList hcs
    clear hcs
    have h0 := hf 0 _ rfl
    have h1 := hf 1 _ rfl
    have h2 := hf 2 _ rfl
    have h3 := hf 3 _ rfl
    simp [cellsInt, cellsVal, cellsStr, cellsExprs] at h0 h1 h2 h3
    obtain ⟨y0, y1, y2, y3, rfl⟩ := list4 hlen
    simp at h0 h1 h2 h3
    obtain ⟨k, e0, _⟩ := DataW.trod_int Tryz.underlying3 h0
    obtain ⟨TV, hV⟩ := tree_of _ _ _ h1
    obtain ⟨t, e2, _, ht⟩ := DataW.trod_string Tryz.underlying9 h2
    simp at e0 e2
    subst e0 e2
    obtain ⟨vk, vy, vc, vx, vt, va, vn, vp, e1⟩ := mem_six hV
    simp at e1
    obtain ⟨rfl, rfl, rfl, rfl, rfl, rfl⟩ := e1
    have ht' : t.size ≤ 9223372036854775807 := by unfold maxLen at ht; omega
    rcases DataW.trod_slice Tryz.underlying27 h3 with ⟨e5, _⟩ | ⟨a, len, cap, elems, rest, n', hn', e5, _, _, hlc, hm, hel, hat, _⟩
    · simp at e5
      subst e5
      refine ⟨.mk k TV t [], ?_⟩
      rw [XMem]
      exact ⟨ht', by simp, _, _, _, _, _, _, _, _, none, 0, rfl, hV, fun h => absurd rfl h⟩
    · simp at e5
      subst e5
      have each : ∀ i, i < len → ∃ T, ∃ cs', w.cells? base (a.add (i * 9)) 9 = some cs' ∧ XMem w.heap.size w T cs'.toArray := by
        intro i hi
        have := hat i hi
        rw [cellsExpr, List.getElem?_eq_getElem (by omega), Option.bind_eq_some_iff] at this
        obtain ⟨cs', hc, ht2⟩ := this
        obtain ⟨T, hT⟩ := ih n' (by omega) cs' _ ht2
        exact ⟨T, cs', hc, hT⟩
      obtain ⟨ks, hks, hp⟩ := choose_list len each
      have hm' : cap ≤ 9223372036854775807 := by unfold maxLen at hm; omega
      refine ⟨.mk k TV t ks, ?_⟩
      rw [XMem]
      refine ⟨ht', by omega, _, _, _, _, _, _, _, _, some a, cap, by rw [hks], hV, fun hne => ?_⟩
      have hpos : 0 < len := by
        rcases Nat.eq_zero_or_pos len with e | e
        · rw [e] at hks; exact absurd (List.length_eq_zero_iff.1 hks) hne
        · exact e
      obtain ⟨_, cs0, hc0, _⟩ := each 0 hpos
      simp only [Nat.zero_mul] at hc0
      have h00 : a.add 0 = a := rfl
      rw [h00] at hc0
      obtain ⟨hsp, hblk, _⟩ := cells9 hc0
      obtain ⟨b, off, sp⟩ := a
      simp only at hsp hblk
      subst hsp
      refine ⟨b, off, rfl, hblk, xmemL_of ks off fun i u hu => ?_⟩
      obtain ⟨cs', hc, hM⟩ := hp i u hu
      have h6 := (cells9 hc).2.2
      refine ⟨cs'.toArray, ?_, hM⟩
      by_cases hi0 : i = 0
      · subst hi0
        simpa [Addr.add] using h6
      · have hi6 : ¬ i * 9 = 0 := by omega
        rw [show (⟨b, off, none⟩ : Addr).add (i * 9) = ⟨b, off + i * 9, none⟩ by simp only [Addr.add, if_neg hi6]] at h6
        exact h6
set_option maxRecDepth 100000 in
theorem expr_value {r : Reach} {b0 : Nat} {v : Value} {d : DataW H} {p : List MemPlace}
    (hv : Value.okWide Tryz.prog w r b0 29 v) (h : DataW.Trod enc Tryz.prog w base spare held 29 v d p) :
    ∃ (X : XT) (u : Array Value), v = .agg u ∧ XMem w.heap.size w X u := by
  obtain ⟨cs, rfl, hsz⟩ := okWide_struct Tryz.underlying29 hv
  obtain ⟨fuel, hf⟩ := h
  obtain ⟨T, hT⟩ := expr_of fuel _ _ hf
  exact ⟨T, cs, rfl, by simpa [Value.cells] using hT⟩
set_option maxRecDepth 100000 in
theorem var_of (fuel : Nat) (cs : List Value) (x : DataW H × List MemPlace) (hf : DataW.trod enc Tryz.prog w base spare held fuel 35 cs = some x) :
    ∃ (s : ByteArray) (T : TT) (k : Int) (a : Option Addr) (n p : Nat), cs = [.string s, .int .i64 k, .slice a n p] ∧ s.size ≤ 9223372036854775807 ∧ MemT w.heap.size w T #[.int .i64 k, .slice a n p] := by
  obtain ⟨z0, z1, n2, _, hl, g0, g1⟩ := trod_struct2 Tryz.underlying35 hf
  have hl' : cs.length = 3 := by
    obtain ⟨_, _, _, _, hl, _⟩ := DataW.trod_struct Tryz.underlying35 hf
    rw [cellsVar] at hl; exact hl
  obtain ⟨c0, c1, c2, hcs⟩ := array3 (cs := cs.toArray) (by simpa using hl')
  obtain rfl : cs = [c0, c1, c2] := by simpa using congrArg Array.toList hcs
  simp [cellsStr, cellsTy] at g0 g1
  obtain ⟨s, e0, _, hs⟩ := DataW.trod_string Tryz.underlying9 g0
  obtain ⟨T, hT⟩ := type_of _ _ _ g1
  obtain ⟨k, a, n, p, e1⟩ := memT_two hT
  simp at e0 e1
  obtain ⟨rfl, rfl⟩ := e1
  subst e0
  exact ⟨s, T, k, a, n, p, rfl, by unfold maxLen at hs; omega, hT⟩
set_option maxRecDepth 100000 in
theorem var_value {r : Reach} {b0 : Nat} {v : Value} {d : DataW H} {p : List MemPlace}
    (hv : Value.okWide Tryz.prog w r b0 35 v) (h : DataW.Trod enc Tryz.prog w base spare held 35 v d p) :
    ∃ (s : ByteArray) (T : TT) (k : Int) (a : Option Addr) (n c : Nat), v = .agg #[.string s, .int .i64 k, .slice a n c] ∧ s.size ≤ 9223372036854775807 ∧ MemT w.heap.size w T #[.int .i64 k, .slice a n c] := by
  obtain ⟨cs, rfl, hsz⟩ := okWide_struct Tryz.underlying35 hv
  obtain ⟨fuel, hf⟩ := h
  obtain ⟨s, T, k, a, n, p, e, h1, h2⟩ := var_of fuel _ _ hf
  exact ⟨s, T, k, a, n, p, by rw [show cs = #[.string s, .int .i64 k, .slice a n p] by simpa [Value.cells] using congrArg List.toArray e], h1, h2⟩
set_option maxRecDepth 100000 in
theorem vars_value {r : Reach} {b0 : Nat} {v : Value} {d : DataW H} {p : List MemPlace} (hv : Value.okWide Tryz.prog w r b0 30 v) (h : DataW.Trod enc Tryz.prog w base spare held 30 v d p) :
    ∃ (l : List (ByteArray × TT)), VS w.heap.size w v l ∧ (v = .slice none 0 0 ∨ ∃ b off cap, v = .slice (some ⟨b, off, none⟩) l.length cap) := by
  obtain ⟨a0, n0, cap0, rfl⟩ := okWide_slice Tryz.underlying30 hv
  have hsp : ∀ a, a0 = some a → a.spot = none := by
    rintro a rfl
    simp only [Value.okWide, Cell.okWide, Cell.ok, Tryz.underlying30] at hv
    exact hv.2.2.2.1
  obtain ⟨fuel, hf⟩ := h
  simp only [Value.cells] at hf
  rcases DataW.trod_slice Tryz.underlying30 hf with ⟨e5, _⟩ | ⟨a, len, cap, elems, rest, n', hn', e5, _, _, hlc, hm, hel, hat, _⟩
  · simp at e5
    obtain ⟨rfl, rfl, rfl⟩ := e5
    exact ⟨[], ⟨by simp, none, 0, rfl, fun h => absurd rfl h⟩, .inl rfl⟩
  · simp at e5
    obtain ⟨rfl, rfl, rfl⟩ := e5
    have h0 := hsp a rfl
    obtain ⟨b, off, sp⟩ := a
    simp only at h0
    subst h0
    have each : ∀ i, i < n0 → ∃ q : ByteArray × TT, b < w.heap.size ∧ ∃ (k : Int) (a : Option Addr) (n cap : Nat), w.cell? ⟨b, off + i * 3, none⟩ = some (.string q.1) ∧ w.cell? ⟨b, off + i * 3 + 1, none⟩ = some (.int .i64 k) ∧ w.cell? ⟨b, off + i * 3 + 2, none⟩ = some (.slice a n cap) ∧ MemT w.heap.size w q.2 #[.int .i64 k, .slice a n cap] ∧ q.1.size ≤ 9223372036854775807 := by
      intro i hi
      have := hat i hi
      rw [cellsVar, List.getElem?_eq_getElem (by omega), Option.bind_eq_some_iff] at this
      obtain ⟨cs', hc, ht2⟩ := this
      obtain ⟨s, T, k, a, n, p, rfl, h1, h2⟩ := var_of n' cs' _ ht2
      obtain ⟨_, hbl, c0, c1, c2, e, g0, g1, g2⟩ := cells3 hc
      simp only [List.cons.injEq, and_true] at e
      obtain ⟨rfl, rfl, rfl⟩ := e
      have ea : (⟨b, off, none⟩ : Addr).add (i * 3) = ⟨b, off + i * 3, none⟩ := by
        by_cases hi0 : i * 3 = 0
        · simp only [Addr.add, hi0]; simp
        · simp only [Addr.add, if_neg hi0]
      rw [ea] at hbl g0 g1 g2
      exact ⟨(s, T), hbl, k, a, n, p, g0, g1, g2, h2, h1⟩
    obtain ⟨l, hl, hp⟩ := choose_list n0 each
    have hm' : cap0 ≤ 9223372036854775807 := by unfold maxLen at hm; omega
    refine ⟨l, ⟨by omega, some ⟨b, off, none⟩, cap0, by rw [hl], fun hne => ⟨b, off, rfl, ?_, fun i q hi => (hp i q hi).2⟩⟩, .inr ⟨b, off, cap0, by rw [hl]⟩⟩
    obtain ⟨q, hq⟩ : ∃ q, l[0]? = some q := by
      cases l with
      | nil => exact absurd rfl hne
      | cons q _ => exact ⟨q, rfl⟩
    exact (hp 0 q hq).1
end
end Go.Proofs.YtdgojpjmhalilaaGreatDoor
