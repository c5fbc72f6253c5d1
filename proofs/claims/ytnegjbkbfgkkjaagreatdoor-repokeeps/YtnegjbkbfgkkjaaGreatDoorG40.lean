/- An expression, a variable, a list of variables that came in. -/
import Derived.Test.YtnegjbkbfgkkjaaGreatDoorG31
import Derived.Test.YtnegjbkbfgkkjaaGreatDoorG27
import Derived.Test.YtnegjbkbfgkkjaaGreatDoorG21
import Derived.Deep.Strs
import Derived.SizedLaws
namespace Go.Proofs.YtnegjbkbfgkkjaaGreatDoor
open Go.ChangeShapes Go.WideShapes Go.ChangeAt Go.RowKit Go.Joins

theorem cellsExpr : Tryz.prog.cellsOf 86 = 9 := by kernel_rfl
theorem cellsExprs : Tryz.prog.cellsOf 73 = 1 := by kernel_rfl
theorem array9 {α : Type} {cs : Array α} (h : cs.size = 9) : ∃ c0 c1 c2 c3 c4 c5 c6 c7 c8, cs = #[c0, c1, c2, c3, c4, c5, c6, c7, c8] := by
  obtain ⟨l⟩ := cs
  match l, h with
  | [c0, c1, c2, c3, c4, c5, c6, c7, c8], _ => exact ⟨c0, c1, c2, c3, c4, c5, c6, c7, c8, rfl⟩
theorem array3 {α : Type} {cs : Array α} (h : cs.size = 3) : ∃ c0 c1 c2, cs = #[c0, c1, c2] := by
  obtain ⟨l⟩ := cs
  match l, h with
  | [c0, c1, c2], _ => exact ⟨c0, c1, c2, rfl⟩
theorem list4 {α : Type} {l : List α} (h : l.length = 4) : ∃ c0 c1 c2 c3, l = [c0, c1, c2, c3] := by
  match l, h with
  | [c0, c1, c2, c3], _ => exact ⟨c0, c1, c2, c3, rfl⟩

theorem cells9 {w : World} {base : Nat} {a : Addr} {cs : List Value} (h : w.cells? base a 9 = some cs) : a.spot = none ∧ a.block < w.heap.size ∧ Nine w a.block a.off cs.toArray := by
  unfold World.cells? at h
  split at h
  case isFalse => cases h
  simp only [show List.range 9 = [0, 1, 2, 3, 4, 5, 6, 7, 8] from rfl, List.mapM_cons, List.mapM_nil, Option.bind_eq_bind, Option.pure_def, Option.bind_eq_some_iff] at h
  obtain ⟨c0, h0, r1, ⟨c1, h1, r2, ⟨c2, h2, r3, ⟨c3, h3, r4, ⟨c4, h4, r5, ⟨c5, h5, r6, ⟨c6, h6, r7, ⟨c7, h7, r8, ⟨c8, h8, r9, q9, q8⟩, q7⟩, q6⟩, q5⟩, q4⟩, q3⟩, q2⟩, q1⟩, hcs⟩ := h
  cases q9
  cases q8
  cases q7
  cases q6
  cases q5
  cases q4
  cases q3
  cases q2
  cases q1
  have hs : a.spot = none := by
    have := cell_spot h0
    simpa [Addr.add] using this
  have hb : a.block < w.heap.size := by
    have := World.block_lt_of_cell? w _ h0
    simpa [Addr.add] using this
  obtain ⟨b, o, sp⟩ := a
  simp only at hs
  subst hs
  simp only [Option.some.injEq] at hcs
  subst hcs
  refine ⟨rfl, hb, c0, c1, c2, c3, c4, c5, c6, c7, c8, rfl, ?_, ?_, ?_, ?_, ?_, ?_, ?_, ?_, ?_⟩
  · simpa [Addr.add] using h0
  · simpa [Addr.add] using h1
  · simpa [Addr.add] using h2
  · simpa [Addr.add] using h3
  · simpa [Addr.add] using h4
  · simpa [Addr.add] using h5
  · simpa [Addr.add] using h6
  · simpa [Addr.add] using h7
  · simpa [Addr.add] using h8
theorem xmemL_of {B : Nat} {w : World} {b : Nat} : ∀ (ks : List XT) (off : Nat), (∀ i u, ks[i]? = some u → ∃ cs, Nine w b (off + i * 9) cs ∧ XMem B w u cs) → XMemL B w ks b off
  | [], off, _ => by rw [XMemL]; trivial
  | u :: us, off, h => by
    rw [XMemL]
    refine ⟨by simpa using h 0 u rfl, xmemL_of us (off + 9) fun i v hv => ?_⟩
    have := h (i + 1) v (by simpa using hv)
    rwa [show off + (i + 1) * 9 = off + 9 + i * 9 by omega] at this
theorem mem_six {B : Nat} {w : World} {T : Tree} {cs : Array Value} (h : Mem B w T cs) : ∃ (vk : Int) (vy : Bool) (vc vx : Int) (vt : ByteArray) (va : Option Addr) (vn vp : Nat), cs = #[.int .i64 vk, .bool vy, .int .i64 vc, .int .i64 vx, .string vt, .slice va vn vp] := by
  obtain ⟨k, y, c, x, t, ks⟩ := T
  rw [Mem] at h
  obtain ⟨_, _, a, cap, rfl, _⟩ := h
  exact ⟨_, _, _, _, _, _, _, _, rfl⟩
section
variable {H : Type} {enc : TypeId × Value → H} {w : World} {base : Nat} {spare : Nat → Bool} {held : Bool}
set_option maxRecDepth 100000 in
set_option maxHeartbeats 2000000 in
theorem expr_of : ∀ (fuel : Nat) (cs : List Value) (x : DataW H × List MemPlace), DataW.trod enc Tryz.prog w base spare held fuel 86 cs = some x → ∃ X, XMem w.heap.size w X cs.toArray := by
  intro fuel
  induction fuel using Nat.strongRecOn with
  | _ fuel ih =>
    intro cs x hf
    obtain ⟨xs, n, hn, hx, hl, hlen, hf⟩ := DataW.trod_struct Tryz.underlying86 hf
    rw [cellsExpr] at hl
    obtain ⟨c0, c1, c2, c3, c4, c5, c6, c7, c8, hcs⟩ := array9 (cs := cs.toArray) (by simpa using hl)
    obtain rfl : cs = [c0, c1, c2, c3, c4, c5, c6, c7, c8] := by simpa using congrArg Array.toList hcs
    clear hcs
    have h0 := hf 0 _ rfl
    have h1 := hf 1 _ rfl
    have h2 := hf 2 _ rfl
    have h3 := hf 3 _ rfl
    simp [cellsInt, cellsVal, cellsStr, cellsExprs] at h0 h1 h2 h3
    obtain ⟨y0, y1, y2, y3, rfl⟩ := list4 hlen
    simp at h0 h1 h2 h3
    obtain ⟨k, e0, _⟩ := DataW.trod_int Tryz.underlying3 h0
    obtain ⟨TV, hV⟩ := tree_of _ _ _ h1
    obtain ⟨t, e2, _, ht⟩ := DataW.trod_string Tryz.underlying9 h2
    simp at e0 e2
    subst e0 e2
    obtain ⟨vk, vy, vc, vx, vt, va, vn, vp, e1⟩ := mem_six hV
    simp at e1
    obtain ⟨rfl, rfl, rfl, rfl, rfl, rfl⟩ := e1
    have ht' : t.size ≤ 9223372036854775807 := by unfold maxLen at ht; omega
    rcases DataW.trod_slice Tryz.underlying73 h3 with ⟨e5, _⟩ | ⟨a, len, cap, elems, rest, n', hn', e5, _, _, hlc, hm, hel, hat, _⟩
    · simp at e5
      subst e5
      refine ⟨.mk k TV t [], ?_⟩
      rw [XMem]
      exact ⟨ht', by simp, _, _, _, _, _, _, _, _, none, 0, rfl, hV, fun h => absurd rfl h⟩
    · simp at e5
      subst e5
      have each : ∀ i, i < len → ∃ T, ∃ cs', w.cells? base (a.add (i * 9)) 9 = some cs' ∧ XMem w.heap.size w T cs'.toArray := by
        intro i hi
        have := hat i hi
        rw [cellsExpr, List.getElem?_eq_getElem (by omega), Option.bind_eq_some_iff] at this
        obtain ⟨cs', hc, ht2⟩ := this
        obtain ⟨T, hT⟩ := ih n' (by omega) cs' _ ht2
        exact ⟨T, cs', hc, hT⟩
      obtain ⟨ks, hks, hp⟩ := choose_list len each
      have hm' : cap ≤ 9223372036854775807 := by unfold maxLen at hm; omega
      refine ⟨.mk k TV t ks, ?_⟩
      rw [XMem]
      refine ⟨ht', by omega, _, _, _, _, _, _, _, _, some a, cap, by rw [hks], hV, fun hne => ?_⟩
      have hpos : 0 < len := by
        rcases Nat.eq_zero_or_pos len with e | e
        · rw [e] at hks; exact absurd (List.length_eq_zero_iff.1 hks) hne
        · exact e
      obtain ⟨_, cs0, hc0, _⟩ := each 0 hpos
      simp only [Nat.zero_mul] at hc0
      have h00 : a.add 0 = a := rfl
      rw [h00] at hc0
      obtain ⟨hsp, hblk, _⟩ := cells9 hc0
      obtain ⟨b, off, sp⟩ := a
      simp only at hsp hblk
      subst hsp
      refine ⟨b, off, rfl, hblk, xmemL_of ks off fun i u hu => ?_⟩
      obtain ⟨cs', hc, hM⟩ := hp i u hu
      have h6 := (cells9 hc).2.2
      refine ⟨cs'.toArray, ?_, hM⟩
      by_cases hi0 : i = 0
      · subst hi0
        simpa [Addr.add] using h6
      · have hi6 : ¬ i * 9 = 0 := by omega
        rw [show (⟨b, off, none⟩ : Addr).add (i * 9) = ⟨b, off + i * 9, none⟩ by simp only [Addr.add, if_neg hi6]] at h6
        exact h6
end
end Go.Proofs.YtnegjbkbfgkkjaaGreatDoor

/- Tables, commands, lists of commands that came in. -/
namespace Go.Proofs.YtnegjbkbfgkkjaaGreatDoor
open Go.ChangeShapes Go.WideShapes Go.ChangeAt Go.RowKit Go.Joins

/-- a command -/
structure CmT where
  session : Int
  seq : Int
  kind : Int
  table : TbT
  name : ByteArray
  back : Int
def CmM (B : Nat) (w : World) (c : CmT) (cs : Array Value) : Prop := ∃ t0 t1 t2 t3 t4, cs = #[.int .i64 c.session, .int .i64 c.seq, .int .i64 c.kind, t0, t1, t2, t3, t4, .string c.name, .int .i64 c.back] ∧ TbM B w c.table #[t0, t1, t2, t3, t4]
theorem CmM.below {B : Nat} {w w' : World} (hb : Below B w w') {c : CmT} {cs : Array Value} (h : CmM B w c cs) : CmM B w' c cs := by
  obtain ⟨t0, t1, t2, t3, t4, e, h⟩ := h
  exact ⟨t0, t1, t2, t3, t4, e, h.below hb⟩
theorem CmM.mono {B B' : Nat} {w : World} (hb : B ≤ B') {c : CmT} {cs : Array Value} (h : CmM B w c cs) : CmM B' w c cs := by
  obtain ⟨t0, t1, t2, t3, t4, e, h⟩ := h
  exact ⟨t0, t1, t2, t3, t4, e, h.mono hb⟩

section
variable {H : Type} {enc : TypeId × Value → H} {w : World} {base : Nat} {spare : Nat → Bool} {held : Bool}
theorem ls_of {α : Type} {S E : TypeId} {n : Nat} {R : α → Array Value → Prop} (hS : Tryz.prog.underlying S = some (.slice E)) (hn : Tryz.prog.cellsOf E = n) (h1 : 0 < n)
    (elem : ∀ (fuel : Nat) (cs : List Value) (x : DataW H × List MemPlace), DataW.trod enc Tryz.prog w base spare held fuel E cs = some x → ∃ X, R X cs.toArray)
    {fuel : Nat} {v : Value} {x : DataW H × List MemPlace} (h : DataW.trod enc Tryz.prog w base spare held fuel S [v] = some x) : ∃ l : List α, Ls w.heap.size w n R l v := by
  rcases DataW.trod_slice hS h with ⟨e5, _⟩ | ⟨a, len, cap, elems, rest, n', hn', e5, _, _, hlc, hm, hel, hat, _⟩
  · obtain rfl : v = .slice none 0 0 := by simpa using e5
    exact ⟨[], by simp, none, 0, rfl, ⟨by simp, by omega⟩, fun h => absurd rfl h⟩
  · obtain rfl : v = .slice (some a) len cap := by simpa using e5
    have each : ∀ i, i < len → ∃ X, ∃ cs', w.cells? base (a.add (i * n)) n = some cs' ∧ R X cs'.toArray := by
      intro i hi
      have := hat i hi
      rw [hn, List.getElem?_eq_getElem (by omega), Option.bind_eq_some_iff] at this
      obtain ⟨cs', hc, ht2⟩ := this
      obtain ⟨X, hX⟩ := elem n' cs' _ ht2
      exact ⟨X, cs', hc, hX⟩
    obtain ⟨ks, hks, hp⟩ := choose_list len each
    have hm' : cap ≤ 9223372036854775807 := by unfold maxLen at hm; omega
    refine ⟨ks, by omega, some a, cap, by rw [hks], ⟨by omega, hm'⟩, fun hne => ?_⟩
    have hpos : 0 < len := by
      rcases Nat.eq_zero_or_pos len with e | e
      · rw [e] at hks; exact absurd (List.length_eq_zero_iff.1 hks) hne
      · exact e
    obtain ⟨_, cs0, hc0, _⟩ := each 0 hpos
    obtain ⟨_, l0, k0⟩ := World.cells?_some hc0
    have k00 := k0 0 h1
    simp only [Nat.zero_mul] at k00
    have h00 : (a.add 0).add 0 = a := rfl
    rw [h00, List.getElem?_eq_getElem (by omega)] at k00
    have hsp := cell_spot k00
    have hblk := World.block_lt_of_cell? w _ k00
    obtain ⟨b, off, sp⟩ := a
    simp only at hsp hblk
    subst hsp
    refine ⟨b, off, rfl, hblk, fun i u hu => ?_⟩
    obtain ⟨cs', hc, hM⟩ := hp i u hu
    obtain ⟨_, l1, k1⟩ := World.cells?_some hc
    refine ⟨cs'.toArray, by simpa using l1, hM, fun j z hj => ?_⟩
    have hj' : cs'[j]? = some z := by simpa using hj
    have hjn : j < n := by rw [← l1]; exact (List.getElem?_eq_some_iff.1 hj').1
    have := k1 j hjn
    rw [Addr.add_lit, Addr.add_lit, hj'] at this
    exact this

theorem cellsCol : Tryz.prog.cellsOf 91 = 3 := by kernel_rfl
theorem cellsRule : Tryz.prog.cellsOf 75 = 2 := by kernel_rfl
theorem cellsTable : Tryz.prog.cellsOf 34 = 5 := by kernel_rfl
theorem cellsCmd : Tryz.prog.cellsOf 36 = 10 := by kernel_rfl
theorem cellsCols : Tryz.prog.cellsOf 31 = 1 := by kernel_rfl
theorem cellsRules : Tryz.prog.cellsOf 32 = 1 := by kernel_rfl
theorem cellsVals : Tryz.prog.cellsOf 79 = 1 := by kernel_rfl

set_option maxRecDepth 100000 in
theorem column_of (fuel : Nat) (cs : List Value) (x : DataW H × List MemPlace) (hf : DataW.trod enc Tryz.prog w base spare held fuel 91 cs = some x) : ∃ X, CM w.heap.size w X cs.toArray := by
  obtain ⟨y0, y1, y2, n, rfl, hl, t0, t1, t2⟩ := Go.Deep.trod_struct3 Tryz.underlying91 hf
  rw [cellsCol] at hl
  obtain ⟨c0, c1, c2, hcs⟩ := array3 (cs := cs.toArray) (by simpa using hl)
  obtain rfl : cs = [c0, c1, c2] := by simpa using congrArg Array.toList hcs
  simp [cellsInt, cellsStr, cellsVals] at t0 t1 t2
  obtain ⟨s, e0, _, _⟩ := DataW.trod_string Tryz.underlying9 t0
  obtain ⟨k, e1, _⟩ := DataW.trod_int Tryz.underlying3 t1
  simp at e0 e1
  subst e0 e1
  obtain ⟨l, hl⟩ := ls_of (R := Mem w.heap.size w) Tryz.underlying79 cellsVal (by decide) (fun f cs x h => tree_of f cs x h) t2
  exact ⟨⟨s, k, l⟩, c2, rfl, hl⟩
set_option maxRecDepth 100000 in
theorem rule_of (fuel : Nat) (cs : List Value) (x : DataW H × List MemPlace) (hf : DataW.trod enc Tryz.prog w base spare held fuel 75 cs = some x) : ∃ X, RM w.heap.size w X cs.toArray := by
  obtain ⟨y0, y1, n, rfl, hl, t0, t1⟩ := trod_struct2 Tryz.underlying75 hf
  rw [cellsRule] at hl
  obtain ⟨c0, c1, rfl⟩ : ∃ c0 c1, cs = [c0, c1] := by
    match cs, hl with
    | [c0, c1], _ => exact ⟨c0, c1, rfl⟩
  simp [cellsTests, cellsExprs] at t0 t1
  obtain ⟨l, hl⟩ := ls_of (R := MemS w.heap.size w) Tryz.underlying72 cellsTest (by decide) (fun f cs x h => test_of f cs x h) t0
  obtain ⟨m, hm⟩ := ls_of (R := XMem w.heap.size w) Tryz.underlying73 cellsExpr (by decide) (fun f cs x h => expr_of f cs x h) t1
  exact ⟨⟨l, m⟩, c0, c1, rfl, hl, hm⟩
set_option maxRecDepth 100000 in
theorem table_of (fuel : Nat) (cs : List Value) (x : DataW H × List MemPlace) (hf : DataW.trod enc Tryz.prog w base spare held fuel 34 cs = some x) : ∃ X, TbM w.heap.size w X cs.toArray := by
  obtain ⟨xs, n, hn, hx, hl, hlen, hf⟩ := DataW.trod_struct Tryz.underlying34 hf
  rw [cellsTable] at hl
  obtain ⟨c0, c1, c2, c3, c4, rfl⟩ : ∃ c0 c1 c2 c3 c4, cs = [c0, c1, c2, c3, c4] := by
    match cs, hl with
    | [c0, c1, c2, c3, c4], _ => exact ⟨c0, c1, c2, c3, c4, rfl⟩
  have h0 := hf 0 _ rfl
  have h1 := hf 1 _ rfl
  have h2 := hf 2 _ rfl
  have h3 := hf 3 _ rfl
  have h4 := hf 4 _ rfl
  simp [cellsInt, cellsStr, cellsCols, cellsRules] at h0 h1 h2 h3 h4
  have hq : ∀ i, i < xs.length → ∃ y, xs[i]? = some y := fun i hi => ⟨_, List.getElem?_eq_getElem hi⟩
  have hlen' : xs.length = 5 := hlen
  obtain ⟨y0, e0⟩ := hq 0 (by omega)
  obtain ⟨y1, e1⟩ := hq 1 (by omega)
  obtain ⟨y2, e2⟩ := hq 2 (by omega)
  obtain ⟨y3, e3⟩ := hq 3 (by omega)
  obtain ⟨y4, e4⟩ := hq 4 (by omega)
  rw [e0] at h0
  rw [e1] at h1
  rw [e2] at h2
  rw [e3] at h3
  rw [e4] at h4
  obtain ⟨s, f0, _, _⟩ := DataW.trod_string Tryz.underlying9 h0
  obtain ⟨k, f1, _⟩ := DataW.trod_int Tryz.underlying3 h1
  simp at f0 f1
  subst f0 f1
  obtain ⟨i, hi⟩ := ls_of (R := CM w.heap.size w) Tryz.underlying31 cellsCol (by decide) (fun f cs x h => column_of f cs x h) h2
  obtain ⟨o, ho⟩ := ls_of (R := CM w.heap.size w) Tryz.underlying31 cellsCol (by decide) (fun f cs x h => column_of f cs x h) h3
  obtain ⟨r, hr⟩ := ls_of (R := RM w.heap.size w) Tryz.underlying32 cellsRule (by decide) (fun f cs x h => rule_of f cs x h) h4
  exact ⟨⟨s, k, i, o, r⟩, c2, c3, c4, rfl, hi, ho, hr⟩
set_option maxRecDepth 100000 in
theorem cmd_of (fuel : Nat) (cs : List Value) (x : DataW H × List MemPlace) (hf : DataW.trod enc Tryz.prog w base spare held fuel 36 cs = some x) : ∃ X, CmM w.heap.size w X cs.toArray := by
  obtain ⟨xs, n, hn, hx, hl, hlen, hf⟩ := DataW.trod_struct Tryz.underlying36 hf
  rw [cellsCmd] at hl
  obtain ⟨c0, c1, c2, c3, c4, c5, c6, c7, c8, c9, rfl⟩ : ∃ c0 c1 c2 c3 c4 c5 c6 c7 c8 c9, cs = [c0, c1, c2, c3, c4, c5, c6, c7, c8, c9] := by
    match cs, hl with
    | [c0, c1, c2, c3, c4, c5, c6, c7, c8, c9], _ => exact ⟨c0, c1, c2, c3, c4, c5, c6, c7, c8, c9, rfl⟩
  have h0 := hf 0 _ rfl
  have h1 := hf 1 _ rfl
  have h2 := hf 2 _ rfl
  have h3 := hf 3 _ rfl
  have h4 := hf 4 _ rfl
  have h5 := hf 5 _ rfl
  simp [cellsInt, cellsStr, cellsTable] at h0 h1 h2 h3 h4 h5
  have hq : ∀ i, i < xs.length → ∃ y, xs[i]? = some y := fun i hi => ⟨_, List.getElem?_eq_getElem hi⟩
  have hlen' : xs.length = 6 := hlen
  obtain ⟨y0, e0⟩ := hq 0 (by omega)
  obtain ⟨y1, e1⟩ := hq 1 (by omega)
  obtain ⟨y2, e2⟩ := hq 2 (by omega)
  obtain ⟨y3, e3⟩ := hq 3 (by omega)
  obtain ⟨y4, e4⟩ := hq 4 (by omega)
  obtain ⟨y5, e5⟩ := hq 5 (by omega)
  rw [e0] at h0
  rw [e1] at h1
  rw [e2] at h2
  rw [e3] at h3
  rw [e4] at h4
  rw [e5] at h5
  obtain ⟨k0, f0, _⟩ := DataW.trod_int Tryz.underlying3 h0
  obtain ⟨k1, f1, _⟩ := DataW.trod_int Tryz.underlying3 h1
  obtain ⟨k2, f2, _⟩ := DataW.trod_int Tryz.underlying3 h2
  obtain ⟨T, hT⟩ := table_of _ _ _ h3
  obtain ⟨s, f4, _, _⟩ := DataW.trod_string Tryz.underlying9 h4
  obtain ⟨k5, f5, _⟩ := DataW.trod_int Tryz.underlying3 h5
  simp at f0 f1 f2 f4 f5
  subst f0 f1 f2 f4 f5
  exact ⟨⟨k0, k1, k2, T, s, k5⟩, _, _, _, _, _, rfl, hT⟩
set_option maxRecDepth 100000 in
theorem cmd_value {r : Reach} {b0 : Nat} {v : Value} {d : DataW H} {p : List MemPlace} (hv : Value.okWide Tryz.prog w r b0 36 v) (h : DataW.Trod enc Tryz.prog w base spare held 36 v d p) :
    ∃ (c : CmT) (u : Array Value), v = .agg u ∧ CmM w.heap.size w c u := by
  obtain ⟨cs, rfl, hsz⟩ := okWide_struct Tryz.underlying36 hv
  obtain ⟨fuel, hf⟩ := h
  simp only [Value.cells] at hf
  obtain ⟨c, hc⟩ := cmd_of fuel _ _ hf
  exact ⟨c, cs, rfl, by simpa using hc⟩
end
end Go.Proofs.YtnegjbkbfgkkjaaGreatDoor

/- Lists of commands that came in: how many they may be, how great a number they bear. -/
namespace Go.Proofs.YtnegjbkbfgkkjaaGreatDoor
open Go.ChangeShapes Go.WideShapes Go.ChangeAt Go.RowKit Go.Joins

theorem bytesCmd : Tryz.prog.bytesOf 36 = 144 := by kernel_rfl
section
variable {H : Type} {enc : TypeId × Value → H} {w : World} {base : Nat} {spare : Nat → Bool} {held : Bool}
theorem int_low {z : Int} (h : (Lit.int .i64 z).wf = true) : z ≤ 9223372036854775807 := by
  unfold Lit.wf at h
  simp only [Bool.and_eq_true, decide_eq_true_eq] at h
  exact Int.le_trans h.2 (by decide)
set_option maxRecDepth 100000 in
theorem cmd_low (fuel : Nat) (cs : List Value) (x : DataW H × List MemPlace) (hf : DataW.trod enc Tryz.prog w base spare held fuel 36 cs = some x) : ∃ X : CmT, CmM w.heap.size w X cs.toArray ∧ X.seq ≤ 9223372036854775807 := by
  obtain ⟨X, hX⟩ := cmd_of fuel cs x hf
  refine ⟨X, hX, ?_⟩
  obtain ⟨t0, t1, t2, t3, t4, e, _⟩ := hX
  obtain ⟨xs, n, hn, hx, hl, hlen, hf⟩ := DataW.trod_struct Tryz.underlying36 hf
  have hcs : cs = [.int .i64 X.session, .int .i64 X.seq, .int .i64 X.kind, t0, t1, t2, t3, t4, .string X.name, .int .i64 X.back] := by simpa using congrArg Array.toList e
  subst hcs
  have h1 := hf 1 _ rfl
  simp [cellsInt] at h1
  have hlen' : xs.length = 6 := hlen
  obtain ⟨y1, e1⟩ : ∃ y, xs[1]? = some y := ⟨_, List.getElem?_eq_getElem (by omega)⟩
  rw [e1] at h1
  obtain ⟨k1, f1, _, g1⟩ := DataW.trod_int Tryz.underlying3 h1
  simp at f1
  rw [f1]
  exact int_low g1
set_option maxRecDepth 100000 in
theorem cmds_value2 {r : Reach} {b0 : Nat} {v : Value} {d : DataW H} {p : List MemPlace} (hv : Value.okWide Tryz.prog w r b0 22 v) (h : DataW.Trod enc Tryz.prog w base spare held 22 v d p) :
    ∃ l : List CmT, Ls w.heap.size w 10 (CmM w.heap.size w) l v ∧ (∀ c ∈ l, c.seq ≤ 9223372036854775807) ∧ ((∀ n ∈ d.weights Tryz.prog 22, n ≤ reachBytes) → l.length * 16 ≤ 140737488355328) := by
  obtain ⟨a0, n0, cap0, rfl⟩ := okWide_slice Tryz.underlying22 hv
  obtain ⟨fuel, hf⟩ := h
  simp only [Value.cells] at hf
  obtain ⟨l, hl⟩ := ls_of (R := fun (X : CmT) cs => CmM w.heap.size w X cs ∧ X.seq ≤ 9223372036854775807) Tryz.underlying22 cellsCmd (by decide) (fun f cs x h => cmd_low f cs x h) hf
  have hl' : Ls w.heap.size w 10 (CmM w.heap.size w) l (.slice a0 n0 cap0) := hl.mono (Nat.le_refl _) fun x cs hx => hx.1
  refine ⟨l, hl', fun c hc => ?_, fun hw => ?_⟩
  · obtain ⟨_, _, _, _, hk⟩ := hl.tell
    obtain ⟨_, _, _, _, hm⟩ := hk (List.ne_nil_of_mem hc)
    obtain ⟨i, hi⟩ := List.mem_iff_getElem?.1 hc
    obtain ⟨_, _, hr, _⟩ := hm i c hi
    exact hr.2
  · obtain ⟨_, _, ev, _⟩ := hl.tell
    rcases DataW.trod_slice Tryz.underlying22 hf with ⟨e5, _⟩ | ⟨a, len, cap, elems, rest, n', hn', e5, hx, _, hlc, hm, hel, hat, _⟩
    · rw [ev] at e5
      simp at e5
      omega
    · rw [ev] at e5
      simp at e5
      have := hw ((elems.length + rest.length) * 144) (by rw [show d = _ from congrArg Prod.fst hx]; simp [DataW.weights, Tryz.underlying22, bytesCmd])
      unfold reachBytes at this
      omega
end
end Go.Proofs.YtnegjbkbfgkkjaaGreatDoor
