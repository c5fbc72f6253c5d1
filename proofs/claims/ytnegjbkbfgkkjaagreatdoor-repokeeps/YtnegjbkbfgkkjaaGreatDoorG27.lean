/- A value that came in is a tree in memory. -/
import Derived.Test.YtnegjbkbfgkkjaaGreatDoorG22
import Derived.Test.YtnegjbkbfgkkjaaGreatDoorG14
namespace Go.Proofs.YtnegjbkbfgkkjaaGreatDoor
open Go.ChangeShapes Go.WideShapes Go.ChangeAt Go.RowKit Go.Joins

theorem cell_spot {w : World} {a : Addr} {v : Value} (h : w.cell? a = some v) : a.spot = none := by
  unfold World.cell? at h
  split at h
  · by_cases e : a.spot.isSome = true
    · rw [if_pos e] at h; cases h
    · simpa using e
  · cases h
theorem cells6 {w : World} {base : Nat} {a : Addr} {cs : List Value} (h : w.cells? base a 6 = some cs) : a.spot = none ∧ a.block < w.heap.size ∧ Six w a.block a.off cs.toArray := by
  unfold World.cells? at h
  split at h
  case isFalse => cases h
  simp only [show List.range 6 = [0, 1, 2, 3, 4, 5] from rfl, List.mapM_cons, List.mapM_nil, Option.bind_eq_bind, Option.pure_def, Option.bind_eq_some_iff] at h
  obtain ⟨c0, h0, r1, ⟨c1, h1, r2, ⟨c2, h2, r3, ⟨c3, h3, r4, ⟨c4, h4, r5, ⟨c5, h5, r6, q6, q5⟩, q4⟩, q3⟩, q2⟩, q1⟩, hcs⟩ := h
  cases q6
  cases q5
  cases q4
  cases q3
  cases q2
  cases q1
  have hs : a.spot = none := by
    have := cell_spot h0
    simpa [Addr.add] using this
  have hb : a.block < w.heap.size := by
    have := World.block_lt_of_cell? w _ h0
    simpa [Addr.add] using this
  obtain ⟨b, o, sp⟩ := a
  simp only at hs
  subst hs
  simp only [Option.some.injEq] at hcs
  subst hcs
  refine ⟨rfl, hb, c0, c1, c2, c3, c4, c5, rfl, ?_, ?_, ?_, ?_, ?_, ?_⟩
  · simpa [Addr.add] using h0
  · simpa [Addr.add] using h1
  · simpa [Addr.add] using h2
  · simpa [Addr.add] using h3
  · simpa [Addr.add] using h4
  · simpa [Addr.add] using h5

theorem choose_list {α : Type} {P : Nat → α → Prop} : ∀ (n : Nat), (∀ i, i < n → ∃ x, P i x) → ∃ l : List α, l.length = n ∧ ∀ i x, l[i]? = some x → P i x := by
  intro n
  induction n with
  | zero => intro _; exact ⟨[], rfl, fun i x h => by simp at h⟩
  | succ n ih =>
    intro h
    obtain ⟨l, hl, hp⟩ := ih (fun i hi => h i (by omega))
    obtain ⟨x, hx⟩ := h n (by omega)
    refine ⟨l ++ [x], by simp [hl], fun i y hy => ?_⟩
    rcases Nat.lt_or_ge i n with hi | hi
    · rw [List.getElem?_append_left (by omega)] at hy
      exact hp i y hy
    · rw [List.getElem?_append_right (by omega)] at hy
      have : i = n := by
        rcases Nat.eq_or_lt_of_le hi with e | e
        · exact e.symm
        · rw [List.getElem?_eq_none (by simp; omega)] at hy; cases hy
      subst this
      simp [hl] at hy
      rw [← hy]; exact hx
theorem memL_of {B : Nat} {w : World} {b : Nat} : ∀ (ks : List Tree) (off : Nat), (∀ i u, ks[i]? = some u → ∃ cs, Six w b (off + i * 6) cs ∧ Mem B w u cs) → MemL B w ks b off
  | [], off, _ => by rw [MemL]; trivial
  | u :: us, off, h => by
    rw [MemL]
    refine ⟨by simpa using h 0 u rfl, memL_of us (off + 6) fun i v hv => ?_⟩
    have := h (i + 1) v (by simpa using hv)
    rwa [show off + (i + 1) * 6 = off + 6 + i * 6 by omega] at this

section
variable {H : Type} {enc : TypeId × Value → H} {w : World} {base : Nat} {spare : Nat → Bool} {held : Bool}
set_option maxRecDepth 100000 in
theorem tree_of : ∀ (fuel : Nat) (cs : List Value) (x : DataW H × List MemPlace), DataW.trod enc Tryz.prog w base spare held fuel 81 cs = some x → ∃ T, Mem w.heap.size w T cs.toArray := by
  intro fuel
  induction fuel using Nat.strongRecOn with
  | _ fuel ih =>
    intro cs x hf
    obtain ⟨xs, n, hn, hx, hl, hlen, hf⟩ := DataW.trod_struct Tryz.underlying81 hf
    rw [cellsVal] at hl
    obtain ⟨c0, c1, c2, c3, c4, c5, hcs⟩ := array6 (cs := cs.toArray) (by simpa using hl)
    obtain rfl : cs = [c0, c1, c2, c3, c4, c5] := by simpa using congrArg Array.toList hcs
    clear hcs
    have h0 := hf 0 _ rfl
    have h1 := hf 1 _ rfl
    have h2 := hf 2 _ rfl
    have h3 := hf 3 _ rfl
    have h4 := hf 4 _ rfl
    simp [cellsInt, cellsBool, cellsDec, cellsStr, cellsList] at h0 h1 h2 h3 h4
    obtain ⟨y0, y1, y2, y3, y4, rfl⟩ := list5 hlen
    simp at h0 h1 h2 h3 h4
    obtain ⟨k, e0, _⟩ := DataW.trod_int Tryz.underlying3 h0
    obtain ⟨y, e1, _⟩ := DataW.trod_bool Tryz.underlying4 h1
    obtain ⟨z0, z1, n2, _, _, g0, g1⟩ := trod_struct2 Tryz.underlying78 h2
    simp [cellsI64, cellsInt] at g0 g1
    obtain ⟨c, e2, _⟩ := DataW.trod_int Tryz.underlying2 g0
    obtain ⟨x', e3, _⟩ := DataW.trod_int Tryz.underlying3 g1
    obtain ⟨t, e4, _, ht⟩ := DataW.trod_string Tryz.underlying9 h3
    simp at e0 e1 e2 e3 e4
    subst e0 e1 e2 e3 e4
    have ht' : t.size ≤ 9223372036854775807 := by unfold maxLen at ht; omega
    rcases DataW.trod_slice Tryz.underlying79 h4 with ⟨e5, _⟩ | ⟨a, len, cap, elems, rest, n', hn', e5, _, _, hlc, hm, hel, hat, _⟩
    · simp at e5
      subst e5
      refine ⟨.mk k y c x' t [], ?_⟩
      rw [Mem]
      exact ⟨ht', by simp, none, 0, rfl, fun h => absurd rfl h⟩
    · simp at e5
      subst e5
      have each : ∀ i, i < len → ∃ T, ∃ cs', w.cells? base (a.add (i * 6)) 6 = some cs' ∧ Mem w.heap.size w T cs'.toArray := by
        intro i hi
        have := hat i hi
        rw [cellsVal, List.getElem?_eq_getElem (by omega), Option.bind_eq_some_iff] at this
        obtain ⟨cs', hc, ht2⟩ := this
        obtain ⟨T, hT⟩ := ih n' (by omega) cs' _ ht2
        exact ⟨T, cs', hc, hT⟩
      obtain ⟨ks, hks, hp⟩ := choose_list len each
      have hm' : cap ≤ 9223372036854775807 := by unfold maxLen at hm; omega
      refine ⟨.mk k y c x' t ks, ?_⟩
      rw [Mem]
      refine ⟨ht', by omega, some a, cap, by rw [hks], fun hne => ?_⟩
      have hpos : 0 < len := by
        rcases Nat.eq_zero_or_pos len with e | e
        · rw [e] at hks; exact absurd (List.length_eq_zero_iff.1 hks) hne
        · exact e
      obtain ⟨_, cs0, hc0, _⟩ := each 0 hpos
      simp only [Nat.zero_mul] at hc0
      have h00 : a.add 0 = a := rfl
      rw [h00] at hc0
      obtain ⟨hsp, hblk, _⟩ := cells6 hc0
      obtain ⟨b, off, sp⟩ := a
      simp only at hsp hblk
      subst hsp
      refine ⟨b, off, rfl, hblk, memL_of ks off fun i u hu => ?_⟩
      obtain ⟨cs', hc, hM⟩ := hp i u hu
      have h6 := (cells6 hc).2.2
      refine ⟨cs'.toArray, ?_, hM⟩
      by_cases hi0 : i = 0
      · subst hi0
        simpa [Addr.add] using h6
      · have hi6 : ¬ i * 6 = 0 := by omega
        rw [show (⟨b, off, none⟩ : Addr).add (i * 6) = ⟨b, off + i * 6, none⟩ by simp only [Addr.add, if_neg hi6]] at h6
        exact h6
end
end Go.Proofs.YtnegjbkbfgkkjaaGreatDoor

/- A test that came in is a tree in memory. (Written by gen_j8.py.) -/
namespace Go.Proofs.YtnegjbkbfgkkjaaGreatDoor
open Go.ChangeShapes Go.WideShapes Go.ChangeAt Go.RowKit Go.Joins

theorem cellsTest : Tryz.prog.cellsOf 83 = 16 := by kernel_rfl
theorem cellsTests : Tryz.prog.cellsOf 72 = 1 := by kernel_rfl

theorem array16 {α : Type} {cs : Array α} (h : cs.size = 16) : ∃ c0 c1 c2 c3 c4 c5 c6 c7 c8 c9 c10 c11 c12 c13 c14 c15, cs = #[c0, c1, c2, c3, c4, c5, c6, c7, c8, c9, c10, c11, c12, c13, c14, c15] := by
  obtain ⟨l⟩ := cs
  match l, h with
  | [c0, c1, c2, c3, c4, c5, c6, c7, c8, c9, c10, c11, c12, c13, c14, c15], _ => exact ⟨c0, c1, c2, c3, c4, c5, c6, c7, c8, c9, c10, c11, c12, c13, c14, c15, rfl⟩
theorem list6 {α : Type} {l : List α} (h : l.length = 6) : ∃ c0 c1 c2 c3 c4 c5, l = [c0, c1, c2, c3, c4, c5] := by
  match l, h with
  | [c0, c1, c2, c3, c4, c5], _ => exact ⟨c0, c1, c2, c3, c4, c5, rfl⟩

theorem mapM_at {α β : Type} {f : α → Option β} : ∀ {l : List α} {r : List β}, l.mapM f = some r → r.length = l.length ∧ ∀ (i : Nat) (x : α), l[i]? = some x → f x = r[i]?
  | [], r, h => by
    simp only [List.mapM_nil, Option.pure_def, Option.some.injEq] at h
    subst h
    exact ⟨rfl, fun i x hx => by simp at hx⟩
  | a :: l, r, h => by
    simp only [List.mapM_cons, Option.bind_eq_bind, Option.pure_def, Option.bind_eq_some_iff] at h
    obtain ⟨b, hb, bs, hbs, e⟩ := h
    cases e
    obtain ⟨h1, h2⟩ := mapM_at hbs
    refine ⟨by simp [h1], fun i x hx => ?_⟩
    cases i with
    | zero =>
      simp only [List.getElem?_cons_zero, Option.some.injEq] at hx ⊢
      rw [← hx]; exact hb
    | succ i => simpa using h2 i x (by simpa using hx)
theorem cells16 {w : World} {base : Nat} {a : Addr} {cs : List Value} (h : w.cells? base a 16 = some cs) : a.spot = none ∧ a.block < w.heap.size ∧ C16 w a.block a.off cs.toArray := by
  unfold World.cells? at h
  split at h
  case isFalse => cases h
  obtain ⟨hl, hat⟩ := mapM_at h
  simp only [List.length_range] at hl
  have each : ∀ i, i < 16 → ∃ v, cs[i]? = some v ∧ w.cell? (a.add i) = some v := by
    intro i hi
    have q := hat i i (by rw [List.getElem?_range hi])
    rw [List.getElem?_eq_getElem (by omega)] at q ⊢
    exact ⟨_, rfl, q⟩
  obtain ⟨v0, _, g0⟩ := each 0 (by decide)
  have hs : a.spot = none := by
    have := cell_spot g0
    simpa [Addr.add] using this
  have hb : a.block < w.heap.size := by
    have := World.block_lt_of_cell? w _ g0
    simpa [Addr.add] using this
  obtain ⟨b, o, sp⟩ := a
  simp only at hs
  subst hs
  refine ⟨rfl, hb, by simpa using hl, fun i v hv => ?_⟩
  have hi : i < 16 := by
    rcases Nat.lt_or_ge i 16 with q | q
    · exact q
    · rw [Array.getElem?_eq_none (by simp; omega)] at hv; cases hv
  obtain ⟨v', h1, h2⟩ := each i hi
  have e : v' = v := by
    have : cs[i]? = some v := by simpa using hv
    rw [h1] at this
    exact Option.some.inj this
  subst e
  show w.cell? ⟨b, o + i, none⟩ = some v'
  by_cases hi0 : i = 0
  · subst hi0
    simpa [Addr.add] using h2
  · rw [show (⟨b, o, none⟩ : Addr).add i = ⟨b, o + i, none⟩ by simp only [Addr.add, if_neg hi0]] at h2
    exact h2
theorem memSL_of {B : Nat} {w : World} {b : Nat} : ∀ (ks : List TS) (off : Nat), (∀ i u, ks[i]? = some u → ∃ cs, C16 w b (off + i * 16) cs ∧ MemS B w u cs) → MemSL B w ks b off
  | [], off, _ => by rw [MemSL]; trivial
  | u :: us, off, h => by
    rw [MemSL]
    refine ⟨by simpa using h 0 u rfl, memSL_of us (off + 16) fun i v hv => ?_⟩
    have := h (i + 1) v (by simpa using hv)
    rwa [show off + (i + 1) * 16 = off + 16 + i * 16 by omega] at this

section
variable {H : Type} {enc : TypeId × Value → H} {w : World} {base : Nat} {spare : Nat → Bool} {held : Bool}
set_option maxRecDepth 100000 in
set_option maxHeartbeats 2000000 in
theorem test_of : ∀ (fuel : Nat) (cs : List Value) (x : DataW H × List MemPlace), DataW.trod enc Tryz.prog w base spare held fuel 83 cs = some x → ∃ T, MemS w.heap.size w T cs.toArray := by
  intro fuel
  induction fuel using Nat.strongRecOn with
  | _ fuel ih =>
    intro cs x hf
    obtain ⟨xs, n, hn, hx, hl, hlen, hf⟩ := DataW.trod_struct Tryz.underlying83 hf
    rw [cellsTest] at hl
    obtain ⟨c0, c1, c2, c3, c4, c5, c6, c7, c8, c9, c10, c11, c12, c13, c14, c15, hcs⟩ := array16 (cs := cs.toArray) (by simpa using hl)
    obtain rfl : cs = [c0, c1, c2, c3, c4, c5, c6, c7, c8, c9, c10, c11, c12, c13, c14, c15] := by simpa using congrArg Array.toList hcs
    clear hcs
    have h0 := hf 0 _ rfl
    have h1 := hf 1 _ rfl
    have h2 := hf 2 _ rfl
    have h3 := hf 3 _ rfl
    have h4 := hf 4 _ rfl
    have h5 := hf 5 _ rfl
    simp [cellsInt, cellsBool, cellsVal, cellsTests] at h0 h1 h2 h3 h4 h5
    obtain ⟨y0, y1, y2, y3, y4, y5, rfl⟩ := list6 hlen
    simp at h0 h1 h2 h3 h4 h5
    obtain ⟨k, e0, _⟩ := DataW.trod_int Tryz.underlying3 h0
    obtain ⟨TA, hA⟩ := tree_of _ _ _ h1
    obtain ⟨TB, hB⟩ := tree_of _ _ _ h2
    obtain ⟨oa, e3, _⟩ := DataW.trod_bool Tryz.underlying4 h3
    obtain ⟨ob, e4, _⟩ := DataW.trod_bool Tryz.underlying4 h4
    simp at e0 e3 e4
    subst e0 e3 e4
    rcases DataW.trod_slice Tryz.underlying72 h5 with ⟨e5, _⟩ | ⟨a, len, cap, elems, rest, n', hn', e5, _, _, hlc, hm, hel, hat, _⟩
    · simp at e5
      subst e5
      refine ⟨.mk k TA TB oa ob [], ?_⟩
      rw [MemS]
      exact ⟨by simp, _, _, _, _, _, _, _, _, _, _, _, _, none, 0, hA, hB, rfl, fun h => absurd rfl h⟩
    · simp at e5
      subst e5
      have each : ∀ i, i < len → ∃ T, ∃ cs', w.cells? base (a.add (i * 16)) 16 = some cs' ∧ MemS w.heap.size w T cs'.toArray := by
        intro i hi
        have := hat i hi
        rw [cellsTest, List.getElem?_eq_getElem (by omega), Option.bind_eq_some_iff] at this
        obtain ⟨cs', hc, ht2⟩ := this
        obtain ⟨T, hT⟩ := ih n' (by omega) cs' _ ht2
        exact ⟨T, cs', hc, hT⟩
      obtain ⟨ks, hks, hp⟩ := choose_list len each
      have hm' : cap ≤ 9223372036854775807 := by unfold maxLen at hm; omega
      refine ⟨.mk k TA TB oa ob ks, ?_⟩
      rw [MemS]
      refine ⟨by omega, _, _, _, _, _, _, _, _, _, _, _, _, some a, cap, hA, hB, by rw [hks], fun hne => ?_⟩
      have hpos : 0 < len := by
        rcases Nat.eq_zero_or_pos len with e | e
        · rw [e] at hks; exact absurd (List.length_eq_zero_iff.1 hks) hne
        · exact e
      obtain ⟨_, cs0, hc0, _⟩ := each 0 hpos
      simp only [Nat.zero_mul] at hc0
      have h00 : a.add 0 = a := rfl
      rw [h00] at hc0
      obtain ⟨hsp, hblk, _⟩ := cells16 hc0
      obtain ⟨b, off, sp⟩ := a
      simp only at hsp hblk
      subst hsp
      refine ⟨b, off, rfl, hblk, memSL_of ks off fun i u hu => ?_⟩
      obtain ⟨cs', hc, hM⟩ := hp i u hu
      have h6 := (cells16 hc).2.2
      refine ⟨cs'.toArray, ?_, hM⟩
      by_cases hi0 : i = 0
      · subst hi0
        simpa [Addr.add] using h6
      · have hi6 : ¬ i * 16 = 0 := by omega
        rw [show (⟨b, off, none⟩ : Addr).add (i * 16) = ⟨b, off + i * 16, none⟩ by simp only [Addr.add, if_neg hi6]] at h6
        exact h6
end
end Go.Proofs.YtnegjbkbfgkkjaaGreatDoor
