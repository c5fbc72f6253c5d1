/- A test that came in is a tree in memory. (Written by gen_j8.py.) -/
import Derived.Test.YtcidbhegnnedoaaGreatDoorG09
import Derived.Test.YtcidbhegnnedoaaGreatDoorG25
namespace Go.Proofs.YtcidbhegnnedoaaGreatDoor
open Go.ChangeShapes Go.WideShapes Go.ChangeAt Go.RowKit Go.Joins

theorem cellsTest : Tryz.prog.cellsOf 29 = 16 := by kernel_rfl
theorem cellsTests : Tryz.prog.cellsOf 27 = 1 := by kernel_rfl

theorem array16 {α : Type} {cs : Array α} (h : cs.size = 16) : ∃ c0 c1 c2 c3 c4 c5 c6 c7 c8 c9 c10 c11 c12 c13 c14 c15, cs = #[c0, c1, c2, c3, c4, c5, c6, c7, c8, c9, c10, c11, c12, c13, c14, c15] := by
  obtain ⟨l⟩ := cs
  match l, h with
  | [c0, c1, c2, c3, c4, c5, c6, c7, c8, c9, c10, c11, c12, c13, c14, c15], _ => exact ⟨c0, c1, c2, c3, c4, c5, c6, c7, c8, c9, c10, c11, c12, c13, c14, c15, rfl⟩
theorem list6 {α : Type} {l : List α} (h : l.length = 6) : ∃ c0 c1 c2 c3 c4 c5, l = [c0, c1, c2, c3, c4, c5] := by
  match l, h with
  | [c0, c1, c2, c3, c4, c5], _ => exact ⟨c0, c1, c2, c3, c4, c5, rfl⟩

theorem mapM_at {α β : Type} {f : α → Option β} : ∀ {l : List α} {r : List β}, l.mapM f = some r → r.length = l.length ∧ ∀ (i : Nat) (x : α), l[i]? = some x → f x = r[i]?
  | [], r, h => by
    simp only [List.mapM_nil, Option.pure_def, Option.some.injEq] at h
    subst h
    exact ⟨rfl, fun i x hx => by simp at hx⟩
  | a :: l, r, h => by
    simp only [List.mapM_cons, Option.bind_eq_bind, Option.pure_def, Option.bind_eq_some_iff] at h
    obtain ⟨b, hb, bs, hbs, e⟩ := h
    cases e
    obtain ⟨h1, h2⟩ := mapM_at hbs
    refine ⟨by simp [h1], fun i x hx => ?_⟩
    cases i with
    | zero =>
      simp only [List.getElem?_cons_zero, Option.some.injEq] at hx ⊢
      rw [← hx]; exact hb
    | succ i => simpa using h2 i x (by simpa using hx)
theorem cells16 {w : World} {base : Nat} {a : Addr} {cs : List Value} (h : w.cells? base a 16 = some cs) : a.spot = none ∧ a.block < w.heap.size ∧ C16 w a.block a.off cs.toArray := by
  unfold World.cells? at h
  split at h
  case isFalse => cases h
  obtain ⟨hl, hat⟩ := mapM_at h
  simp only [List.length_range] at hl
  have each : ∀ i, i < 16 → ∃ v, cs[i]? = some v ∧ w.cell? (a.add i) = some v := by
    intro i hi
    have q := hat i i (by rw [List.getElem?_range hi])
    rw [List.getElem?_eq_getElem (by omega)] at q ⊢
    exact ⟨_, rfl, q⟩
  obtain ⟨v0, _, g0⟩ := each 0 (by decide)
  have hs : a.spot = none := by
    have := cell_spot g0
    simpa [Addr.add] using this
  have hb : a.block < w.heap.size := by
    have := World.block_lt_of_cell? w _ g0
    simpa [Addr.add] using this
  obtain ⟨b, o, sp⟩ := a
  simp only at hs
  subst hs
  refine ⟨rfl, hb, by simpa using hl, fun i v hv => ?_⟩
  have hi : i < 16 := by
    rcases Nat.lt_or_ge i 16 with q | q
    · exact q
    · rw [Array.getElem?_eq_none (by simp; omega)] at hv; cases hv
  obtain ⟨v', h1, h2⟩ := each i hi
  have e : v' = v := by
    have : cs[i]? = some v := by simpa using hv
    rw [h1] at this
    exact Option.some.inj this
  subst e
  show w.cell? ⟨b, o + i, none⟩ = some v'
  by_cases hi0 : i = 0
  · subst hi0
    simpa [Addr.add] using h2
  · rw [show (⟨b, o, none⟩ : Addr).add i = ⟨b, o + i, none⟩ by simp only [Addr.add, if_neg hi0]] at h2
    exact h2
theorem memSL_of {B : Nat} {w : World} {b : Nat} : ∀ (ks : List TS) (off : Nat), (∀ i u, ks[i]? = some u → ∃ cs, C16 w b (off + i * 16) cs ∧ MemS B w u cs) → MemSL B w ks b off
  | [], off, _ => by rw [MemSL]; trivial
  | u :: us, off, h => by
    rw [MemSL]
    refine ⟨by simpa using h 0 u rfl, memSL_of us (off + 16) fun i v hv => ?_⟩
    have := h (i + 1) v (by simpa using hv)
    rwa [show off + (i + 1) * 16 = off + 16 + i * 16 by omega] at this

section
variable {H : Type} {enc : TypeId × Value → H} {w : World} {base : Nat} {spare : Nat → Bool} {held : Bool}
set_option maxRecDepth 100000 in
set_option maxHeartbeats 2000000 in
theorem test_of : ∀ (fuel : Nat) (cs : List Value) (x : DataW H × List MemPlace), DataW.trod enc Tryz.prog w base spare held fuel 29 cs = some x → ∃ T, MemS w.heap.size w T cs.toArray := by
  intro fuel
  induction fuel using Nat.strongRecOn with
  | _ fuel ih =>
    intro cs x hf
    obtain ⟨xs, n, hn, hx, hl, hlen, hf⟩ := DataW.trod_struct Tryz.underlying29 hf
    rw [cellsTest] at hl
    obtain ⟨c0, c1, c2, c3, c4, c5, c6, c7, c8, c9, c10, c11, c12, c13, c14, c15, hcs⟩ := array16 (cs := cs.toArray) (by simpa using hl)
    obtain rfl : cs = [c0, c1, c2, c3, c4, c5, c6, c7, c8, c9, c10, c11, c12, c13, c14, c15] := by simpa using congrArg Array.toList hcs
    clear hcs
    have h0 := hf 0 _ rfl
    have h1 := hf 1 _ rfl
    have h2 := hf 2 _ rfl
    have h3 := hf 3 _ rfl
    have h4 := hf 4 _ rfl
    have h5 := hf 5 _ rfl
    simp [cellsInt, cellsBool, cellsVal, cellsTests] at h0 h1 h2 h3 h4 h5
    obtain ⟨y0, y1, y2, y3, y4, y5, rfl⟩ := list6 hlen
    simp at h0 h1 h2 h3 h4 h5
    obtain ⟨k, e0, _⟩ := DataW.trod_int Tryz.underlying3 h0
    obtain ⟨TA, hA⟩ := tree_of _ _ _ h1
    obtain ⟨TB, hB⟩ := tree_of _ _ _ h2
    obtain ⟨oa, e3, _⟩ := DataW.trod_bool Tryz.underlying4 h3
    obtain ⟨ob, e4, _⟩ := DataW.trod_bool Tryz.underlying4 h4
    simp at e0 e3 e4
    subst e0 e3 e4
    rcases DataW.trod_slice Tryz.underlying27 h5 with ⟨e5, _⟩ | ⟨a, len, cap, elems, rest, n', hn', e5, _, _, hlc, hm, hel, hat, _⟩
    · simp at e5
      subst e5
      refine ⟨.mk k TA TB oa ob [], ?_⟩
      rw [MemS]
      exact ⟨by simp, _, _, _, _, _, _, _, _, _, _, _, _, none, 0, hA, hB, rfl, fun h => absurd rfl h⟩
    · simp at e5
      subst e5
      have each : ∀ i, i < len → ∃ T, ∃ cs', w.cells? base (a.add (i * 16)) 16 = some cs' ∧ MemS w.heap.size w T cs'.toArray := by
        intro i hi
        have := hat i hi
        rw [cellsTest, List.getElem?_eq_getElem (by omega), Option.bind_eq_some_iff] at this
        obtain ⟨cs', hc, ht2⟩ := this
        obtain ⟨T, hT⟩ := ih n' (by omega) cs' _ ht2
        exact ⟨T, cs', hc, hT⟩
      obtain ⟨ks, hks, hp⟩ := choose_list len each
      have hm' : cap ≤ 9223372036854775807 := by unfold maxLen at hm; omega
      refine ⟨.mk k TA TB oa ob ks, ?_⟩
      rw [MemS]
      refine ⟨by omega, _, _, _, _, _, _, _, _, _, _, _, _, some a, cap, hA, hB, by rw [hks], fun hne => ?_⟩
      have hpos : 0 < len := by
        rcases Nat.eq_zero_or_pos len with e | e
        · rw [e] at hks; exact absurd (List.length_eq_zero_iff.1 hks) hne
        · exact e
      obtain ⟨_, cs0, hc0, _⟩ := each 0 hpos
      simp only [Nat.zero_mul] at hc0
      have h00 : a.add 0 = a := rfl
      rw [h00] at hc0
      obtain ⟨hsp, hblk, _⟩ := cells16 hc0
      obtain ⟨b, off, sp⟩ := a
      simp only at hsp hblk
      subst hsp
      refine ⟨b, off, rfl, hblk, memSL_of ks off fun i u hu => ?_⟩
      obtain ⟨cs', hc, hM⟩ := hp i u hu
      have h6 := (cells16 hc).2.2
      refine ⟨cs'.toArray, ?_, hM⟩
      by_cases hi0 : i = 0
      · subst hi0
        simpa [Addr.add] using h6
      · have hi6 : ¬ i * 16 = 0 := by omega
        rw [show (⟨b, off, none⟩ : Addr).add (i * 16) = ⟨b, off + i * 16, none⟩ by simp only [Addr.add, if_neg hi6]] at h6
        exact h6
set_option maxRecDepth 100000 in
theorem test_value {r : Reach} {b0 : Nat} {v : Value} {d : DataW H} {p : List MemPlace}
    (hv : Value.okWide Tryz.prog w r b0 29 v) (h : DataW.Trod enc Tryz.prog w base spare held 29 v d p) :
    ∃ (T : TS) (u : Array Value), v = .agg u ∧ MemS w.heap.size w T u := by
  obtain ⟨cs, rfl, hsz⟩ := okWide_struct Tryz.underlying29 hv
  obtain ⟨fuel, hf⟩ := h
  obtain ⟨T, hT⟩ := test_of fuel _ _ hf
  exact ⟨T, cs, rfl, by simpa [Value.cells] using hT⟩
end
end Go.Proofs.YtcidbhegnnedoaaGreatDoor
