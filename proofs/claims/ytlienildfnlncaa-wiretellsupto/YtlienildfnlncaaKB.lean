/- Trees in memory: four cells a node; what came in is such a tree. -/
import Derived.Test.YtlienildfnlncaaKA
import Derived.Test.YtlienildfnlncaaProg
import Derived.WalkKit
import Derived.WalkSpells
import Derived.WalkLawsBesides
import Derived.Deep.QuietTactic
import Derived.BigQuiet
import Derived.Outline
import Derived.Below
import Derived.ProofKit
import Derived.OpenShut
import Derived.ChangeOld
import Derived.Lib.SmallJoins
import Derived.Carry
namespace Go.Proofs.Ytlienildfnlncaa
open Go.RowKit

theorem hide {p : Prop} (h : p) : Hid p := h
theorem unhide {p : Prop} (h : Hid p) : p := h
theorem below_new (w : World) (o : Obj) : Below w.heap.size w (w.alloc o) := (Below.refl _ _).alloc (Nat.le_refl _) o
theorem lt_of_block {w : World} {g : Nat} {o : Obj} (h : w.heap[g]? = some o) : g < w.heap.size := by
  rcases Nat.lt_or_ge g w.heap.size with h' | h'
  · exact h'
  · rw [Array.getElem?_eq_none h'] at h; cases h

/-- four cells in a row -/
def Four (w : World) (b o : Nat) (u : Array Value) : Prop :=
  ∃ u0 u1 u2 u3, u = #[u0, u1, u2, u3] ∧ w.cell? ⟨b, o, none⟩ = some u0 ∧ w.cell? ⟨b, o + 1, none⟩ = some u1 ∧ w.cell? ⟨b, o + 2, none⟩ = some u2 ∧ w.cell? ⟨b, o + 3, none⟩ = some u3
theorem Four.keep {w w' : World} {b o : Nat} {u : Array Value} (h : Four w b o u) (c : ∀ o, w'.cell? ⟨b, o, none⟩ = w.cell? ⟨b, o, none⟩) : Four w' b o u := by
  obtain ⟨u0, u1, u2, u3, hu, h0, h1, h2, h3⟩ := h
  exact ⟨u0, u1, u2, u3, hu, by rw [c, h0], by rw [c, h1], by rw [c, h2], by rw [c, h3]⟩

mutual
/-- a tree in memory, in blocks that are P -/
def MemWP (P : Nat → Prop) (w : World) : WT → Array Value → Prop
  | .mk g n t ks, v => (-9223372036854775808 ≤ n ∧ n ≤ 9223372036854775807) ∧ t.size ≤ 9223372036854775807 ∧ ks.length ≤ 9223372036854775807 ∧
    ∃ (a : Option Addr) (cap : Nat), v = #[.int .i64 g, .int .i64 n, .string t, .slice a ks.length cap] ∧ (ks ≠ [] → ∃ b off, a = some ⟨b, off, none⟩ ∧ P b ∧ MemWL P w ks b off)
def MemWL (P : Nat → Prop) (w : World) : List WT → Nat → Nat → Prop
  | [], _, _ => True
  | u :: us, b, off => (∃ cs, Four w b off cs ∧ MemWP P w u cs) ∧ MemWL P w us b (off + 4)
end
mutual
theorem MemWP.keep {P Q : Nat → Prop} {w w' : World} (hb : ∀ b, P b → Q b ∧ ∀ o, w'.cell? ⟨b, o, none⟩ = w.cell? ⟨b, o, none⟩) : ∀ {T : WT} {v : Array Value}, MemWP P w T v → MemWP Q w' T v
  | .mk g n t ks, v, h => by
    rw [MemWP] at h ⊢
    obtain ⟨h1, h2, h3, a, cap, hv, hk⟩ := h
    refine ⟨h1, h2, h3, a, cap, hv, fun hne => ?_⟩
    obtain ⟨b, off, ha, hlt, hm⟩ := hk hne
    exact ⟨b, off, ha, (hb b hlt).1, MemWL.keep hb hlt hm⟩
theorem MemWL.keep {P Q : Nat → Prop} {w w' : World} (hb : ∀ b, P b → Q b ∧ ∀ o, w'.cell? ⟨b, o, none⟩ = w.cell? ⟨b, o, none⟩) : ∀ {ks : List WT} {b off : Nat}, P b → MemWL P w ks b off → MemWL Q w' ks b off
  | [], _, _, _, _ => by rw [MemWL]; trivial
  | u :: us, b, off, hlt, h => by
    rw [MemWL] at h ⊢
    obtain ⟨⟨cs, h6, hm⟩, hr⟩ := h
    exact ⟨⟨cs, h6.keep (hb b hlt).2, MemWP.keep hb hm⟩, MemWL.keep hb hlt hr⟩
end
/-- a tree in memory, below B -/
def MemW (B : Nat) (w : World) (T : WT) (v : Array Value) : Prop := MemWP (· < B) w T v
theorem MemW.below {B : Nat} {w w' : World} (hb : Below B w w') {T : WT} {v : Array Value} (h : MemW B w T v) : MemW B w' T v :=
  MemWP.keep (fun b hlt => ⟨hlt, fun o => hb.cell (p := ⟨b, o, none⟩) hlt⟩) h
theorem MemW.mono {B B' : Nat} {w : World} (hB : B ≤ B') {T : WT} {v : Array Value} (h : MemW B w T v) : MemW B' w T v :=
  MemWP.keep (fun _ hlt => ⟨Nat.lt_of_lt_of_le hlt hB, fun _ => rfl⟩) h
def MemL (B : Nat) (w : World) (ks : List WT) (b off : Nat) : Prop := MemWL (· < B) w ks b off
theorem MemL.below {B : Nat} {w w' : World} (hb : Below B w w') {ks : List WT} {b off : Nat} (hlt : b < B) (h : MemL B w ks b off) : MemL B w' ks b off :=
  MemWL.keep (fun b hlt => ⟨hlt, fun o => hb.cell (p := ⟨b, o, none⟩) hlt⟩) hlt h
theorem MemWL.at {P : Nat → Prop} {w : World} {b : Nat} : ∀ {ks : List WT} {off : Nat}, MemWL P w ks b off → ∀ (i : Nat) (u : WT), ks[i]? = some u → ∃ cs, Four w b (off + i * 4) cs ∧ MemWP P w u cs
  | [], _, _, i, u, hu => by simp at hu
  | v :: vs, off, h, 0, u, hu => by
    rw [MemWL] at h
    simp at hu
    subst hu
    simpa using h.1
  | v :: vs, off, h, i + 1, u, hu => by
    rw [MemWL] at h
    have := MemWL.at h.2 i u (by simpa using hu)
    rwa [show off + 4 + i * 4 = off + (i + 1) * 4 by omega] at this
theorem memWL_of {P : Nat → Prop} {w : World} {b : Nat} : ∀ (ks : List WT) (off : Nat), (∀ i u, ks[i]? = some u → ∃ cs, Four w b (off + i * 4) cs ∧ MemWP P w u cs) → MemWL P w ks b off
  | [], off, _ => by rw [MemWL]; trivial
  | u :: us, off, h => by
    rw [MemWL]
    refine ⟨by have := h 0 u rfl; rw [Nat.zero_mul, Nat.add_zero] at this; exact this, memWL_of us (off + 4) fun i v hv => ?_⟩
    have := h (i + 1) v (by simpa using hv)
    rwa [show off + (i + 1) * 4 = off + 4 + i * 4 by omega] at this
mutual
/-- what is in memory fits -/
theorem MemWP.fit {P : Nat → Prop} {w : World} : ∀ {T : WT} {v : Array Value}, MemWP P w T v → fitW T
  | .mk g n t ks, v, h => by
    rw [MemWP] at h
    rw [fitW]
    obtain ⟨h1, h2, h3, a, cap, hv, hk⟩ := h
    refine ⟨h1.1, h1.2, h2, h3, ?_⟩
    by_cases hne : ks = []
    · rw [hne, fitL]; trivial
    · obtain ⟨b, off, _, _, hm⟩ := hk hne
      exact MemWL.fit hm
theorem MemWL.fit {P : Nat → Prop} {w : World} : ∀ {ks : List WT} {b off : Nat}, MemWL P w ks b off → fitL ks
  | [], _, _, _ => by rw [fitL]; trivial
  | u :: us, b, off, h => by
    rw [MemWL] at h
    rw [fitL]
    obtain ⟨⟨cs, h6, hm⟩, hr⟩ := h
    exact ⟨MemWP.fit hm, MemWL.fit hr⟩
end

section
open Go.ChangeShapes Go.WideShapes Go.ChangeAt Go.Joins
theorem cellsW : Try.prog.cellsOf 24 = 4 := by kernel_rfl
theorem cellsInt : Try.prog.cellsOf 3 = 1 := by kernel_rfl
theorem cellsI64 : Try.prog.cellsOf 2 = 1 := by kernel_rfl
theorem cellsStr : Try.prog.cellsOf 9 = 1 := by kernel_rfl
theorem cellsWs : Try.prog.cellsOf 22 = 1 := by kernel_rfl
theorem laidOutT : laidOutB Try.prog = true := by kernel_rfl
theorem array4 {α : Type} {cs : Array α} (h : cs.size = 4) : ∃ c0 c1 c2 c3, cs = #[c0, c1, c2, c3] := by
  obtain ⟨l⟩ := cs
  match l, h with
  | [c0, c1, c2, c3], _ => exact ⟨c0, c1, c2, c3, rfl⟩
theorem list4 {α : Type} {l : List α} (h : l.length = 4) : ∃ c0 c1 c2 c3, l = [c0, c1, c2, c3] := by
  match l, h with
  | [c0, c1, c2, c3], _ => exact ⟨c0, c1, c2, c3, rfl⟩
theorem cell_spotT {w : World} {a : Addr} {v : Value} (h : w.cell? a = some v) : a.spot = none := by
  unfold World.cell? at h
  split at h
  · by_cases e : a.spot.isSome = true
    · rw [if_pos e] at h; cases h
    · simpa using e
  · cases h
theorem cells4 {w : World} {base : Nat} {a : Addr} {cs : List Value} (h : w.cells? base a 4 = some cs) : a.spot = none ∧ a.block < w.heap.size ∧ Four w a.block a.off cs.toArray := by
  unfold World.cells? at h
  split at h
  case isFalse => cases h
  simp only [show List.range 4 = [0, 1, 2, 3] from rfl, List.mapM_cons, List.mapM_nil, Option.bind_eq_bind, Option.pure_def, Option.bind_eq_some_iff] at h
  obtain ⟨c0, h0, r1, ⟨c1, h1, r2, ⟨c2, h2, r3, ⟨c3, h3, r4, q4, q3⟩, q2⟩, q1⟩, hcs⟩ := h
  cases q4
  cases q3
  cases q2
  cases q1
  have hs : a.spot = none := by
    have := cell_spotT h0
    simpa [Addr.add] using this
  have hb : a.block < w.heap.size := by
    have := World.block_lt_of_cell? w _ h0
    simpa [Addr.add] using this
  obtain ⟨b, o, sp⟩ := a
  simp only at hs
  subst hs
  simp only [Option.some.injEq] at hcs
  subst hcs
  refine ⟨rfl, hb, c0, c1, c2, c3, rfl, ?_, ?_, ?_, ?_⟩
  · simpa [Addr.add] using h0
  · simpa [Addr.add] using h1
  · simpa [Addr.add] using h2
  · simpa [Addr.add] using h3
theorem choose_listT {α : Type} {P : Nat → α → Prop} : ∀ (n : Nat), (∀ i, i < n → ∃ x, P i x) → ∃ l : List α, l.length = n ∧ ∀ i x, l[i]? = some x → P i x := by
  intro n
  induction n with
  | zero => intro _; exact ⟨[], rfl, fun i x h => by simp at h⟩
  | succ n ih =>
    intro h
    obtain ⟨l, hl, hp⟩ := ih (fun i hi => h i (by omega))
    obtain ⟨x, hx⟩ := h n (by omega)
    refine ⟨l ++ [x], by simp [hl], fun i y hy => ?_⟩
    rcases Nat.lt_or_ge i n with hi | hi
    · rw [List.getElem?_append_left (by omega)] at hy
      exact hp i y hy
    · rw [List.getElem?_append_right (by omega)] at hy
      have : i = n := by
        rcases Nat.eq_or_lt_of_le hi with e | e
        · exact e.symm
        · rw [List.getElem?_eq_none (by simp; omega)] at hy; cases hy
      subst this
      simp [hl] at hy
      rw [← hy]; exact hx
theorem wf_i64 {n : Int} (h : (Lit.int .i64 n).wf = true) : -9223372036854775808 ≤ n ∧ n ≤ 9223372036854775807 := by
  simp [Lit.wf, IntKind.min, IntKind.max, IntKind.bits, IntKind.signed] at h
  omega

section
variable {H : Type} {enc : TypeId × Value → H} {w : World} {base : Nat} {spare : Nat → Bool} {held : Bool}
set_option maxRecDepth 100000 in
theorem wtree_of : ∀ (fuel : Nat) (cs : List Value) (x : DataW H × List MemPlace), DataW.trod enc Try.prog w base spare held fuel 24 cs = some x → ∃ T, MemW w.heap.size w T cs.toArray := by
  intro fuel
  induction fuel using Nat.strongRecOn with
  | _ fuel ih =>
    intro cs x hf
    obtain ⟨xs, n, hn, hx, hl, hlen, hf⟩ := DataW.trod_struct Try.underlying24 hf
    rw [cellsW] at hl
    obtain ⟨c0, c1, c2, c3, hcs⟩ := array4 (cs := cs.toArray) (by simpa using hl)
    obtain rfl : cs = [c0, c1, c2, c3] := by simpa using congrArg Array.toList hcs
    clear hcs
    have h0 := hf 0 _ rfl
    have h1 := hf 1 _ rfl
    have h2 := hf 2 _ rfl
    have h3 := hf 3 _ rfl
    simp [cellsInt, cellsI64, cellsStr, cellsWs] at h0 h1 h2 h3
    obtain ⟨y0, y1, y2, y3, rfl⟩ := list4 hlen
    simp at h0 h1 h2 h3
    obtain ⟨g, e0, _⟩ := DataW.trod_int Try.underlying3 h0
    obtain ⟨z, e1, _, hz⟩ := DataW.trod_int Try.underlying2 h1
    obtain ⟨t, e2, _, ht⟩ := DataW.trod_string Try.underlying9 h2
    simp at e0 e1 e2
    subst e0 e1 e2
    have hz' := wf_i64 hz
    have ht' : t.size ≤ 9223372036854775807 := by unfold maxLen at ht; omega
    rcases DataW.trod_slice Try.underlying22 h3 with ⟨e5, _⟩ | ⟨a, len, cap, elems, rest, n', hn', e5, _, _, hlc, hm, hel, hat, _⟩
    · simp at e5
      subst e5
      refine ⟨.mk g z t [], ?_⟩
      rw [MemW, MemWP]
      exact ⟨hz', ht', by simp, none, 0, rfl, fun h => absurd rfl h⟩
    · simp at e5
      subst e5
      have each : ∀ i, i < len → ∃ T, ∃ cs', w.cells? base (a.add (i * 4)) 4 = some cs' ∧ MemW w.heap.size w T cs'.toArray := by
        intro i hi
        have := hat i hi
        rw [cellsW, List.getElem?_eq_getElem (by omega), Option.bind_eq_some_iff] at this
        obtain ⟨cs', hc, ht2⟩ := this
        obtain ⟨T, hT⟩ := ih n' (by omega) cs' _ ht2
        exact ⟨T, cs', hc, hT⟩
      obtain ⟨ks, hks, hp⟩ := choose_listT len each
      have hm' : cap ≤ 9223372036854775807 := by unfold maxLen at hm; omega
      refine ⟨.mk g z t ks, ?_⟩
      rw [MemW, MemWP]
      refine ⟨hz', ht', by omega, some a, cap, by rw [hks], fun hne => ?_⟩
      have hpos : 0 < len := by
        rcases Nat.eq_zero_or_pos len with e | e
        · rw [e] at hks; exact absurd (List.length_eq_zero_iff.1 hks) hne
        · exact e
      obtain ⟨_, cs0, hc0, _⟩ := each 0 hpos
      simp only [Nat.zero_mul] at hc0
      have h00 : a.add 0 = a := rfl
      rw [h00] at hc0
      obtain ⟨hsp, hblk, _⟩ := cells4 hc0
      obtain ⟨b, off, sp⟩ := a
      simp only at hsp hblk
      subst hsp
      refine ⟨b, off, rfl, hblk, memWL_of ks off fun i u hu => ?_⟩
      obtain ⟨cs', hc, hM⟩ := hp i u hu
      have h6 := (cells4 hc).2.2
      refine ⟨cs'.toArray, ?_, hM⟩
      by_cases hi0 : i = 0
      · subst hi0
        simpa [Addr.add] using h6
      · have hi6 : ¬ i * 4 = 0 := by omega
        rw [show (⟨b, off, none⟩ : Addr).add (i * 4) = ⟨b, off + i * 4, none⟩ by simp only [Addr.add, if_neg hi6]] at h6
        exact h6
set_option maxRecDepth 100000 in
theorem wtree_value {r : Reach} {b0 : Nat} {v : Value} {d : DataW H} {p : List MemPlace}
    (hv : Value.okWide Try.prog w r b0 24 v) (h : DataW.Trod enc Try.prog w base spare held 24 v d p) :
    ∃ (T : WT) (u : Array Value), v = .agg u ∧ MemW w.heap.size w T u := by
  obtain ⟨cs, rfl, hsz⟩ := okWide_struct Try.underlying24 hv
  obtain ⟨fuel, hf⟩ := h
  obtain ⟨T, hT⟩ := wtree_of fuel _ _ hf
  exact ⟨T, cs, rfl, by simpa [Value.cells] using hT⟩
end
end
end Go.Proofs.Ytlienildfnlncaa
