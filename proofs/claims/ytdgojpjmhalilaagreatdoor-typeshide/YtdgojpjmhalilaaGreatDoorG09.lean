/- Walks: wrongOf, size, cmp.Compare, stretched, compareSizes, Cmp. -/
import Derived.Test.YtdgojpjmhalilaaGreatDoorG04
import Derived.Deep.RegionWith
import Derived.Deep.Cut
import Derived.Deep.CutRange
import Derived.Deep.LoopGhost
import Derived.Test.YtdgojpjmhalilaaGreatDoorProg
import Derived.WalkKit
import Derived.WalkSpells
import Derived.WalkLawsBesides
import Derived.Deep.QuietTactic
import Derived.BigQuiet
import Derived.Outline
import Derived.Test.YtdgojpjmhalilaaGreatDoorG08
namespace Go.Proofs.YtdgojpjmhalilaaGreatDoor
open Go.RowKit

theorem bcell {W w1 : World} (hb : Below W.heap.size W w1) : (∀ b o, b < W.heap.size → w1.cell? ⟨b, o, none⟩ = W.cell? ⟨b, o, none⟩) ∧ (∀ b o, b < W.heap.size → w1.frozen? ⟨b, o, none⟩ = W.frozen? ⟨b, o, none⟩) :=
  ⟨fun b o h => hb.cell (p := ⟨b, o, none⟩) h, fun b o h => hb.frozen (p := ⟨b, o, none⟩) h⟩
end Go.Proofs.YtdgojpjmhalilaaGreatDoor

/- Walks: stretched, compareSizes, Cmp. -/
namespace Go.Proofs.YtdgojpjmhalilaaGreatDoor
open Go.RowKit

end Go.Proofs.YtdgojpjmhalilaaGreatDoor

/- Walks: Cmp. -/
namespace Go.Proofs.YtdgojpjmhalilaaGreatDoor
open Go.RowKit
end Go.Proofs.YtdgojpjmhalilaaGreatDoor

/- Walks: what is known of a value (isTrue, isFalse, truth, null, Not, And, Or). -/
namespace Go.Proofs.YtdgojpjmhalilaaGreatDoor
open Go.RowKit


/-- yes 2, not known 1, no 0 -/
def tv (k : Int) (y : Bool) : Nat := if k = 2 then (if y then 2 else 0) else 1
def kd (h : Nat) : Int := if h = 1 then 1 else 2
def yd (h : Nat) : Bool := h == 2
/-- what is told of halves -/
abbrev told (h : Nat) : Value := .agg #[.int .i64 (kd h), .bool (yd h), .int .i64 0, .int .i64 0, .string ⟨#[]⟩, .slice none 0 0]

theorem ret_told {a b : Nat} (h : a = b) : Ending.returned (told a) = .returned (told b) := by rw [h]

/-- a block of a value's six cells that is carried along -/
structure Box (w : World) (b : Nat) (v : Array Value) : Prop where
  low : b < w.heap.size
  at0 : w.cell? ⟨b, 0, none⟩ = some (v.getD 0 (.bool false))
  at1 : w.cell? ⟨b, 1, none⟩ = some (v.getD 1 (.bool false))
  at2 : w.cell? ⟨b, 2, none⟩ = some (v.getD 2 (.bool false))
  at3 : w.cell? ⟨b, 3, none⟩ = some (v.getD 3 (.bool false))
  at4 : w.cell? ⟨b, 4, none⟩ = some (v.getD 4 (.bool false))
  at5 : w.cell? ⟨b, 5, none⟩ = some (v.getD 5 (.bool false))
  free : ∀ o, w.frozen? ⟨b, o, none⟩ = false
theorem Box.keep {w w' : World} {b n : Nat} {v : Array Value} (h : Box w b v) (hb : Below n w w') (l : b < n) : Box w' b v := by
  have c : ∀ o, w'.cell? ⟨b, o, none⟩ = w.cell? ⟨b, o, none⟩ := fun o => hb.cell (p := ⟨b, o, none⟩) l
  exact ⟨Nat.lt_of_lt_of_le h.low hb.size, by rw [c]; exact h.at0, by rw [c]; exact h.at1, by rw [c]; exact h.at2, by rw [c]; exact h.at3, by rw [c]; exact h.at4, by rw [c]; exact h.at5, fun o => by rw [hb.frozen (p := ⟨b, o, none⟩) l]; exact h.free o⟩
theorem Box.tell {w : World} {b : Nat} {a0 a1 a2 a3 a4 a5 : Value} (h : Box w b #[a0, a1, a2, a3, a4, a5]) :
    w.cell? ⟨b, 0, none⟩ = some a0 ∧ w.cell? ⟨b, 1, none⟩ = some a1 ∧ w.cell? ⟨b, 2, none⟩ = some a2 ∧ w.cell? ⟨b, 3, none⟩ = some a3 ∧ w.cell? ⟨b, 4, none⟩ = some a4 ∧ w.cell? ⟨b, 5, none⟩ = some a5 :=
  ⟨h.at0, h.at1, h.at2, h.at3, h.at4, h.at5⟩
theorem Box.thaw {w : World} {b : Nat} {v : Array Value} (h : Box w b v) :
    w.frozen? ⟨b, 0, none⟩ = false ∧ w.frozen? ⟨b, 1, none⟩ = false ∧ w.frozen? ⟨b, 2, none⟩ = false ∧ w.frozen? ⟨b, 3, none⟩ = false ∧ w.frozen? ⟨b, 4, none⟩ = false ∧ w.frozen? ⟨b, 5, none⟩ = false :=
  ⟨h.free 0, h.free 1, h.free 2, h.free 3, h.free 4, h.free 5⟩
theorem Box.new {w : World} {t : TypeId} {a0 a1 a2 a3 a4 a5 : Value} : Box (w.alloc (.cells #[a0, a1, a2, a3, a4, a5] t)) w.heap.size #[a0, a1, a2, a3, a4, a5] := by
  constructor <;> simp [go_sem]
theorem Box.over {w : World} {b : Nat} {v : Array Value} {o : Obj} (h : Box w b v) : Box (w.alloc o) b v :=
  h.keep ((Below.refl _ _).alloc (Nat.le_refl _) _) h.low
theorem vbelow_new (w : World) (o : Obj) : Below w.heap.size w (w.alloc o) := (Below.refl _ _).alloc (Nat.le_refl _) _
theorem box2 {w w1 : World} {s t : TypeId} {a0 a1 a2 a3 a4 a5 b0 b1 b2 b3 b4 b5 : Value} (hb : Below ((w.alloc (.cells #[a0, a1, a2, a3, a4, a5] s)).alloc (.cells #[b0, b1, b2, b3, b4, b5] t)).heap.size ((w.alloc (.cells #[a0, a1, a2, a3, a4, a5] s)).alloc (.cells #[b0, b1, b2, b3, b4, b5] t)) w1) :
    Box w1 w.heap.size #[a0, a1, a2, a3, a4, a5] ∧ Box w1 (w.heap.size + 1) #[b0, b1, b2, b3, b4, b5] ∧ Below w.heap.size w w1 := by
  refine ⟨Box.new.over.keep hb (by simp; omega), ?_, (((Below.refl _ _).alloc (Nat.le_refl _) _).alloc (by simp) _).trans (hb.mono (by simp; omega))⟩
  have := (Box.new (w := w.alloc (.cells #[a0, a1, a2, a3, a4, a5] s)) (t := t) (a0 := b0) (a1 := b1) (a2 := b2) (a3 := b3) (a4 := b4) (a5 := b5)).keep hb (by simp)
  simpa using this
theorem box3 {w w1 : World} {s t u : TypeId} {a0 a1 a2 a3 a4 a5 b0 b1 b2 b3 b4 b5 c0 c1 c2 c3 c4 c5 : Value} (hb : Below (((w.alloc (.cells #[a0, a1, a2, a3, a4, a5] s)).alloc (.cells #[b0, b1, b2, b3, b4, b5] t)).alloc (.cells #[c0, c1, c2, c3, c4, c5] u)).heap.size (((w.alloc (.cells #[a0, a1, a2, a3, a4, a5] s)).alloc (.cells #[b0, b1, b2, b3, b4, b5] t)).alloc (.cells #[c0, c1, c2, c3, c4, c5] u)) w1) :
    Box w1 w.heap.size #[a0, a1, a2, a3, a4, a5] ∧ Box w1 (w.heap.size + 1) #[b0, b1, b2, b3, b4, b5] ∧ Box w1 (w.heap.size + 1 + 1) #[c0, c1, c2, c3, c4, c5] ∧ Below w.heap.size w w1 := by
  have B := (Box.new (w := w.alloc (.cells #[a0, a1, a2, a3, a4, a5] s)) (t := t) (a0 := b0) (a1 := b1) (a2 := b2) (a3 := b3) (a4 := b4) (a5 := b5)).over.keep hb (by simp <;> omega)
  have C := (Box.new (w := (w.alloc (.cells #[a0, a1, a2, a3, a4, a5] s)).alloc (.cells #[b0, b1, b2, b3, b4, b5] t)) (t := u) (a0 := c0) (a1 := c1) (a2 := c2) (a3 := c3) (a4 := c4) (a5 := c5)).keep hb (by simp)
  refine ⟨Box.new.over.over.keep hb (by simp; omega), by simpa using B, by simpa using C, ((((Below.refl _ _).alloc (Nat.le_refl _) _).alloc (by simp) _).alloc (by simp; omega) _).trans (hb.mono (by simp; omega))⟩

theorem tv_three (k : Int) (y : Bool) : tv k y = 0 ∨ tv k y = 1 ∨ tv k y = 2 := by
  unfold tv; cases y <;> by_cases h : k = 2 <;> simp [h]
end Go.Proofs.YtdgojpjmhalilaaGreatDoor

/- Walks: Same and finer of what is told; alive. -/
namespace Go.Proofs.YtdgojpjmhalilaaGreatDoor
open Go.RowKit

/-- a store into another block -/
theorem Box.aside {w : World} {b n j : Nat} {v : Array Value} {x : Value} (h : Box w b v) (ne : n ≠ b) : Box (w.setCell ⟨n, j, none⟩ x) b v := by
  have bl := Below.heap_setCell w ⟨n, j, none⟩ x b (fun e => ne e.symm)
  have c : ∀ o, (w.setCell ⟨n, j, none⟩ x).cell? ⟨b, o, none⟩ = w.cell? ⟨b, o, none⟩ := fun o => World.cell?_of_block (w := w) (a := ⟨b, o, none⟩) bl
  have f : ∀ o, (w.setCell ⟨n, j, none⟩ x).frozen? ⟨b, o, none⟩ = w.frozen? ⟨b, o, none⟩ := fun o => World.frozen?_of_block (w := w) (a := ⟨b, o, none⟩) bl
  exact ⟨by simp [World.setCell]; exact h.low, by rw [c]; exact h.at0, by rw [c]; exact h.at1, by rw [c]; exact h.at2, by rw [c]; exact h.at3, by rw [c]; exact h.at4, by rw [c]; exact h.at5, fun o => by rw [f]; exact h.free o⟩
/-- a value stored whole -/
abbrev put6 (w : World) (b : Nat) (v0 v1 v2 v3 v4 v5 : Value) : World :=
  (((((w.setCell ⟨b, 0, none⟩ v0).setCell ⟨b, 1, none⟩ v1).setCell ⟨b, 2, none⟩ v2).setCell ⟨b, 3, none⟩ v3).setCell ⟨b, 4, none⟩ v4).setCell ⟨b, 5, none⟩ v5
theorem Box.put {w : World} {b : Nat} {a0 a1 a2 a3 a4 a5 : Value} (h : Box w b #[a0, a1, a2, a3, a4, a5]) (v0 v1 v2 v3 v4 v5 : Value) : Box (put6 w b v0 v1 v2 v3 v4 v5) b #[v0, v1, v2, v3, v4, v5] := by
  obtain ⟨h0, h1, h2, h3, h4, h5⟩ := h.tell
  have fr := h.free
  refine ⟨by simp [put6, World.setCell]; exact h.low, ?_, ?_, ?_, ?_, ?_, ?_, ?_⟩
  · simp [put6, go_sem, h0]
  · simp [put6, go_sem, h1]
  · simp [put6, go_sem, h2]
  · simp [put6, go_sem, h3]
  · simp [put6, go_sem, h4]
  · simp [put6, go_sem, h5]
  · intro o
    simp [put6, go_sem, fr]
theorem Box.aside6 {w : World} {b n : Nat} {v : Array Value} {v0 v1 v2 v3 v4 v5 : Value} (h : Box w b v) (ne : n ≠ b) : Box (put6 w n v0 v1 v2 v3 v4 v5) b v :=
  (((((h.aside ne).aside ne).aside ne).aside ne).aside ne).aside ne
theorem below_put6 {w0 w : World} {m n : Nat} {v0 v1 v2 v3 v4 v5 : Value} (h : Below m w0 w) (l : m ≤ n) : Below m w0 (put6 w n v0 v1 v2 v3 v4 v5) :=
  (((((h.setCell l _).setCell l _).setCell l _).setCell l _).setCell l _).setCell l _

theorem tv_told {h : Nat} (l : h ≤ 2) : tv (kd h) (yd h) = h := by
  rcases (by omega : h = 0 ∨ h = 1 ∨ h = 2) with rfl | rfl | rfl <;> rfl
end Go.Proofs.YtdgojpjmhalilaaGreatDoor

/- Values as trees: how one lies in memory. -/
namespace Go.Proofs.YtdgojpjmhalilaaGreatDoor
open Go.RowKit

inductive Tree where
  | mk (k : Int) (y : Bool) (c x : Int) (t : ByteArray) (ks : List Tree)

/-- six cells in a row -/
def Six (w : World) (b o : Nat) (u : Array Value) : Prop := ∃ u0 u1 u2 u3 u4 u5, u = #[u0, u1, u2, u3, u4, u5] ∧ w.cell? ⟨b, o, none⟩ = some u0 ∧ w.cell? ⟨b, o + 1, none⟩ = some u1 ∧ w.cell? ⟨b, o + 2, none⟩ = some u2 ∧ w.cell? ⟨b, o + 3, none⟩ = some u3 ∧ w.cell? ⟨b, o + 4, none⟩ = some u4 ∧ w.cell? ⟨b, o + 5, none⟩ = some u5
theorem Six.below {B : Nat} {w w' : World} {b o : Nat} {u : Array Value} (h : Six w b o u) (hb : Below B w w') (l : b < B) : Six w' b o u := by
  have c : ∀ o, w'.cell? ⟨b, o, none⟩ = w.cell? ⟨b, o, none⟩ := fun o => hb.cell (p := ⟨b, o, none⟩) l
  obtain ⟨u0, u1, u2, u3, u4, u5, hu, h0, h1, h2, h3, h4, h5⟩ := h
  exact ⟨u0, u1, u2, u3, u4, u5, hu, by rw [c, h0], by rw [c, h1], by rw [c, h2], by rw [c, h3], by rw [c, h4], by rw [c, h5]⟩

mutual
/-- a tree in memory, below B -/
def Mem (B : Nat) (w : World) : Tree → Array Value → Prop
  | .mk k y c x t ks, v => t.size ≤ 9223372036854775807 ∧ ks.length ≤ 9223372036854775807 ∧
    ∃ (a : Option Addr) (cap : Nat), v = #[.int .i64 k, .bool y, .int .i64 c, .int .i64 x, .string t, .slice a ks.length cap] ∧ (ks ≠ [] → ∃ b off, a = some ⟨b, off, none⟩ ∧ b < B ∧ MemL B w ks b off)
def MemL (B : Nat) (w : World) : List Tree → Nat → Nat → Prop
  | [], _, _ => True
  | u :: us, b, off => (∃ cs, Six w b off cs ∧ Mem B w u cs) ∧ MemL B w us b (off + 6)
end

mutual
theorem Mem.below {B : Nat} {w w' : World} (hb : Below B w w') : ∀ {T : Tree} {v : Array Value}, Mem B w T v → Mem B w' T v
  | .mk k y c x t ks, v, h => by
    rw [Mem] at h ⊢
    obtain ⟨h1, h2, a, cap, hv, hk⟩ := h
    refine ⟨h1, h2, a, cap, hv, fun hne => ?_⟩
    obtain ⟨b, off, ha, hlt, hm⟩ := hk hne
    exact ⟨b, off, ha, hlt, MemL.below hb hlt hm⟩
theorem MemL.below {B : Nat} {w w' : World} (hb : Below B w w') : ∀ {ks : List Tree} {b off : Nat}, b < B → MemL B w ks b off → MemL B w' ks b off
  | [], _, _, _, _ => by rw [MemL]; trivial
  | u :: us, b, off, hlt, h => by
    rw [MemL] at h ⊢
    obtain ⟨⟨cs, h6, hm⟩, hr⟩ := h
    exact ⟨⟨cs, h6.below hb hlt, Mem.below hb hm⟩, MemL.below hb hlt hr⟩
end
theorem MemL.at {B : Nat} {w : World} : ∀ {ks : List Tree} {b off : Nat}, MemL B w ks b off → ∀ (i : Nat) (u : Tree), ks[i]? = some u → ∃ cs, Six w b (off + i * 6) cs ∧ Mem B w u cs
  | [], b, off, _, i, u, hi => by simp at hi
  | v :: vs, b, off, h, 0, u, hi => by
    rw [MemL] at h
    simp only [List.getElem?_cons_zero, Option.some.injEq] at hi
    subst hi
    simpa using h.1
  | v :: vs, b, off, h, i + 1, u, hi => by
    rw [MemL] at h
    obtain ⟨cs, h6, hm⟩ := MemL.at h.2 i u (by simpa using hi)
    exact ⟨cs, by rw [show off + (i + 1) * 6 = off + 6 + i * 6 by omega]; exact h6, hm⟩

mutual
theorem Mem.mono {B B' : Nat} {w : World} (hB : B ≤ B') : ∀ {T : Tree} {v : Array Value}, Mem B w T v → Mem B' w T v
  | .mk k y c x t ks, v, h => by
    rw [Mem] at h ⊢
    obtain ⟨h1, h2, a, cap, hv, hk⟩ := h
    refine ⟨h1, h2, a, cap, hv, fun hne => ?_⟩
    obtain ⟨b, off, ha, hlt, hm⟩ := hk hne
    exact ⟨b, off, ha, Nat.lt_of_lt_of_le hlt hB, MemL.mono hB hm⟩
theorem MemL.mono {B B' : Nat} {w : World} (hB : B ≤ B') : ∀ {ks : List Tree} {b off : Nat}, MemL B w ks b off → MemL B' w ks b off
  | [], _, _, _ => by rw [MemL]; trivial
  | u :: us, b, off, h => by
    rw [MemL] at h ⊢
    obtain ⟨⟨cs, h6, hm⟩, hr⟩ := h
    exact ⟨⟨cs, h6, Mem.mono hB hm⟩, MemL.mono hB hr⟩
end

/-- the counter -/
def St (w : World) (p s : Nat) : Prop := w.cell? ⟨p, 0, none⟩ = some (.int .i64 (s : Int)) ∧ w.frozen? ⟨p, 0, none⟩ = false ∧ p < w.heap.size
theorem St.below {n : Nat} {w w' : World} {p s : Nat} (h : St w p s) (hb : Below n w w') (l : p < n) : St w' p s :=
  ⟨(hb.cell (p := ⟨p, 0, none⟩) l).trans h.1, (hb.frozen (p := ⟨p, 0, none⟩) l).trans h.2.1, Nat.lt_of_lt_of_le h.2.2 hb.size⟩

end Go.Proofs.YtdgojpjmhalilaaGreatDoor

/- Expressions as trees in memory: nine cells a node. -/
namespace Go.Proofs.YtdgojpjmhalilaaGreatDoor
open Go.RowKit

/-- an expression: kind, value, name, kids -/
inductive XT where
  | mk (k : Int) (v : Tree) (s : ByteArray) (ks : List XT)

/-- nine cells in a row -/
def Nine (w : World) (b o : Nat) (u : Array Value) : Prop := ∃ u0 u1 u2 u3 u4 u5 u6 u7 u8, u = #[u0, u1, u2, u3, u4, u5, u6, u7, u8] ∧ w.cell? ⟨b, o, none⟩ = some u0 ∧ w.cell? ⟨b, o + 1, none⟩ = some u1 ∧ w.cell? ⟨b, o + 2, none⟩ = some u2 ∧ w.cell? ⟨b, o + 3, none⟩ = some u3 ∧ w.cell? ⟨b, o + 4, none⟩ = some u4 ∧ w.cell? ⟨b, o + 5, none⟩ = some u5 ∧ w.cell? ⟨b, o + 6, none⟩ = some u6 ∧ w.cell? ⟨b, o + 7, none⟩ = some u7 ∧ w.cell? ⟨b, o + 8, none⟩ = some u8
theorem Nine.below {B : Nat} {w w' : World} {b o : Nat} {u : Array Value} (h : Nine w b o u) (hb : Below B w w') (l : b < B) : Nine w' b o u := by
  have c : ∀ o, w'.cell? ⟨b, o, none⟩ = w.cell? ⟨b, o, none⟩ := fun o => hb.cell (p := ⟨b, o, none⟩) l
  obtain ⟨u0, u1, u2, u3, u4, u5, u6, u7, u8, hu, h0, h1, h2, h3, h4, h5, h6, h7, h8⟩ := h
  exact ⟨u0, u1, u2, u3, u4, u5, u6, u7, u8, hu, by rw [c, h0], by rw [c, h1], by rw [c, h2], by rw [c, h3], by rw [c, h4], by rw [c, h5], by rw [c, h6], by rw [c, h7], by rw [c, h8]⟩

mutual
/-- an expression in memory, below B -/
def XMem (B : Nat) (w : World) : XT → Array Value → Prop
  | .mk k v s ks, x => s.size ≤ 9223372036854775807 ∧ ks.length ≤ 9223372036854775807 ∧
    ∃ (vk : Int) (vy : Bool) (vc vx : Int) (vt : ByteArray) (va : Option Addr) (vn vp : Nat) (a : Option Addr) (cap : Nat),
      x = #[.int .i64 k, .int .i64 vk, .bool vy, .int .i64 vc, .int .i64 vx, .string vt, .slice va vn vp, .string s, .slice a ks.length cap] ∧ Mem B w v #[.int .i64 vk, .bool vy, .int .i64 vc, .int .i64 vx, .string vt, .slice va vn vp] ∧
      (ks ≠ [] → ∃ b off, a = some ⟨b, off, none⟩ ∧ b < B ∧ XMemL B w ks b off)
def XMemL (B : Nat) (w : World) : List XT → Nat → Nat → Prop
  | [], _, _ => True
  | u :: us, b, off => (∃ cs, Nine w b off cs ∧ XMem B w u cs) ∧ XMemL B w us b (off + 9)
end

mutual
theorem XMem.below {B : Nat} {w w' : World} (hb : Below B w w') : ∀ {X : XT} {x : Array Value}, XMem B w X x → XMem B w' X x
  | .mk k v s ks, x, h => by
    rw [XMem] at h ⊢
    obtain ⟨h1, h2, vk, vy, vc, vx, vt, va, vn, vp, a, cap, hx, hm, hk⟩ := h
    refine ⟨h1, h2, vk, vy, vc, vx, vt, va, vn, vp, a, cap, hx, Mem.below hb hm, fun hne => ?_⟩
    obtain ⟨b, off, ha, hlt, hm⟩ := hk hne
    exact ⟨b, off, ha, hlt, XMemL.below hb hlt hm⟩
theorem XMemL.below {B : Nat} {w w' : World} (hb : Below B w w') : ∀ {ks : List XT} {b off : Nat}, b < B → XMemL B w ks b off → XMemL B w' ks b off
  | [], _, _, _, _ => by rw [XMemL]; trivial
  | u :: us, b, off, hlt, h => by
    rw [XMemL] at h ⊢
    obtain ⟨⟨cs, h6, hm⟩, hr⟩ := h
    exact ⟨⟨cs, h6.below hb hlt, XMem.below hb hm⟩, XMemL.below hb hlt hr⟩
end
mutual
theorem XMem.mono {B B' : Nat} {w : World} (hB : B ≤ B') : ∀ {X : XT} {x : Array Value}, XMem B w X x → XMem B' w X x
  | .mk k v s ks, x, h => by
    rw [XMem] at h ⊢
    obtain ⟨h1, h2, vk, vy, vc, vx, vt, va, vn, vp, a, cap, hx, hm, hk⟩ := h
    refine ⟨h1, h2, vk, vy, vc, vx, vt, va, vn, vp, a, cap, hx, Mem.mono hB hm, fun hne => ?_⟩
    obtain ⟨b, off, ha, hlt, hm⟩ := hk hne
    exact ⟨b, off, ha, Nat.lt_of_lt_of_le hlt hB, XMemL.mono hB hm⟩
theorem XMemL.mono {B B' : Nat} {w : World} (hB : B ≤ B') : ∀ {ks : List XT} {b off : Nat}, XMemL B w ks b off → XMemL B' w ks b off
  | [], _, _, _ => by rw [XMemL]; trivial
  | u :: us, b, off, h => by
    rw [XMemL] at h ⊢
    obtain ⟨⟨cs, h6, hm⟩, hr⟩ := h
    exact ⟨⟨cs, h6, XMem.mono hB hm⟩, XMemL.mono hB hr⟩
end
theorem XMemL.at {B : Nat} {w : World} : ∀ {ks : List XT} {b off : Nat}, XMemL B w ks b off → ∀ (i : Nat) (u : XT), ks[i]? = some u → ∃ cs, Nine w b (off + i * 9) cs ∧ XMem B w u cs
  | [], b, off, _, i, u, hi => by simp at hi
  | v :: vs, b, off, h, 0, u, hi => by
    rw [XMemL] at h
    simp only [List.getElem?_cons_zero, Option.some.injEq] at hi
    subst hi
    simpa using h.1
  | v :: vs, b, off, h, i + 1, u, hi => by
    rw [XMemL] at h
    obtain ⟨cs, h6, hm⟩ := XMemL.at h.2 i u (by simpa using hi)
    exact ⟨cs, by rw [show off + (i + 1) * 9 = off + 9 + i * 9 by omega]; exact h6, hm⟩
theorem XMem.grow {w w' : World} {X : XT} {x : Array Value} (h : XMem w.heap.size w X x) (hb : Below w.heap.size w w') : XMem w'.heap.size w' X x := XMem.mono hb.size (XMem.below hb h)
end Go.Proofs.YtdgojpjmhalilaaGreatDoor

/- The types of expressions in plain words. -/
namespace Go.Proofs.YtdgojpjmhalilaaGreatDoor

def Sp.isB (a : Sp) (k : Int) : Bool := if k = 5 then decide (0 < a.n) else decide (a.n = 0 ∧ a.k = k)
def Sp.openB (a : Sp) : Bool := decide (a.n = 0 ∧ a.k = 1) || decide (a.n = 0 ∧ a.k = 6)
def Sp.mayB (a : Sp) (k : Int) : Bool := a.isB k || a.openB
def Sp.listed (a : Sp) : Sp := ⟨a.n + 1, a.k⟩
def Sp.elem (a : Sp) : Sp := if a.n = 0 then a else ⟨a.n - 1, a.k⟩
def Sp.meetB (a b : Sp) : Bool := Sp.openB ⟨a.n - min a.n b.n, a.k⟩ || (Sp.openB ⟨b.n - min a.n b.n, b.k⟩ || decide (a.n = b.n ∧ a.k = b.k))
def allB (l : List Sp) (k : Int) : Bool := l.all (fun a => a.mayB k)
def ordB (l : List Sp) : Bool := allB l 3 || allB l 4
def joinA (a : Sp) : List Sp → Sp
  | [] => a
  | b :: l => joinA (a.join b) l
def joinL (l : List Sp) : Sp := joinA ⟨0, 1⟩ l
def addF (a b : Sp) : Sp × Bool :=
  if (a.mayB 3 && b.mayB 3) && (a.isB 3 || b.isB 3) then (⟨0, 3⟩, true)
  else if (a.mayB 4 && b.mayB 4) && (a.isB 4 || b.isB 4) then (⟨0, 4⟩, true) else (⟨0, 6⟩, a.openB && b.openB)
def ofNodeF (k : Int) (l : List Sp) : Sp × Bool :=
  if k = 4 then addF (l.getD 0 ⟨0, 0⟩) (l.getD 1 ⟨0, 0⟩)
  else if k = 3 ∨ k = 5 ∨ k = 6 ∨ k = 7 then (⟨0, 3⟩, allB l 3)
  else if k = 8 ∨ k = 9 then (⟨0, 2⟩, (l.getD 0 ⟨0, 0⟩).meetB (l.getD 1 ⟨0, 0⟩))
  else if k = 10 ∨ k = 11 ∨ k = 12 ∨ k = 13 then (⟨0, 2⟩, ordB l)
  else if k = 14 then (⟨0, 2⟩, (l.getD 1 ⟨0, 0⟩).mayB 5 && (l.getD 0 ⟨0, 0⟩).meetB (l.getD 1 ⟨0, 0⟩).elem)
  else if k = 15 ∨ k = 16 then (⟨0, 2⟩, allB l 2)
  else if k = 17 then ((l.getD 1 ⟨0, 0⟩).join (l.getD 2 ⟨0, 0⟩), (l.getD 0 ⟨0, 0⟩).mayB 2)
  else if k = 19 then ((joinL l).listed, true) else (⟨0, 0⟩, false)

def Tree.kind : Tree → Int
  | .mk k _ _ _ _ _ => k

/-- what a function tells -/
inductive Tl where
  | always (k : Int)
  | elem
  | elems
  | sum
  | between
def tellF : Tl → List Sp → Sp × Bool
  | .always k, _ => (⟨0, k⟩, true)
  | .elem, l => ((l.getD 0 ⟨0, 0⟩).elem, true)
  | .elems, l => ((joinL (l.map Sp.elem)).listed, true)
  | .sum, l => (⟨0, 3⟩, (l.getD 0 ⟨0, 0⟩).elem.mayB 3)
  | .between, l => (⟨0, 2⟩, ordB l)
def goesB : List Int → List Sp → Bool
  | k :: ks, a :: l => (k == 0 || a.mayB k) && goesB ks l
  | _, _ => true
def ofF (tk : List Int) (t : Tl) (l : List Sp) : Sp × Bool := if goesB tk l then tellF t l else (⟨0, 0⟩, false)
/-- the functions, the last one first -/
def fnTab : List (List UInt8 × List Int × Tl) :=
  [([98, 101, 116, 119, 101, 101, 110], [0, 0, 0], .between),
   ([101, 110, 100, 115], [4, 4], .always 2),
   ([115, 116, 97, 114, 116, 115], [4, 4], .always 2),
   ([99, 111, 110, 116, 97, 105, 110, 115], [4, 4], .always 2),
   ([115, 117, 98, 115, 116, 114, 105, 110, 103], [4, 3, 3], .always 4),
   ([108, 111, 119, 101, 114], [4], .always 4),
   ([117, 112, 112, 101, 114], [4], .always 4),
   ([108, 101, 110, 103, 116, 104], [4], .always 3),
   ([99, 111, 110, 99, 97, 116], [5, 5], .elems),
   ([115, 111, 114, 116], [5], .elems),
   ([100, 105, 115, 116, 105, 110, 99, 116], [5], .elems),
   ([114, 101, 118, 101, 114, 115, 101], [5], .elems),
   ([99, 111, 117, 110, 116], [5], .always 3),
   ([115, 117, 109], [5], .sum),
   ([105, 116, 101, 109], [5, 3], .elem),
   ([109, 97, 120], [5], .elem),
   ([109, 105, 110], [5], .elem),
   ([114, 111, 117, 110, 100], [3, 3], .always 3),
   ([97, 98, 115], [3], .always 3),
   ([99, 101, 105, 108, 105, 110, 103], [3], .always 3),
   ([102, 108, 111, 111, 114], [3], .always 3),
   ([110, 111, 116], [2], .always 2)]
def fnIn : List (List UInt8 × List Int × Tl) → List UInt8 → Option (List Int × Tl)
  | [], _ => none
  | e :: tab, s => if e.1 = s then some e.2 else fnIn tab s

def orW (p : Sp × Bool) : Int × Sp := if p.2 then (0, p.1) else (9, ⟨0, 0⟩)
def litTy (k : Int) : Sp := if k = 2 then ⟨0, 2⟩ else if k = 3 then ⟨0, 3⟩ else if k = 4 then ⟨0, 4⟩ else ⟨0, 1⟩
def nameF : Option Sp → Int × Sp
  | some a => (0, a)
  | none => (7, ⟨0, 0⟩)
def callF (f : Option (List Int × Tl)) (n : Nat) (r : Int × List Sp) : Int × Sp :=
  match f with
  | none => (7, ⟨0, 0⟩)
  | some q => if n ≠ q.1.length then (5, ⟨0, 0⟩) else if r.1 ≠ 0 then (r.1, ⟨0, 0⟩) else orW (ofF q.1 q.2 r.2)
def nodeT (k : Int) (r : Int × List Sp) : Int × Sp := if r.1 ≠ 0 then (r.1, ⟨0, 0⟩) else orW (ofNodeF k r.2)
def lastF (k : Int) (q : Int × Sp) : Int × Sp := if q.1 ≠ 0 then (q.1, ⟨0, 0⟩) else if k = 20 then (0, q.2.listed) else orW (⟨0, 2⟩, q.2.mayB 2)
/-- names and their types -/
abbrev Ev := ByteArray → Option Sp
def Ev.upd (E : Ev) (s : ByteArray) (a : Option Sp) : Ev := fun x => if x = s then a else E x
theorem Ev.back (E : Ev) (s : ByteArray) (a : Option Sp) : (E.upd s a).upd s (E s) = E := by
  funext x
  unfold Ev.upd
  split
  · rename_i h; rw [h]
  · rfl

mutual
/-- an expression's type, or what is wrong -/
def tyF : XT → Ev → Int × Sp
  | .mk k v s ks, E =>
    if k = 1 then (0, litTy v.kind)
    else if k = 2 then nameF (E s)
    else if k = 18 then callF (fnIn fnTab s.data.toList) ks.length (tyL ks E)
    else if k = 20 ∨ k = 21 ∨ k = 22 then tyE k s ks E
    else nodeT k (tyL ks E)
def tyL : List XT → Ev → Int × List Sp
  | [], _ => (0, [])
  | x :: xs, E => if (tyF x E).1 ≠ 0 then ((tyF x E).1, []) else if (tyL xs E).1 ≠ 0 then ((tyL xs E).1, []) else (0, (tyF x E).2 :: (tyL xs E).2)
def tyE (k : Int) (s : ByteArray) : List XT → Ev → Int × Sp
  | [], _ => (0, ⟨0, 0⟩)
  | x :: xs, E => if (tyF x E).1 ≠ 0 then ((tyF x E).1, ⟨0, 0⟩) else if (tyF x E).2.mayB 5 = false then (9, ⟨0, 0⟩) else tyE2 k xs (E.upd s (some (tyF x E).2.elem))
def tyE2 (k : Int) : List XT → Ev → Int × Sp
  | [], _ => (0, ⟨0, 0⟩)
  | y :: _, E => lastF k (tyF y E)
end

mutual
def XT.size : XT → Nat
  | .mk _ _ _ ks => 1 + sizeL ks
def sizeL : List XT → Nat
  | [] => 0
  | x :: xs => x.size + sizeL xs
end

/-- who knows of more names is not told otherwise -/
def Ev.le (E F : Ev) : Prop := ∀ s a, E s = some a → F s = some a
theorem Ev.le.upd {E F : Ev} (h : E.le F) (s : ByteArray) (a : Option Sp) : (E.upd s a).le (F.upd s a) := by
  intro x b
  unfold Ev.upd
  split
  · exact id
  · exact h x b
theorem orW_z {p : Sp × Bool} (h : (orW p).1 ≠ 0) : (orW p).2 = ⟨0, 0⟩ := by
  unfold orW at *
  split <;> simp_all

mutual
theorem tyF_le : ∀ (x : XT) (E F : Ev), E.le F → (tyF x E).1 = 0 → tyF x F = tyF x E
  | .mk k v s ks, E, F, hl, h => by
    rw [tyF] at h
    rw [tyF, tyF]
    split
    · rfl
    rename_i h1
    rw [if_neg h1] at h
    split
    · rename_i h2
      rw [if_pos h2] at h
      cases he : E s with
      | none => rw [he] at h; exact absurd h (by decide : ¬ (7 : Int) = 0)
      | some a => rw [hl s a he]
    rename_i h2
    rw [if_neg h2] at h
    split
    · rename_i h3
      rw [if_pos h3] at h
      unfold callF at *
      cases hf : fnIn fnTab s.data.toList with
      | none => rfl
      | some q =>
        rw [hf] at h
        simp only at h ⊢
        split
        · rfl
        rename_i hn
        rw [if_neg hn] at h
        by_cases hr : (tyL ks E).1 = 0
        · rw [tyL_le ks E F hl hr]
        · rw [if_pos hr] at h
          exact absurd h hr
    rename_i h3
    rw [if_neg h3] at h
    split
    · rename_i h4
      rw [if_pos h4] at h
      exact tyE_le k s ks E F hl h
    · rename_i h4
      rw [if_neg h4] at h
      unfold nodeT at *
      by_cases hr : (tyL ks E).1 = 0
      · rw [tyL_le ks E F hl hr]
      · rw [if_pos hr] at h
        exact absurd h hr
theorem tyL_le : ∀ (ks : List XT) (E F : Ev), E.le F → (tyL ks E).1 = 0 → tyL ks F = tyL ks E
  | [], E, F, hl, h => by rw [tyL, tyL]
  | x :: xs, E, F, hl, h => by
    rw [tyL] at h
    by_cases h1 : (tyF x E).1 = 0
    · rw [if_neg (by simp [h1])] at h
      by_cases h2 : (tyL xs E).1 = 0
      · rw [tyL, tyL, tyF_le x E F hl h1, tyL_le xs E F hl h2]
      · rw [if_pos h2] at h; exact absurd h h2
    · rw [if_pos h1] at h; exact absurd h h1
theorem tyE_le : ∀ (k : Int) (s : ByteArray) (ks : List XT) (E F : Ev), E.le F → (tyE k s ks E).1 = 0 → tyE k s ks F = tyE k s ks E
  | k, s, [], E, F, hl, h => by rw [tyE, tyE]
  | k, s, x :: xs, E, F, hl, h => by
    rw [tyE] at h
    by_cases h1 : (tyF x E).1 = 0
    · rw [if_neg (by simp [h1])] at h
      have hn : ¬ (tyF x E).1 ≠ 0 := fun q => q h1
      rw [tyE, tyE, tyF_le x E F hl h1, if_neg hn, if_neg hn]
      by_cases h2 : (tyF x E).2.mayB 5 = false
      · rw [if_pos h2, if_pos h2]
      · rw [if_neg h2] at h
        rw [if_neg h2, if_neg h2]
        exact tyE2_le k xs _ _ (hl.upd _ _) h
    · rw [if_pos h1] at h; exact absurd h h1
theorem tyE2_le : ∀ (k : Int) (ks : List XT) (E F : Ev), E.le F → (tyE2 k ks E).1 = 0 → tyE2 k ks F = tyE2 k ks E
  | k, [], E, F, hl, h => by rw [tyE2, tyE2]
  | k, y :: ys, E, F, hl, h => by
    rw [tyE2] at h
    rw [tyE2, tyE2]
    by_cases h1 : (tyF y E).1 = 0
    · rw [tyF_le y E F hl h1]
    · unfold lastF at h
      rw [if_pos h1] at h
      exact absurd h h1
end

/-- how many lists are around what names stand for -/
def Ev.bd (E : Ev) (M : Nat) : Prop := ∀ s a, E s = some a → a.n ≤ M
theorem Ev.bd.upd {E : Ev} {M : Nat} (h : E.bd M) (s : ByteArray) (a : Option Sp) (ha : ∀ b, a = some b → b.n ≤ M) : (E.upd s a).bd M := by
  intro x b
  unfold Ev.upd
  split
  · exact ha b
  · exact h x b
theorem Ev.bd.mono {E : Ev} {M N : Nat} (h : E.bd M) (l : M ≤ N) : E.bd N := fun s a e => Nat.le_trans (h s a e) l
theorem join_bd {a b : Sp} {N : Nat} (ha : a.n ≤ N) (hb : b.n ≤ N) : (a.join b).n ≤ N := by
  unfold Sp.join
  split
  · exact hb
  · split
    · exact ha
    · show min a.n b.n ≤ N
      omega
theorem joinA_bd {N : Nat} : ∀ (l : List Sp) (a : Sp), a.n ≤ N → (∀ b ∈ l, b.n ≤ N) → (joinA a l).n ≤ N
  | [], _, ha, _ => ha
  | b :: l, _, ha, h => joinA_bd l _ (join_bd ha (h b (List.mem_cons_self ..))) (fun c hc => h c (List.mem_cons_of_mem _ hc))
theorem elem_bd (a : Sp) : a.elem.n ≤ a.n := by
  unfold Sp.elem
  split
  · exact Nat.le_refl _
  · show a.n - 1 ≤ a.n
    omega
theorem getD_bd {l : List Sp} {N : Nat} (h : ∀ a ∈ l, a.n ≤ N) (i : Nat) : (l.getD i ⟨0, 0⟩).n ≤ N := by
  rw [List.getD_eq_getElem?_getD]
  cases hi : l[i]? with
  | none => simp
  | some a => simpa using h a (List.mem_of_getElem? hi)
theorem addF_bd (a b : Sp) (N : Nat) : (addF a b).1.n ≤ N := by
  unfold addF
  split
  · simp
  · split <;> simp
theorem ofNodeF_bd {l : List Sp} {N : Nat} (h : ∀ a ∈ l, a.n ≤ N) (k : Int) : (ofNodeF k l).1.n ≤ N + 1 := by
  unfold ofNodeF
  split
  · exact addF_bd _ _ _
  split
  · simp
  split
  · simp
  split
  · simp
  split
  · simp
  split
  · simp
  split
  · exact Nat.le_trans (join_bd (getD_bd h 1) (getD_bd h 2)) (Nat.le_succ _)
  split
  · show (joinL l).n + 1 ≤ N + 1
    have := joinA_bd l ⟨0, 1⟩ (Nat.zero_le N) h
    unfold joinL
    omega
  · simp
theorem tellF_bd {l : List Sp} {N : Nat} (h : ∀ a ∈ l, a.n ≤ N) (t : Tl) : (tellF t l).1.n ≤ N + 1 := by
  cases t with
  | always k => simp [tellF]
  | elem => exact Nat.le_trans (elem_bd _) (Nat.le_trans (getD_bd h 0) (Nat.le_succ _))
  | elems =>
    show (joinL (l.map Sp.elem)).n + 1 ≤ N + 1
    have := joinA_bd (l.map Sp.elem) ⟨0, 1⟩ (Nat.zero_le N) (fun b hb => by
      obtain ⟨a, ha, rfl⟩ := List.mem_map.1 hb
      exact Nat.le_trans (elem_bd a) (h a ha))
    unfold joinL
    omega
  | sum => simp [tellF]
  | between => simp [tellF]
theorem orW_bd {p : Sp × Bool} {N : Nat} (h : p.1.n ≤ N) : (orW p).2.n ≤ N := by
  unfold orW
  split
  · exact h
  · simp
theorem ofF_bd {l : List Sp} {N : Nat} (h : ∀ a ∈ l, a.n ≤ N) (tk : List Int) (t : Tl) : (ofF tk t l).1.n ≤ N + 1 := by
  unfold ofF
  split
  · exact tellF_bd h t
  · simp
theorem callF_bd {r : Int × List Sp} {N : Nat} (h : ∀ a ∈ r.2, a.n ≤ N) (f : Option (List Int × Tl)) (n : Nat) : (callF f n r).2.n ≤ N + 1 := by
  unfold callF
  cases f with
  | none => simp
  | some q =>
    simp only
    split
    · simp
    · split
      · simp
      · exact orW_bd (ofF_bd h _ _)
theorem nodeT_bd {r : Int × List Sp} {N : Nat} (h : ∀ a ∈ r.2, a.n ≤ N) (k : Int) : (nodeT k r).2.n ≤ N + 1 := by
  unfold nodeT
  split
  · simp
  · exact orW_bd (ofNodeF_bd h k)
theorem lastF_bd {q : Int × Sp} {N : Nat} (h : q.2.n ≤ N) (k : Int) : (lastF k q).2.n ≤ N + 1 := by
  unfold lastF
  split
  · simp
  · split
    · show q.2.n + 1 ≤ N + 1
      omega
    · exact orW_bd (by simp)

mutual
theorem tyF_bd : ∀ (x : XT) (E : Ev) (M : Nat), E.bd M → (tyF x E).2.n ≤ M + x.size
  | .mk k v s ks, E, M, hE => by
    rw [tyF, XT.size]
    split
    · show (litTy v.kind).n ≤ _
      unfold litTy
      split
      · simp
      split
      · simp
      split <;> simp
    split
    · cases he : E s with
      | none => simp [nameF]
      | some a => have := hE s a he; show a.n ≤ _; omega
    have hL := tyL_bd ks E M hE
    split
    · have := callF_bd hL (fnIn fnTab s.data.toList) ks.length
      omega
    split
    · have := tyE_bd k s ks E M hE
      omega
    · have := nodeT_bd hL k
      omega
theorem tyL_bd : ∀ (ks : List XT) (E : Ev) (M : Nat), E.bd M → ∀ a ∈ (tyL ks E).2, a.n ≤ M + sizeL ks
  | [], E, M, _ => by rw [tyL]; simp
  | x :: xs, E, M, hE => by
    rw [tyL, sizeL]
    split
    · simp
    split
    · simp
    · intro a ha
      rcases List.mem_cons.1 ha with rfl | ha
      · have := tyF_bd x E M hE; omega
      · have := tyL_bd xs E M hE a ha; omega
theorem tyE_bd : ∀ (k : Int) (s : ByteArray) (ks : List XT) (E : Ev) (M : Nat), E.bd M → (tyE k s ks E).2.n ≤ M + sizeL ks + 1
  | k, s, [], E, M, _ => by rw [tyE]; simp
  | k, s, x :: xs, E, M, hE => by
    rw [tyE, sizeL]
    have hx := tyF_bd x E M hE
    split
    · simp
    split
    · simp
    · have := tyE2_bd k xs (E.upd s (some (tyF x E).2.elem)) (M + x.size) ((hE.mono (by omega)).upd _ _ (fun b hb => by cases hb; exact Nat.le_trans (elem_bd _) hx))
      omega
theorem tyE2_bd : ∀ (k : Int) (ks : List XT) (E : Ev) (M : Nat), E.bd M → (tyE2 k ks E).2.n ≤ M + sizeL ks + 1
  | k, [], E, M, _ => by rw [tyE2]; simp
  | k, y :: ys, E, M, hE => by
    rw [tyE2, sizeL]
    have := lastF_bd (tyF_bd y E M hE) k
    omega
end
theorem tyL_len : ∀ (ks : List XT) (E : Ev), (tyL ks E).1 = 0 → (tyL ks E).2.length = ks.length
  | [], E, _ => by rw [tyL]; rfl
  | x :: xs, E, h => by
    rw [tyL] at h ⊢
    by_cases h1 : (tyF x E).1 ≠ 0
    · rw [if_pos h1] at h; exact absurd h h1
    · rw [if_neg h1] at h ⊢
      by_cases h2 : (tyL xs E).1 ≠ 0
      · rw [if_pos h2] at h; exact absurd h h2
      · rw [if_neg h2]
        simp [tyL_len xs E (by simpa using h2)]

/-- names by their types, the later one hides the one ahead -/
def envA (E : Ev) : List (ByteArray × Sp) → Ev
  | [] => E
  | v :: vs => envA (E.upd v.1 (some v.2)) vs
def envOf (l : List (ByteArray × Sp)) : Ev := envA (fun _ => none) l
theorem envA_le : ∀ (l : List (ByteArray × Sp)) (E F : Ev), E.le F → (envA E l).le (envA F l)
  | [], _, _, h => h
  | _ :: vs, _, _, h => envA_le vs _ _ (h.upd _ _)
theorem envOf_le (v : ByteArray × Sp) (l : List (ByteArray × Sp)) : (envOf l).le (envOf (v :: l)) :=
  envA_le l _ _ (fun s a h => by cases h)
theorem envA_bd {M : Nat} : ∀ (l : List (ByteArray × Sp)) (E : Ev), E.bd M → (∀ v ∈ l, v.2.n ≤ M) → (envA E l).bd M
  | [], _, h, _ => h
  | v :: vs, _, h, hl => envA_bd vs _ (h.upd _ _ (fun b hb => by cases hb; exact hl v (List.mem_cons_self ..))) (fun u hu => hl u (List.mem_cons_of_mem _ hu))
end Go.Proofs.YtdgojpjmhalilaaGreatDoor

/- A frame behind a region that draws: what was, with what came up put in; runs of what reads a value. -/
namespace Go.Proofs.YtdgojpjmhalilaaGreatDoor
open Go.RowKit

theorem frame_name {P : Program} {code : Code} {Q : Exit → Act → World → Prop} {a : Act} {w : World} (k : ∀ a0, a0 = a → Code.wp P code Q a0 w) : Code.wp P code Q a w := k a rfl

theorem G_put {b : Act} {d i : Nat} {v : Value} (h : d < b.tmps.size) : G (b.put (some d) v) i = if i = d then v else G b i := by
  have U := upd_put (v := v) h
  by_cases e : i = d
  · subst e; rw [if_pos rfl]; exact U.got
  · rw [if_neg e]; exact U.rest i e

theorem act_ext {a b : Act} (hs : a.tmps.size = b.tmps.size) (hd : a.defers = b.defers) (h : ∀ i, G a i = G b i) : a = b := by
  obtain ⟨t, d⟩ := a
  obtain ⟨t', d'⟩ := b
  simp only at hd hs
  subst hd
  congr 1
  apply Array.ext hs
  intro i h1 h2
  have := h i
  simpa [G, Array.getD_eq_getD_getElem?, Array.getElem?_eq_getElem h1, Array.getElem?_eq_getElem h2] using this

theorem puts_is {a : Act} : ∀ (D : List Nat) (b : Act), a.tmps.size = b.tmps.size → a.defers = b.defers → (∀ d ∈ D, d < b.tmps.size) → (∀ i, i ∉ D → G a i = G b i) → a = D.foldl (fun b d => b.put (some d) (G a d)) b
  | [], b, hs, hd, _, h => act_ext hs hd (fun i => h i (by simp))
  | d :: D, b, hs, hd, hl, h => by
    rw [List.foldl_cons]
    have hdl := hl d (by simp)
    have U := upd_put (v := G a d) hdl
    refine puts_is D _ (hs.trans U.size.symm) (hd.trans U.defs.symm) (fun e he => by rw [U.size]; exact hl e (by simp [he])) (fun i hi => ?_)
    rw [G_put hdl]
    by_cases e : i = d
    · rw [if_pos e, e]
    · rw [if_neg e]; exact h i (by simp [e, hi])

theorem frame_puts {w0 w : World} {a0 a : Act} {N : Nat} {D : List Nat} {Ok : Nat → Value → World → Prop} {Un L : Nat → Bool} (h : RI w0 a0 N D Ok Un L a w) (h0 : a0.tmps.size = N) (hd0 : a0.defers = []) (hl : ∀ d ∈ D, d < N) : a = D.foldl (fun b d => b.put (some d) (G a d)) a0 :=
  puts_is D a0 (h.size.trans h0.symm) (h.defs.trans hd0.symm) (fun d hd => by rw [h0]; exact hl d hd) (fun _ hi => h.keep hi)

section
variable {a : Act} {w : World} {d : Option Nat} {t : TypeId} {p : String} {af : Array Edge} {g : Option (Nat × Bool)}
/-- a whole value is read -/
theorem run_ld6 {x : Operand} {b o : Nat} {v0 v1 v2 v3 v4 v5 : Value} (h : a.eval x = .pointer (some ⟨b, o, none⟩)) (c0 : w.cell? ⟨b, o, none⟩ = some v0) (c1 : w.cell? ⟨b, o + 1, none⟩ = some v1) (c2 : w.cell? ⟨b, o + 2, none⟩ = some v2) (c3 : w.cell? ⟨b, o + 3, none⟩ = some v3) (c4 : w.cell? ⟨b, o + 4, none⟩ = some v4) (c5 : w.cell? ⟨b, o + 5, none⟩ = some v5) :
    (execOp a.eval ⟨d, .load 26 x, t, p, af, g⟩).run Tryz.prog w = .ok (.value (.agg #[v0, v1, v2, v3, v4, v5])) w := by
  generalize a.eval = E at h ⊢
  simp [go_sem, h, c0, c1, c2, c3, c4, c5]
theorem run_ldX {x : Operand} {b : Nat} {v0 v1 v2 v3 v4 v5 : Value} (h : a.eval x = .pointer (some ⟨b, 0, none⟩)) (B : Box w b #[v0, v1, v2, v3, v4, v5]) :
    (execOp a.eval ⟨d, .load 26 x, t, p, af, g⟩).run Tryz.prog w = .ok (.value (.agg #[v0, v1, v2, v3, v4, v5])) w := by
  obtain ⟨c0, c1, c2, c3, c4, c5⟩ := B.tell
  generalize a.eval = E at h ⊢
  simp [go_sem, h, c0, c1, c2, c3, c4, c5]
theorem run_fldL {x : Operand} {b : Nat} (h : a.eval x = .pointer (some ⟨b, 0, none⟩)) : (execOp a.eval ⟨d, .fieldAddr 26 x 4, t, p, af, g⟩).run Tryz.prog w = .ok (.value (.pointer (some ⟨b, 5, none⟩))) w := by
  generalize a.eval = E at h ⊢
  simp [go_sem, h]
theorem run_ldL {x : Operand} {ad : Addr} {s : Option Addr} {n c : Nat} (h : a.eval x = .pointer (some ad)) (hc : w.cell? ad = some (.slice s n c)) : (execOp a.eval ⟨d, .load 24 x, t, p, af, g⟩).run Tryz.prog w = .ok (.value (.slice s n c)) w := by
  generalize a.eval = E at h ⊢
  simp [go_sem, h, hc]
theorem run_ixV {x y : Operand} {b off n c m : Nat} (h : a.eval x = .slice (some ⟨b, off, none⟩) n c) (hm : a.eval y = .int .i64 (m : Int)) (l : m < n) : (execOp a.eval ⟨d, .indexAddr 24 x y, t, p, af, g⟩).run Tryz.prog w = .ok (.value (.pointer (some ⟨b, off + m * 6, none⟩))) w := by
  generalize a.eval = E at h hm ⊢
  have l' : (m : Int) < (n : Int) := by omega
  simp [go_sem, h, hm, l']
theorem run_neI {x y : Operand} {u v : Int} {r : Bool} (hx : a.eval x = .int .i64 u) (hy : a.eval y = .int .i64 v) (hr : (u != v) = r) : (execOp a.eval ⟨d, .binOp .neq 37 x y 37, t, p, af, g⟩).run Tryz.prog w = .ok (.value (.bool r)) w := by
  generalize a.eval = E at hx hy ⊢
  subst hr
  simp [go_sem, hx, hy]
end
end Go.Proofs.YtdgojpjmhalilaaGreatDoor
