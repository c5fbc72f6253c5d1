/- Types in memory: two cells a node. -/
import Derived.Test.YtjgonkcfnfgakaaGreatDoorU1
import Derived.Below
namespace Go.Proofs.YtjgonkcfnfgakaaGreatDoor
open Go.RowKit

/-- two cells in a row -/
def Two (w : World) (b o : Nat) (u : Array Value) : Prop := ∃ u0 u1, u = #[u0, u1] ∧ w.cell? ⟨b, o, none⟩ = some u0 ∧ w.cell? ⟨b, o + 1, none⟩ = some u1
theorem Two.below {B : Nat} {w w' : World} {b o : Nat} {u : Array Value} (h : Two w b o u) (hb : Below B w w') (l : b < B) : Two w' b o u := by
  have c : ∀ o, w'.cell? ⟨b, o, none⟩ = w.cell? ⟨b, o, none⟩ := fun o => hb.cell (p := ⟨b, o, none⟩) l
  obtain ⟨u0, u1, hu, h0, h1⟩ := h
  exact ⟨u0, u1, hu, by rw [c, h0], by rw [c, h1]⟩

mutual
/-- a type in memory, in blocks that are P -/
def MemTP (P : Nat → Prop) (w : World) : TT → Array Value → Prop
  | .mk k ks, v => ks.length ≤ 9223372036854775807 ∧
    ∃ (a : Option Addr) (cap : Nat), v = #[.int .i64 k, .slice a ks.length cap] ∧ (ks ≠ [] → ∃ b off, a = some ⟨b, off, none⟩ ∧ P b ∧ MemTL P w ks b off)
def MemTL (P : Nat → Prop) (w : World) : List TT → Nat → Nat → Prop
  | [], _, _ => True
  | u :: us, b, off => (∃ cs, Two w b off cs ∧ MemTP P w u cs) ∧ MemTL P w us b (off + 2)
end

theorem Two.keep {w w' : World} {b o : Nat} {u : Array Value} (h : Two w b o u) (c : ∀ o, w'.cell? ⟨b, o, none⟩ = w.cell? ⟨b, o, none⟩) : Two w' b o u := by
  obtain ⟨u0, u1, hu, h0, h1⟩ := h
  exact ⟨u0, u1, hu, by rw [c, h0], by rw [c, h1]⟩
mutual
theorem MemTP.keep {P Q : Nat → Prop} {w w' : World} (hb : ∀ b, P b → Q b ∧ ∀ o, w'.cell? ⟨b, o, none⟩ = w.cell? ⟨b, o, none⟩) : ∀ {T : TT} {v : Array Value}, MemTP P w T v → MemTP Q w' T v
  | .mk k ks, v, h => by
    rw [MemTP] at h ⊢
    obtain ⟨h2, a, cap, hv, hk⟩ := h
    refine ⟨h2, a, cap, hv, fun hne => ?_⟩
    obtain ⟨b, off, ha, hlt, hm⟩ := hk hne
    exact ⟨b, off, ha, (hb b hlt).1, MemTL.keep hb hlt hm⟩
theorem MemTL.keep {P Q : Nat → Prop} {w w' : World} (hb : ∀ b, P b → Q b ∧ ∀ o, w'.cell? ⟨b, o, none⟩ = w.cell? ⟨b, o, none⟩) : ∀ {ks : List TT} {b off : Nat}, P b → MemTL P w ks b off → MemTL Q w' ks b off
  | [], _, _, _, _ => by rw [MemTL]; trivial
  | u :: us, b, off, hlt, h => by
    rw [MemTL] at h ⊢
    obtain ⟨⟨cs, h6, hm⟩, hr⟩ := h
    exact ⟨⟨cs, h6.keep (hb b hlt).2, MemTP.keep hb hm⟩, MemTL.keep hb hlt hr⟩
end

/-- a type in memory, below B -/
def MemT (B : Nat) (w : World) (T : TT) (v : Array Value) : Prop := MemTP (· < B) w T v
theorem MemT.below {B : Nat} {w w' : World} (hb : Below B w w') {T : TT} {v : Array Value} (h : MemT B w T v) : MemT B w' T v :=
  MemTP.keep (fun b hlt => ⟨hlt, fun o => hb.cell (p := ⟨b, o, none⟩) hlt⟩) h
theorem MemT.mono {B B' : Nat} {w : World} (hB : B ≤ B') {T : TT} {v : Array Value} (h : MemT B w T v) : MemT B' w T v :=
  MemTP.keep (fun _ hlt => ⟨Nat.lt_of_lt_of_le hlt hB, fun _ => rfl⟩) h

/-- a type in memory that grew -/
theorem MemT.grow {w w' : World} {T : TT} {v : Array Value} (h : MemT w.heap.size w T v) (hb : Below w.heap.size w w') : MemT w'.heap.size w' T v :=
  (h.below hb).mono hb.size
theorem MemTP.kid {P : Nat → Prop} {w : World} {k : Int} {T : TT} {v : Array Value} (h : MemTP P w (.mk k [T]) v) :
    ∃ b off cap u0 u1, v = #[.int .i64 k, .slice (some ⟨b, off, none⟩) 1 cap] ∧ P b ∧ w.cell? ⟨b, off, none⟩ = some u0 ∧ w.cell? ⟨b, off + 1, none⟩ = some u1 ∧ MemTP P w T #[u0, u1] := by
  rw [MemTP] at h
  obtain ⟨_, a, cap, hv, hk⟩ := h
  obtain ⟨b, off, ha, hlt, hm⟩ := hk (by simp)
  rw [MemTL] at hm
  obtain ⟨⟨cs, ⟨u0, u1, hu, h0, h1⟩, hT⟩, _⟩ := hm
  subst hu ha
  exact ⟨b, off, cap, u0, u1, by simpa using hv, hlt, h0, h1, hT⟩
theorem MemTP.leaf {P : Nat → Prop} {w : World} {k : Int} {v : Array Value} (h : MemTP P w (.mk k []) v) : ∃ a cap, v = #[.int .i64 k, .slice a 0 cap] := by
  rw [MemTP] at h
  obtain ⟨_, a, cap, hv, _⟩ := h
  exact ⟨a, cap, by simpa using hv⟩
theorem MemTP.any {P : Nat → Prop} {w : World} {k : Int} {ks : List TT} {v : Array Value} (h : MemTP P w (.mk k ks) v) : ks.length ≤ 9223372036854775807 ∧ ∃ a cap, v = #[.int .i64 k, .slice a ks.length cap] := by
  rw [MemTP] at h
  obtain ⟨h2, a, cap, hv, _⟩ := h
  exact ⟨h2, a, cap, hv⟩
theorem MemTP.mkLeaf (P : Nat → Prop) (w : World) (k : Int) (a : Option Addr) (cap : Nat) : MemTP P w (.mk k []) #[.int .i64 k, .slice a 0 cap] := by
  rw [MemTP]
  exact ⟨by simp, a, cap, rfl, fun h => absurd rfl h⟩
theorem MemTP.mkKid {P : Nat → Prop} {w : World} {T : TT} {b off : Nat} {u0 u1 : Value} (k : Int) (cap : Nat) (hP : P b) (h0 : w.cell? ⟨b, off, none⟩ = some u0) (h1 : w.cell? ⟨b, off + 1, none⟩ = some u1) (h : MemTP P w T #[u0, u1]) :
    MemTP P w (.mk k [T]) #[.int .i64 k, .slice (some ⟨b, off, none⟩) 1 cap] := by
  rw [MemTP]
  refine ⟨by simp, some ⟨b, off, none⟩, cap, rfl, fun _ => ⟨b, off, rfl, hP, ?_⟩⟩
  rw [MemTL, MemTL]
  exact ⟨⟨_, ⟨u0, u1, rfl, h0, h1⟩, h⟩, trivial⟩
end Go.Proofs.YtjgonkcfnfgakaaGreatDoor
