/- Trees in blocks of which something is known. -/
import Derived.Test.YthhdgimphnbjbaaDoorX3
import Derived.Maps.AppendAt
namespace Go.Proofs.YthhdgimphnbjbaaDoor
open Go.RowKit

theorem Six.same {w w' : World} {b o : Nat} {u : Array Value} (h : Six w b o u) (e : w'.heap[b]? = w.heap[b]?) : Six w' b o u := by
  have c : ∀ o, w'.cell? ⟨b, o, none⟩ = w.cell? ⟨b, o, none⟩ := fun o => World.cell?_of_block (w := w) (a := ⟨b, o, none⟩) e
  obtain ⟨u0, u1, u2, u3, u4, u5, hu, h0, h1, h2, h3, h4, h5⟩ := h
  exact ⟨u0, u1, u2, u3, u4, u5, hu, by rw [c, h0], by rw [c, h1], by rw [c, h2], by rw [c, h3], by rw [c, h4], by rw [c, h5]⟩

mutual
/-- a tree in memory, in blocks that are P -/
def MemP (P : Nat → Prop) (w : World) : Tree → Array Value → Prop
  | .mk k y c x t ks, v => t.size ≤ 9223372036854775807 ∧ ks.length ≤ 9223372036854775807 ∧
    ∃ (a : Option Addr) (cap : Nat), v = #[.int .i64 k, .bool y, .int .i64 c, .int .i64 x, .string t, .slice a ks.length cap] ∧ (ks ≠ [] → ∃ b off, a = some ⟨b, off, none⟩ ∧ P b ∧ MemPL P w ks b off)
def MemPL (P : Nat → Prop) (w : World) : List Tree → Nat → Nat → Prop
  | [], _, _ => True
  | u :: us, b, off => (∃ cs, Six w b off cs ∧ MemP P w u cs) ∧ MemPL P w us b (off + 6)
end

mutual
theorem MemP.keep {P Q : Nat → Prop} {w w' : World} (hb : ∀ b, P b → Q b ∧ w'.heap[b]? = w.heap[b]?) : ∀ {T : Tree} {v : Array Value}, MemP P w T v → MemP Q w' T v
  | .mk k y c x t ks, v, h => by
    rw [MemP] at h ⊢
    obtain ⟨h1, h2, a, cap, hv, hk⟩ := h
    refine ⟨h1, h2, a, cap, hv, fun hne => ?_⟩
    obtain ⟨b, off, ha, hlt, hm⟩ := hk hne
    exact ⟨b, off, ha, (hb b hlt).1, MemPL.keep hb hlt hm⟩
theorem MemPL.keep {P Q : Nat → Prop} {w w' : World} (hb : ∀ b, P b → Q b ∧ w'.heap[b]? = w.heap[b]?) : ∀ {ks : List Tree} {b off : Nat}, P b → MemPL P w ks b off → MemPL Q w' ks b off
  | [], _, _, _, _ => by rw [MemPL]; trivial
  | u :: us, b, off, hlt, h => by
    rw [MemPL] at h ⊢
    obtain ⟨⟨cs, h6, hm⟩, hr⟩ := h
    exact ⟨⟨cs, h6.same (hb b hlt).2, MemP.keep hb hm⟩, MemPL.keep hb hlt hr⟩
end
mutual
theorem MemP.mem {P : Nat → Prop} {B : Nat} {w : World} (hb : ∀ b, P b → b < B) : ∀ {T : Tree} {v : Array Value}, MemP P w T v → Mem B w T v
  | .mk k y c x t ks, v, h => by
    rw [MemP] at h
    rw [Mem]
    obtain ⟨h1, h2, a, cap, hv, hk⟩ := h
    refine ⟨h1, h2, a, cap, hv, fun hne => ?_⟩
    obtain ⟨b, off, ha, hlt, hm⟩ := hk hne
    exact ⟨b, off, ha, hb b hlt, MemPL.mem hb hm⟩
theorem MemPL.mem {P : Nat → Prop} {B : Nat} {w : World} (hb : ∀ b, P b → b < B) : ∀ {ks : List Tree} {b off : Nat}, MemPL P w ks b off → MemL B w ks b off
  | [], _, _, _ => by rw [MemL]; trivial
  | u :: us, b, off, h => by
    rw [MemPL] at h
    rw [MemL]
    obtain ⟨⟨cs, h6, hm⟩, hr⟩ := h
    exact ⟨⟨cs, h6, MemP.mem hb hm⟩, MemPL.mem hb hr⟩
end

/-- trees, each with its six cells -/
def MemEach (P : Nat → Prop) (w : World) : List Tree → List (Array Value) → Prop
  | [], [] => True
  | T :: Ts, v :: vs => MemP P w T v ∧ MemEach P w Ts vs
  | _, _ => False
theorem MemEach.keep {P Q : Nat → Prop} {w w' : World} (hb : ∀ b, P b → Q b ∧ w'.heap[b]? = w.heap[b]?) : ∀ {Ts : List Tree} {vs : List (Array Value)}, MemEach P w Ts vs → MemEach Q w' Ts vs
  | [], [], _ => by rw [MemEach]; trivial
  | T :: Ts, v :: vs, h => by
    rw [MemEach] at h ⊢
    exact ⟨MemP.keep hb h.1, MemEach.keep hb h.2⟩
  | [], _ :: _, h => by rw [MemEach] at h <;> first | exact h.elim | simp
  | _ :: _, [], h => by rw [MemEach] at h <;> first | exact h.elim | simp
theorem MemEach.snoc {P : Nat → Prop} {w : World} {T : Tree} {v : Array Value} (h : MemP P w T v) : ∀ {Ts : List Tree} {vs : List (Array Value)}, MemEach P w Ts vs → MemEach P w (Ts ++ [T]) (vs ++ [v])
  | [], [], _ => by simp only [List.nil_append]; rw [MemEach]; exact ⟨h, by rw [MemEach]; trivial⟩
  | T' :: Ts, v' :: vs, k => by
    rw [MemEach] at k
    simp only [List.cons_append]
    rw [MemEach]
    exact ⟨k.1, MemEach.snoc h k.2⟩
  | [], _ :: _, h => by rw [MemEach] at h <;> first | exact h.elim | simp
  | _ :: _, [], h => by rw [MemEach] at h <;> first | exact h.elim | simp
theorem MemEach.len {P : Nat → Prop} {w : World} : ∀ {Ts : List Tree} {vs : List (Array Value)}, MemEach P w Ts vs → vs.length = Ts.length
  | [], [], _ => rfl
  | T :: Ts, v :: vs, k => by
    rw [MemEach] at k
    rw [List.length_cons, List.length_cons, k.2.len]
  | [], _ :: _, h => by rw [MemEach] at h <;> first | exact h.elim | simp
  | _ :: _, [], h => by rw [MemEach] at h <;> first | exact h.elim | simp
/-- a tree's cells are six -/
theorem MemP.six {P : Nat → Prop} {w : World} {T : Tree} {v : Array Value} (h : MemP P w T v) : ∃ u0 u1 u2 u3 u4 u5, v = #[u0, u1, u2, u3, u4, u5] := by
  cases T with
  | mk k y c x t ks =>
    rw [MemP] at h
    obtain ⟨_, _, a, cap, hv, _⟩ := h
    exact ⟨_, _, _, _, _, _, hv⟩

theorem MemP.one {P : Nat → Prop} {w : World} {T : Tree} {v : Array Value} (h : MemP P w T v) : ∀ u ∈ v.toList, u.oneCell' = true := by
  cases T with
  | mk k y c x t ks =>
    rw [MemP] at h
    obtain ⟨_, _, a, cap, rfl, _⟩ := h
    intro u hu
    simp at hu
    rcases hu with rfl | rfl | rfl | rfl | rfl | rfl <;> rfl

/-- where the cells of all lie in a row of one block, the trees do -/
theorem MemEach.row {P : Nat → Prop} {w : World} {b : Nat} : ∀ {Ts : List Tree} {vs : List (Array Value)} {off : Nat}, MemEach P w Ts vs → (∀ (j : Nat) (u : Value), (vs.flatMap Array.toList)[j]? = some u → w.cell? ⟨b, off + j, none⟩ = some u) → MemPL P w Ts b off
  | [], [], _, _, _ => by rw [MemPL]; trivial
  | T :: Ts, v :: vs, off, h, hc => by
    rw [MemEach] at h
    rw [MemPL]
    obtain ⟨u0, u1, u2, u3, u4, u5, rfl⟩ := h.1.six
    refine ⟨⟨_, ⟨u0, u1, u2, u3, u4, u5, rfl, ?_, ?_, ?_, ?_, ?_, ?_⟩, h.1⟩, MemEach.row h.2 (fun j u hj => ?_)⟩
    · exact hc 0 u0 rfl
    · exact hc 1 u1 rfl
    · exact hc 2 u2 rfl
    · exact hc 3 u3 rfl
    · exact hc 4 u4 rfl
    · exact hc 5 u5 rfl
    · rw [Nat.add_assoc, Nat.add_comm 6 j]
      exact hc (j + 6) u (by rw [List.flatMap_cons]; exact hj)
  | [], _ :: _, _, h, _ => by rw [MemEach] at h <;> first | exact h.elim | simp
  | _ :: _, [], _, h, _ => by rw [MemEach] at h <;> first | exact h.elim | simp
end Go.Proofs.YthhdgimphnbjbaaDoor
