/- Walks: Wrong. -/
import Derived.Test.YtnegjbkbfgkkjaaGreatDoorProg
import Derived.WalkKit
import Derived.WalkSpells
import Derived.WalkLawsBesides
import Derived.Deep.QuietTactic
import Derived.BigQuiet
import Derived.Outline
import Derived.Test.YtnegjbkbfgkkjaaGreatDoorG01
import Derived.Below
namespace Go.Proofs.YtnegjbkbfgkkjaaGreatDoor
open Go.RowKit

theorem hide {p : Prop} (h : p) : Hid p := h
theorem unhide {p : Prop} (h : Hid p) : p := h
theorem ret_int {k : IntKind} {a b : Int} (h : a = b) : Ending.returned (.int k a) = .returned (.int k b) := by rw [h]

set_option maxHeartbeats 400000 in
theorem wrong_any (c x : Int) (w : World) :
    Calls Tryz.prog 131 #[.agg #[.int .i64 c, .int .i64 x]] w fun e w' => e = .returned (.int .i64 (Dm.wrongN c x)) ∧ Below w.heap.size w w' := by
  go_enter Tryz.func131, Tryz.ntmps131
  go_wp2
  all_goals
    go_ret
    refine ⟨ret_int ?_, (Below.refl _ _).alloc (Nat.le_refl _) _⟩
    unfold Dm.wrongN
    (repeat' split) <;> first | rfl | (exfalso; omega) | (simp_all; done)
end Go.Proofs.YtnegjbkbfgkkjaaGreatDoor

/- Types in plain words: so many lists around a kind; what fits, what is joined; a type as a tree, and what is wrong with it. -/
namespace Go.Proofs.YtnegjbkbfgkkjaaGreatDoor

structure Sp where
  n : Nat
  k : Int
deriving DecidableEq

theorem Sp.eq {a b : Sp} (h : a.n = b.n) (g : a.k = b.k) : a = b := by
  cases a; cases b; simp_all

def Sp.Fits (a b : Sp) : Prop := (a.n ≤ b.n ∧ a.k = 1) ∨ (b.n ≤ a.n ∧ b.k = 6) ∨ (a.n = b.n ∧ a.k = b.k)
instance (a b : Sp) : Decidable (a.Fits b) := by unfold Sp.Fits; infer_instance
def Sp.join (a b : Sp) : Sp := if a.Fits b then b else if b.Fits a then a else ⟨min a.n b.n, 6⟩

theorem Sp.refl (a : Sp) : a.Fits a := by unfold Sp.Fits; omega
theorem Sp.anti {a b : Sp} (h : a.Fits b) (g : b.Fits a) : a = b := by
  unfold Sp.Fits at h g
  exact Sp.eq (by omega) (by omega)
theorem Sp.trans {a b c : Sp} (h : a.Fits b) (g : b.Fits c) : a.Fits c := by
  unfold Sp.Fits at *
  omega
theorem Sp.left (a b : Sp) : a.Fits (a.join b) := by
  unfold Sp.join
  split
  · assumption
  · split
    · exact Sp.refl a
    · exact Or.inr (Or.inl ⟨Nat.min_le_left _ _, rfl⟩)
theorem Sp.right (a b : Sp) : b.Fits (a.join b) := by
  unfold Sp.join
  split
  · exact Sp.refl b
  · split
    · assumption
    · exact Or.inr (Or.inl ⟨Nat.min_le_right _ _, rfl⟩)
theorem Sp.least {a b c : Sp} (h : a.Fits c) (g : b.Fits c) : (a.join b).Fits c := by
  unfold Sp.join
  split
  · exact g
  · split
    · exact h
    · rename_i h1 h2
      unfold Sp.Fits at *
      refine Or.inr (Or.inl ⟨?_, ?_⟩)
      · show c.n ≤ min a.n b.n
        omega
      · omega
theorem Sp.comm (a b : Sp) : a.join b = b.join a :=
  Sp.anti (Sp.least (Sp.right b a) (Sp.left b a)) (Sp.least (Sp.right a b) (Sp.left a b))
/-- a shape that a right type may have -/
def Sp.ok (a : Sp) : Prop := a.n ≤ 9 ∧ (a.k = 1 ∨ a.k = 2 ∨ a.k = 3 ∨ a.k = 4 ∨ a.k = 6)
/-- a type as a tree -/
inductive TT where
  | mk (k : Int) (ks : List TT)
def TT.kind : TT → Int | .mk k _ => k
def TT.kids : TT → List TT | .mk _ ks => ks

def rtN : Nat → Int → TT
  | 0, k => .mk k []
  | n + 1, k => .mk 5 [rtN n k]
def rt (a : Sp) : TT := rtN a.n a.k
def wrongTy : Nat → TT → Int
  | d, .mk k ks => if (10 : Int) < (d : Int) then 4 else if k < 1 ∨ 6 < k then 1 else if k ≠ 5 ∧ ks.length ≠ 0 then 5 else if k ≠ 5 then 0 else
    match ks with
    | [e] => wrongTy (d + 1) e
    | _ => 5
theorem wrongTy_leaf (k : Int) (d : Nat) : wrongTy d (.mk k []) = if (10 : Int) < (d : Int) then 4 else if k < 1 ∨ 6 < k then 1 else if k ≠ 5 then 0 else 5 := by
  rw [wrongTy]
  · simp
  · intro e h; cases h
theorem wrongTy_one (k : Int) (e : TT) (d : Nat) : wrongTy d (.mk k [e]) = if (10 : Int) < (d : Int) then 4 else if k < 1 ∨ 6 < k then 1 else if k ≠ 5 then 5 else wrongTy (d + 1) e := by
  rw [wrongTy]
  by_cases h : k = 5 <;> simp [h]
theorem wrongTy_more (k : Int) (e f : TT) (r : List TT) (d : Nat) : wrongTy d (.mk k (e :: f :: r)) = if (10 : Int) < (d : Int) then 4 else if k < 1 ∨ 6 < k then 1 else 5 := by
  rw [wrongTy]
  · by_cases h : k = 5 <;> simp [h]
  · intro e h; cases h
theorem right_of : ∀ (T : TT) (d : Nat), 1 ≤ d → wrongTy d T = 0 → ∃ n k, T = rtN n k ∧ n + d ≤ 10 ∧ (k = 1 ∨ k = 2 ∨ k = 3 ∨ k = 4 ∨ k = 6)
  | .mk k [], d, hd, h => by
    rw [wrongTy_leaf] at h
    split at h
    · cases h
    split at h
    · cases h
    split at h
    · exact ⟨0, k, rfl, by omega, by omega⟩
    · cases h
  | .mk k [e], d, hd, h => by
    rw [wrongTy_one] at h
    split at h
    · cases h
    split at h
    · cases h
    split at h
    · cases h
    · rename_i h1 h2 h3
      obtain ⟨n, k', he, hn, hk⟩ := right_of e (d + 1) (by omega) h
      refine ⟨n + 1, k', ?_, by omega, hk⟩
      rw [rtN, ← he, show k = 5 by omega]
  | .mk k (e :: f :: r), d, hd, h => by
    rw [wrongTy_more] at h
    split at h
    · cases h
    split at h
    · cases h
    · cases h
theorem right_sp {T : TT} (h : wrongTy 1 T = 0) : ∃ a : Sp, a.ok ∧ T = rt a := by
  obtain ⟨n, k, he, hn, hk⟩ := right_of T 1 (by omega) h
  exact ⟨⟨n, k⟩, ⟨by simp only; omega, hk⟩, he⟩
end Go.Proofs.YtnegjbkbfgkkjaaGreatDoor

/- Types in memory: two cells a node. -/
namespace Go.Proofs.YtnegjbkbfgkkjaaGreatDoor
open Go.RowKit

/-- two cells in a row -/
def Two (w : World) (b o : Nat) (u : Array Value) : Prop := ∃ u0 u1, u = #[u0, u1] ∧ w.cell? ⟨b, o, none⟩ = some u0 ∧ w.cell? ⟨b, o + 1, none⟩ = some u1
theorem Two.below {B : Nat} {w w' : World} {b o : Nat} {u : Array Value} (h : Two w b o u) (hb : Below B w w') (l : b < B) : Two w' b o u := by
  have c : ∀ o, w'.cell? ⟨b, o, none⟩ = w.cell? ⟨b, o, none⟩ := fun o => hb.cell (p := ⟨b, o, none⟩) l
  obtain ⟨u0, u1, hu, h0, h1⟩ := h
  exact ⟨u0, u1, hu, by rw [c, h0], by rw [c, h1]⟩

mutual
/-- a type in memory, in blocks that are P -/
def MemTP (P : Nat → Prop) (w : World) : TT → Array Value → Prop
  | .mk k ks, v => ks.length ≤ 9223372036854775807 ∧
    ∃ (a : Option Addr) (cap : Nat), v = #[.int .i64 k, .slice a ks.length cap] ∧ (ks ≠ [] → ∃ b off, a = some ⟨b, off, none⟩ ∧ P b ∧ MemTL P w ks b off)
def MemTL (P : Nat → Prop) (w : World) : List TT → Nat → Nat → Prop
  | [], _, _ => True
  | u :: us, b, off => (∃ cs, Two w b off cs ∧ MemTP P w u cs) ∧ MemTL P w us b (off + 2)
end

theorem Two.keep {w w' : World} {b o : Nat} {u : Array Value} (h : Two w b o u) (c : ∀ o, w'.cell? ⟨b, o, none⟩ = w.cell? ⟨b, o, none⟩) : Two w' b o u := by
  obtain ⟨u0, u1, hu, h0, h1⟩ := h
  exact ⟨u0, u1, hu, by rw [c, h0], by rw [c, h1]⟩
mutual
theorem MemTP.keep {P Q : Nat → Prop} {w w' : World} (hb : ∀ b, P b → Q b ∧ ∀ o, w'.cell? ⟨b, o, none⟩ = w.cell? ⟨b, o, none⟩) : ∀ {T : TT} {v : Array Value}, MemTP P w T v → MemTP Q w' T v
  | .mk k ks, v, h => by
    rw [MemTP] at h ⊢
    obtain ⟨h2, a, cap, hv, hk⟩ := h
    refine ⟨h2, a, cap, hv, fun hne => ?_⟩
    obtain ⟨b, off, ha, hlt, hm⟩ := hk hne
    exact ⟨b, off, ha, (hb b hlt).1, MemTL.keep hb hlt hm⟩
theorem MemTL.keep {P Q : Nat → Prop} {w w' : World} (hb : ∀ b, P b → Q b ∧ ∀ o, w'.cell? ⟨b, o, none⟩ = w.cell? ⟨b, o, none⟩) : ∀ {ks : List TT} {b off : Nat}, P b → MemTL P w ks b off → MemTL Q w' ks b off
  | [], _, _, _, _ => by rw [MemTL]; trivial
  | u :: us, b, off, hlt, h => by
    rw [MemTL] at h ⊢
    obtain ⟨⟨cs, h6, hm⟩, hr⟩ := h
    exact ⟨⟨cs, h6.keep (hb b hlt).2, MemTP.keep hb hm⟩, MemTL.keep hb hlt hr⟩
end

/-- a type in memory, below B -/
def MemT (B : Nat) (w : World) (T : TT) (v : Array Value) : Prop := MemTP (· < B) w T v
theorem MemT.below {B : Nat} {w w' : World} (hb : Below B w w') {T : TT} {v : Array Value} (h : MemT B w T v) : MemT B w' T v :=
  MemTP.keep (fun b hlt => ⟨hlt, fun o => hb.cell (p := ⟨b, o, none⟩) hlt⟩) h
theorem MemT.mono {B B' : Nat} {w : World} (hB : B ≤ B') {T : TT} {v : Array Value} (h : MemT B w T v) : MemT B' w T v :=
  MemTP.keep (fun _ hlt => ⟨Nat.lt_of_lt_of_le hlt hB, fun _ => rfl⟩) h

/-- a type in memory that grew -/
theorem MemT.grow {w w' : World} {T : TT} {v : Array Value} (h : MemT w.heap.size w T v) (hb : Below w.heap.size w w') : MemT w'.heap.size w' T v :=
  (h.below hb).mono hb.size
theorem MemTP.kid {P : Nat → Prop} {w : World} {k : Int} {T : TT} {v : Array Value} (h : MemTP P w (.mk k [T]) v) :
    ∃ b off cap u0 u1, v = #[.int .i64 k, .slice (some ⟨b, off, none⟩) 1 cap] ∧ P b ∧ w.cell? ⟨b, off, none⟩ = some u0 ∧ w.cell? ⟨b, off + 1, none⟩ = some u1 ∧ MemTP P w T #[u0, u1] := by
  rw [MemTP] at h
  obtain ⟨_, a, cap, hv, hk⟩ := h
  obtain ⟨b, off, ha, hlt, hm⟩ := hk (by simp)
  rw [MemTL] at hm
  obtain ⟨⟨cs, ⟨u0, u1, hu, h0, h1⟩, hT⟩, _⟩ := hm
  subst hu ha
  exact ⟨b, off, cap, u0, u1, by simpa using hv, hlt, h0, h1, hT⟩
theorem MemTP.leaf {P : Nat → Prop} {w : World} {k : Int} {v : Array Value} (h : MemTP P w (.mk k []) v) : ∃ a cap, v = #[.int .i64 k, .slice a 0 cap] := by
  rw [MemTP] at h
  obtain ⟨_, a, cap, hv, _⟩ := h
  exact ⟨a, cap, by simpa using hv⟩
theorem MemTP.any {P : Nat → Prop} {w : World} {k : Int} {ks : List TT} {v : Array Value} (h : MemTP P w (.mk k ks) v) : ks.length ≤ 9223372036854775807 ∧ ∃ a cap, v = #[.int .i64 k, .slice a ks.length cap] := by
  rw [MemTP] at h
  obtain ⟨h2, a, cap, hv, _⟩ := h
  exact ⟨h2, a, cap, hv⟩
theorem MemTP.mkLeaf (P : Nat → Prop) (w : World) (k : Int) (a : Option Addr) (cap : Nat) : MemTP P w (.mk k []) #[.int .i64 k, .slice a 0 cap] := by
  rw [MemTP]
  exact ⟨by simp, a, cap, rfl, fun h => absurd rfl h⟩
theorem MemTP.mkKid {P : Nat → Prop} {w : World} {T : TT} {b off : Nat} {u0 u1 : Value} (k : Int) (cap : Nat) (hP : P b) (h0 : w.cell? ⟨b, off, none⟩ = some u0) (h1 : w.cell? ⟨b, off + 1, none⟩ = some u1) (h : MemTP P w T #[u0, u1]) :
    MemTP P w (.mk k [T]) #[.int .i64 k, .slice (some ⟨b, off, none⟩) 1 cap] := by
  rw [MemTP]
  refine ⟨by simp, some ⟨b, off, none⟩, cap, rfl, fun _ => ⟨b, off, rfl, hP, ?_⟩⟩
  rw [MemTL, MemTL]
  exact ⟨⟨_, ⟨u0, u1, rfl, h0, h1⟩, h⟩, trivial⟩
end Go.Proofs.YtnegjbkbfgkkjaaGreatDoor
