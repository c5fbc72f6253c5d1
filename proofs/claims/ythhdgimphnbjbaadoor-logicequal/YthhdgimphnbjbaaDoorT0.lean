/- Values as trees: what is wrong with one, how it lies in memory. -/
import Derived.Test.YthhdgimphnbjbaaDoorV2d
import Derived.Test.YthhdgimphnbjbaaDoorShV
import Derived.Shelf.Unicode.ValidAny
namespace Go.Proofs.YthhdgimphnbjbaaDoor
open Go.RowKit Go.Shelf Go.Lib

inductive Tree where
  | mk (k : Int) (y : Bool) (c x : Int) (t : ByteArray) (ks : List Tree)

def wrongT (t : ByteArray) : Int := if (1000 : Int) < (t.size : Int) then 4 else if Lib.validD t.data.toList then 0 else 2

mutual
def wrongF : Tree → Nat → Nat → Int × Nat
  | .mk k _ c x t ks, s, d =>
    if 2000 < s + 1 ∨ 20 < d then (4, s + 1) else if k = 1 ∨ k = 2 then (0, s + 1) else if k = 3 then (Dm.wrongN c x, s + 1) else if k = 4 then (wrongT t, s + 1)
    else if k = 5 then (if 200 < ks.length then (5, s + 1) else wrongL ks (s + 1) (d + 1)) else (1, s + 1)
def wrongL : List Tree → Nat → Nat → Int × Nat
  | [], s, _ => (0, s)
  | v :: vs, s, d => if (wrongF v s d).1 = 0 then wrongL vs (wrongF v s d).2 d else wrongF v s d
end

mutual
theorem wrongF_bd : ∀ (T : Tree) (s d : Nat), s ≤ 2000 → (wrongF T s d).2 ≤ 2001 ∧ ((wrongF T s d).1 = 0 → (wrongF T s d).2 ≤ 2000)
  | .mk k y c x t ks, s, d, hs => by
    rw [wrongF]
    by_cases h1 : 2000 < s + 1 ∨ 20 < d
    · rw [if_pos h1]; exact ⟨by simp; omega, fun h => by simp at h⟩
    rw [if_neg h1]
    by_cases h2 : k = 1 ∨ k = 2
    · rw [if_pos h2]; exact ⟨by simp; omega, fun _ => by simp; omega⟩
    rw [if_neg h2]
    by_cases h3 : k = 3
    · rw [if_pos h3]; exact ⟨by simp; omega, fun _ => by simp; omega⟩
    rw [if_neg h3]
    by_cases h4 : k = 4
    · rw [if_pos h4]; exact ⟨by simp; omega, fun _ => by simp; omega⟩
    rw [if_neg h4]
    by_cases h5 : k = 5
    · rw [if_pos h5]
      by_cases h6 : 200 < ks.length
      · rw [if_pos h6]; exact ⟨by simp; omega, fun _ => by simp; omega⟩
      · rw [if_neg h6]; exact wrongL_bd ks (s + 1) (d + 1) (by omega)
    · rw [if_neg h5]; exact ⟨by simp; omega, fun _ => by simp; omega⟩
theorem wrongL_bd : ∀ (ks : List Tree) (s d : Nat), s ≤ 2000 → (wrongL ks s d).2 ≤ 2001 ∧ ((wrongL ks s d).1 = 0 → (wrongL ks s d).2 ≤ 2000)
  | [], s, d, hs => by rw [wrongL]; exact ⟨by simp; omega, fun _ => by simp; omega⟩
  | v :: vs, s, d, hs => by
    rw [wrongL]
    have h := wrongF_bd v s d hs
    by_cases h1 : (wrongF v s d).1 = 0
    · rw [if_pos h1]; exact wrongL_bd vs _ d (h.2 h1)
    · rw [if_neg h1]; exact h
end

/-- six cells in a row -/
def Six (w : World) (b o : Nat) (u : Array Value) : Prop := ∃ u0 u1 u2 u3 u4 u5, u = #[u0, u1, u2, u3, u4, u5] ∧ w.cell? ⟨b, o, none⟩ = some u0 ∧ w.cell? ⟨b, o + 1, none⟩ = some u1 ∧ w.cell? ⟨b, o + 2, none⟩ = some u2 ∧ w.cell? ⟨b, o + 3, none⟩ = some u3 ∧ w.cell? ⟨b, o + 4, none⟩ = some u4 ∧ w.cell? ⟨b, o + 5, none⟩ = some u5
theorem Six.below {B : Nat} {w w' : World} {b o : Nat} {u : Array Value} (h : Six w b o u) (hb : Below B w w') (l : b < B) : Six w' b o u := by
  have c : ∀ o, w'.cell? ⟨b, o, none⟩ = w.cell? ⟨b, o, none⟩ := fun o => hb.cell (p := ⟨b, o, none⟩) l
  obtain ⟨u0, u1, u2, u3, u4, u5, hu, h0, h1, h2, h3, h4, h5⟩ := h
  exact ⟨u0, u1, u2, u3, u4, u5, hu, by rw [c, h0], by rw [c, h1], by rw [c, h2], by rw [c, h3], by rw [c, h4], by rw [c, h5]⟩

mutual
/-- a tree in memory, below B -/
def Mem (B : Nat) (w : World) : Tree → Array Value → Prop
  | .mk k y c x t ks, v => t.size ≤ 9223372036854775807 ∧ ks.length ≤ 9223372036854775807 ∧
    ∃ (a : Option Addr) (cap : Nat), v = #[.int .i64 k, .bool y, .int .i64 c, .int .i64 x, .string t, .slice a ks.length cap] ∧ (ks ≠ [] → ∃ b off, a = some ⟨b, off, none⟩ ∧ b < B ∧ MemL B w ks b off)
def MemL (B : Nat) (w : World) : List Tree → Nat → Nat → Prop
  | [], _, _ => True
  | u :: us, b, off => (∃ cs, Six w b off cs ∧ Mem B w u cs) ∧ MemL B w us b (off + 6)
end

mutual
theorem Mem.below {B : Nat} {w w' : World} (hb : Below B w w') : ∀ {T : Tree} {v : Array Value}, Mem B w T v → Mem B w' T v
  | .mk k y c x t ks, v, h => by
    rw [Mem] at h ⊢
    obtain ⟨h1, h2, a, cap, hv, hk⟩ := h
    refine ⟨h1, h2, a, cap, hv, fun hne => ?_⟩
    obtain ⟨b, off, ha, hlt, hm⟩ := hk hne
    exact ⟨b, off, ha, hlt, MemL.below hb hlt hm⟩
theorem MemL.below {B : Nat} {w w' : World} (hb : Below B w w') : ∀ {ks : List Tree} {b off : Nat}, b < B → MemL B w ks b off → MemL B w' ks b off
  | [], _, _, _, _ => by rw [MemL]; trivial
  | u :: us, b, off, hlt, h => by
    rw [MemL] at h ⊢
    obtain ⟨⟨cs, h6, hm⟩, hr⟩ := h
    exact ⟨⟨cs, h6.below hb hlt, Mem.below hb hm⟩, MemL.below hb hlt hr⟩
end
theorem MemL.at {B : Nat} {w : World} : ∀ {ks : List Tree} {b off : Nat}, MemL B w ks b off → ∀ (i : Nat) (u : Tree), ks[i]? = some u → ∃ cs, Six w b (off + i * 6) cs ∧ Mem B w u cs
  | [], b, off, _, i, u, hi => by simp at hi
  | v :: vs, b, off, h, 0, u, hi => by
    rw [MemL] at h
    simp only [List.getElem?_cons_zero, Option.some.injEq] at hi
    subst hi
    simpa using h.1
  | v :: vs, b, off, h, i + 1, u, hi => by
    rw [MemL] at h
    obtain ⟨cs, h6, hm⟩ := MemL.at h.2 i u (by simpa using hi)
    exact ⟨cs, by rw [show off + (i + 1) * 6 = off + 6 + i * 6 by omega]; exact h6, hm⟩

mutual
theorem Mem.mono {B B' : Nat} {w : World} (hB : B ≤ B') : ∀ {T : Tree} {v : Array Value}, Mem B w T v → Mem B' w T v
  | .mk k y c x t ks, v, h => by
    rw [Mem] at h ⊢
    obtain ⟨h1, h2, a, cap, hv, hk⟩ := h
    refine ⟨h1, h2, a, cap, hv, fun hne => ?_⟩
    obtain ⟨b, off, ha, hlt, hm⟩ := hk hne
    exact ⟨b, off, ha, Nat.lt_of_lt_of_le hlt hB, MemL.mono hB hm⟩
theorem MemL.mono {B B' : Nat} {w : World} (hB : B ≤ B') : ∀ {ks : List Tree} {b off : Nat}, MemL B w ks b off → MemL B' w ks b off
  | [], _, _, _ => by rw [MemL]; trivial
  | u :: us, b, off, h => by
    rw [MemL] at h ⊢
    obtain ⟨⟨cs, h6, hm⟩, hr⟩ := h
    exact ⟨⟨cs, h6, Mem.mono hB hm⟩, MemL.mono hB hr⟩
end

/-- the library's two tables -/
def Tabs (w : World) : Prop := Lib.Utf8Tabs (Tryd.laysValid_ren.g 3) (Tryd.laysValid_ren.g 4) w
theorem Tabs.below {B : Nat} {w w' : World} (h : Tabs w) (hb : Below B w w') (l3 : Tryd.laysValid_ren.g 3 < B) (l4 : Tryd.laysValid_ren.g 4 < B) : Tabs w' := by
  obtain ⟨h1, h2⟩ := h
  refine ⟨fun c hc => (hb.cell (p := ⟨_, c, none⟩) l3).trans (h1 c hc), fun i hi => ⟨(hb.cell (p := ⟨_, 2 * i, none⟩) l4).trans (h2 i hi).1, (hb.cell (p := ⟨_, 2 * i + 1, none⟩) l4).trans (h2 i hi).2⟩⟩

/-- the counter -/
def St (w : World) (p s : Nat) : Prop := w.cell? ⟨p, 0, none⟩ = some (.int .i64 (s : Int)) ∧ w.frozen? ⟨p, 0, none⟩ = false ∧ p < w.heap.size
theorem St.below {n : Nat} {w w' : World} {p s : Nat} (h : St w p s) (hb : Below n w w') (l : p < n) : St w' p s :=
  ⟨(hb.cell (p := ⟨p, 0, none⟩) l).trans h.1, (hb.frozen (p := ⟨p, 0, none⟩) l).trans h.2.1, Nat.lt_of_lt_of_le h.2.2 hb.size⟩

set_option maxHeartbeats 1000000 in
theorem wrongText_any (t : ByteArray) (w : World) (hs : t.size ≤ 9223372036854775807) (hT : Tabs w) :
    Calls Tryd.prog 18 #[.string t] w fun e w' => e = .returned (.int .i64 (wrongT t)) ∧ Below w.heap.size w w' := by
  have cV : Calls Tryd.prog 21 #[.string t] w _ := Any.utf8_ValidString Tryd.laysValid t w hs hT
  unfold wrongT
  generalize Lib.validD t.data.toList = V at cV ⊢
  by_cases hl : (1000 : Int) < (t.size : Int)
  · rw [if_pos hl]
    clear cV
    go_enter Tryd.func18, Tryd.ntmps18
    go_wp2
    go_ret
    exact ⟨rfl, Below.refl _ _⟩
  · rw [if_neg hl]
    cases V
    all_goals
      go_enter Tryd.func18, Tryd.ntmps18
      go_wp2_with (go_at_call 21; refine cV.mono ?_; rintro e w' ⟨rfl, hb⟩)
      go_ret
      exact ⟨rfl, hb⟩
end Go.Proofs.YthhdgimphnbjbaaDoor
