/- Walks: Same and finer of what is told; alive. -/
import Derived.Test.YtdkgapapdjefdaaGreatDoorG07
import Derived.Test.YtdkgapapdjefdaaGreatDoorG05
namespace Go.Proofs.YtdkgapapdjefdaaGreatDoor
open Go.RowKit

/-- a store into another block -/
theorem Box.aside {w : World} {b n j : Nat} {v : Array Value} {x : Value} (h : Box w b v) (ne : n ≠ b) : Box (w.setCell ⟨n, j, none⟩ x) b v := by
  have bl := Below.heap_setCell w ⟨n, j, none⟩ x b (fun e => ne e.symm)
  have c : ∀ o, (w.setCell ⟨n, j, none⟩ x).cell? ⟨b, o, none⟩ = w.cell? ⟨b, o, none⟩ := fun o => World.cell?_of_block (w := w) (a := ⟨b, o, none⟩) bl
  have f : ∀ o, (w.setCell ⟨n, j, none⟩ x).frozen? ⟨b, o, none⟩ = w.frozen? ⟨b, o, none⟩ := fun o => World.frozen?_of_block (w := w) (a := ⟨b, o, none⟩) bl
  exact ⟨by simp [World.setCell]; exact h.low, by rw [c]; exact h.at0, by rw [c]; exact h.at1, by rw [c]; exact h.at2, by rw [c]; exact h.at3, by rw [c]; exact h.at4, by rw [c]; exact h.at5, fun o => by rw [f]; exact h.free o⟩
/-- a value stored whole -/
abbrev put6 (w : World) (b : Nat) (v0 v1 v2 v3 v4 v5 : Value) : World :=
  (((((w.setCell ⟨b, 0, none⟩ v0).setCell ⟨b, 1, none⟩ v1).setCell ⟨b, 2, none⟩ v2).setCell ⟨b, 3, none⟩ v3).setCell ⟨b, 4, none⟩ v4).setCell ⟨b, 5, none⟩ v5
theorem Box.put {w : World} {b : Nat} {a0 a1 a2 a3 a4 a5 : Value} (h : Box w b #[a0, a1, a2, a3, a4, a5]) (v0 v1 v2 v3 v4 v5 : Value) : Box (put6 w b v0 v1 v2 v3 v4 v5) b #[v0, v1, v2, v3, v4, v5] := by
  obtain ⟨h0, h1, h2, h3, h4, h5⟩ := h.tell
  have fr := h.free
  refine ⟨by simp [put6, World.setCell]; exact h.low, ?_, ?_, ?_, ?_, ?_, ?_, ?_⟩
  · simp [put6, go_sem, h0]
  · simp [put6, go_sem, h1]
  · simp [put6, go_sem, h2]
  · simp [put6, go_sem, h3]
  · simp [put6, go_sem, h4]
  · simp [put6, go_sem, h5]
  · intro o
    simp [put6, go_sem, fr]
theorem Box.aside6 {w : World} {b n : Nat} {v : Array Value} {v0 v1 v2 v3 v4 v5 : Value} (h : Box w b v) (ne : n ≠ b) : Box (put6 w n v0 v1 v2 v3 v4 v5) b v :=
  (((((h.aside ne).aside ne).aside ne).aside ne).aside ne).aside ne
theorem below_put6 {w0 w : World} {m n : Nat} {v0 v1 v2 v3 v4 v5 : Value} (h : Below m w0 w) (l : m ≤ n) : Below m w0 (put6 w n v0 v1 v2 v3 v4 v5) :=
  (((((h.setCell l _).setCell l _).setCell l _).setCell l _).setCell l _).setCell l _

set_option maxHeartbeats 1000000 in
theorem same_told (h : Nat) (w : World) :
    Calls Tryz.prog 10 #[told h, told h] w fun e w' => e = .returned (.bool true) ∧ Below w.heap.size w w' := by
  go_enter Tryz.func10, Tryz.ntmps10
  go_wp2
  go_loop [44] (fun i => i = .int .i64 0) (fun _ => 0)
  case atStart => rfl
  case round =>
    subst hrel
    go_wp2
    go_ret
    exact ⟨rfl, ((Below.refl _ _).alloc (Nat.le_refl _) _).alloc (by simp) _⟩

theorem same_eq (a b : Nat) (w : World) (h : a = b) :
    Calls Tryz.prog 10 #[told a, told b] w fun e w' => e = .returned (.bool true) ∧ Below w.heap.size w w' := h ▸ same_told a w

theorem tv_told {h : Nat} (l : h ≤ 2) : tv (kd h) (yd h) = h := by
  rcases (by omega : h = 0 ∨ h = 1 ∨ h = 2) with rfl | rfl | rfl <;> rfl

theorem not_told (h : Nat) (l : h ≤ 2) (w : World) :
    Calls Tryz.prog 55 #[told h] w fun e w' => e = .returned (told (2 - h)) ∧ Below w.heap.size w w' := by
  have := not_any (kd h) (yd h) 0 0 (.string ⟨#[]⟩) (.slice none 0 0) w
  rw [tv_told l] at this
  exact this

theorem and_told (h g : Nat) (l : h ≤ 2) (m : g ≤ 2) (w : World) :
    Calls Tryz.prog 56 #[told h, told g] w fun e w' => e = .returned (told (min h g)) ∧ Below w.heap.size w w' := by
  have := and_any (kd h) (yd h) 0 0 (.string ⟨#[]⟩) (.slice none 0 0) (kd g) (yd g) 0 0 (.string ⟨#[]⟩) (.slice none 0 0) w
  rw [tv_told l, tv_told m] at this
  exact this

theorem or_told (h g : Nat) (l : h ≤ 2) (m : g ≤ 2) (w : World) :
    Calls Tryz.prog 93 #[told h, told g] w fun e w' => e = .returned (told (max h g)) ∧ Below w.heap.size w w' := by
  have := or_any (kd h) (yd h) 0 0 (.string ⟨#[]⟩) (.slice none 0 0) (kd g) (yd g) 0 0 (.string ⟨#[]⟩) (.slice none 0 0) w
  rw [tv_told l, tv_told m] at this
  exact this
end Go.Proofs.YtdkgapapdjefdaaGreatDoor

/- Values as trees: how one lies in memory. -/
namespace Go.Proofs.YtdkgapapdjefdaaGreatDoor
open Go.RowKit

inductive Tree where
  | mk (k : Int) (y : Bool) (c x : Int) (t : ByteArray) (ks : List Tree)

/-- six cells in a row -/
def Six (w : World) (b o : Nat) (u : Array Value) : Prop := ∃ u0 u1 u2 u3 u4 u5, u = #[u0, u1, u2, u3, u4, u5] ∧ w.cell? ⟨b, o, none⟩ = some u0 ∧ w.cell? ⟨b, o + 1, none⟩ = some u1 ∧ w.cell? ⟨b, o + 2, none⟩ = some u2 ∧ w.cell? ⟨b, o + 3, none⟩ = some u3 ∧ w.cell? ⟨b, o + 4, none⟩ = some u4 ∧ w.cell? ⟨b, o + 5, none⟩ = some u5
theorem Six.below {B : Nat} {w w' : World} {b o : Nat} {u : Array Value} (h : Six w b o u) (hb : Below B w w') (l : b < B) : Six w' b o u := by
  have c : ∀ o, w'.cell? ⟨b, o, none⟩ = w.cell? ⟨b, o, none⟩ := fun o => hb.cell (p := ⟨b, o, none⟩) l
  obtain ⟨u0, u1, u2, u3, u4, u5, hu, h0, h1, h2, h3, h4, h5⟩ := h
  exact ⟨u0, u1, u2, u3, u4, u5, hu, by rw [c, h0], by rw [c, h1], by rw [c, h2], by rw [c, h3], by rw [c, h4], by rw [c, h5]⟩

mutual
/-- a tree in memory, below B -/
def Mem (B : Nat) (w : World) : Tree → Array Value → Prop
  | .mk k y c x t ks, v => t.size ≤ 9223372036854775807 ∧ ks.length ≤ 9223372036854775807 ∧
    ∃ (a : Option Addr) (cap : Nat), v = #[.int .i64 k, .bool y, .int .i64 c, .int .i64 x, .string t, .slice a ks.length cap] ∧ (ks ≠ [] → ∃ b off, a = some ⟨b, off, none⟩ ∧ b < B ∧ MemL B w ks b off)
def MemL (B : Nat) (w : World) : List Tree → Nat → Nat → Prop
  | [], _, _ => True
  | u :: us, b, off => (∃ cs, Six w b off cs ∧ Mem B w u cs) ∧ MemL B w us b (off + 6)
end

mutual
theorem Mem.below {B : Nat} {w w' : World} (hb : Below B w w') : ∀ {T : Tree} {v : Array Value}, Mem B w T v → Mem B w' T v
  | .mk k y c x t ks, v, h => by
    rw [Mem] at h ⊢
    obtain ⟨h1, h2, a, cap, hv, hk⟩ := h
    refine ⟨h1, h2, a, cap, hv, fun hne => ?_⟩
    obtain ⟨b, off, ha, hlt, hm⟩ := hk hne
    exact ⟨b, off, ha, hlt, MemL.below hb hlt hm⟩
theorem MemL.below {B : Nat} {w w' : World} (hb : Below B w w') : ∀ {ks : List Tree} {b off : Nat}, b < B → MemL B w ks b off → MemL B w' ks b off
  | [], _, _, _, _ => by rw [MemL]; trivial
  | u :: us, b, off, hlt, h => by
    rw [MemL] at h ⊢
    obtain ⟨⟨cs, h6, hm⟩, hr⟩ := h
    exact ⟨⟨cs, h6.below hb hlt, Mem.below hb hm⟩, MemL.below hb hlt hr⟩
end
theorem MemL.at {B : Nat} {w : World} : ∀ {ks : List Tree} {b off : Nat}, MemL B w ks b off → ∀ (i : Nat) (u : Tree), ks[i]? = some u → ∃ cs, Six w b (off + i * 6) cs ∧ Mem B w u cs
  | [], b, off, _, i, u, hi => by simp at hi
  | v :: vs, b, off, h, 0, u, hi => by
    rw [MemL] at h
    simp only [List.getElem?_cons_zero, Option.some.injEq] at hi
    subst hi
    simpa using h.1
  | v :: vs, b, off, h, i + 1, u, hi => by
    rw [MemL] at h
    obtain ⟨cs, h6, hm⟩ := MemL.at h.2 i u (by simpa using hi)
    exact ⟨cs, by rw [show off + (i + 1) * 6 = off + 6 + i * 6 by omega]; exact h6, hm⟩

mutual
theorem Mem.mono {B B' : Nat} {w : World} (hB : B ≤ B') : ∀ {T : Tree} {v : Array Value}, Mem B w T v → Mem B' w T v
  | .mk k y c x t ks, v, h => by
    rw [Mem] at h ⊢
    obtain ⟨h1, h2, a, cap, hv, hk⟩ := h
    refine ⟨h1, h2, a, cap, hv, fun hne => ?_⟩
    obtain ⟨b, off, ha, hlt, hm⟩ := hk hne
    exact ⟨b, off, ha, Nat.lt_of_lt_of_le hlt hB, MemL.mono hB hm⟩
theorem MemL.mono {B B' : Nat} {w : World} (hB : B ≤ B') : ∀ {ks : List Tree} {b off : Nat}, MemL B w ks b off → MemL B' w ks b off
  | [], _, _, _ => by rw [MemL]; trivial
  | u :: us, b, off, h => by
    rw [MemL] at h ⊢
    obtain ⟨⟨cs, h6, hm⟩, hr⟩ := h
    exact ⟨⟨cs, h6, Mem.mono hB hm⟩, MemL.mono hB hr⟩
end

/-- the counter -/
def St (w : World) (p s : Nat) : Prop := w.cell? ⟨p, 0, none⟩ = some (.int .i64 (s : Int)) ∧ w.frozen? ⟨p, 0, none⟩ = false ∧ p < w.heap.size
theorem St.below {n : Nat} {w w' : World} {p s : Nat} (h : St w p s) (hb : Below n w w') (l : p < n) : St w' p s :=
  ⟨(hb.cell (p := ⟨p, 0, none⟩) l).trans h.1, (hb.frozen (p := ⟨p, 0, none⟩) l).trans h.2.1, Nat.lt_of_lt_of_le h.2.2 hb.size⟩

end Go.Proofs.YtdkgapapdjefdaaGreatDoor

/- A frame behind a region that draws: what was, with what came up put in; runs of what reads a value. -/
namespace Go.Proofs.YtdkgapapdjefdaaGreatDoor
open Go.RowKit

theorem frame_name {P : Program} {code : Code} {Q : Exit → Act → World → Prop} {a : Act} {w : World} (k : ∀ a0, a0 = a → Code.wp P code Q a0 w) : Code.wp P code Q a w := k a rfl

theorem G_put {b : Act} {d i : Nat} {v : Value} (h : d < b.tmps.size) : G (b.put (some d) v) i = if i = d then v else G b i := by
  have U := upd_put (v := v) h
  by_cases e : i = d
  · subst e; rw [if_pos rfl]; exact U.got
  · rw [if_neg e]; exact U.rest i e

theorem act_ext {a b : Act} (hs : a.tmps.size = b.tmps.size) (hd : a.defers = b.defers) (h : ∀ i, G a i = G b i) : a = b := by
  obtain ⟨t, d⟩ := a
  obtain ⟨t', d'⟩ := b
  simp only at hd hs
  subst hd
  congr 1
  apply Array.ext hs
  intro i h1 h2
  have := h i
  simpa [G, Array.getD_eq_getD_getElem?, Array.getElem?_eq_getElem h1, Array.getElem?_eq_getElem h2] using this

theorem puts_is {a : Act} : ∀ (D : List Nat) (b : Act), a.tmps.size = b.tmps.size → a.defers = b.defers → (∀ d ∈ D, d < b.tmps.size) → (∀ i, i ∉ D → G a i = G b i) → a = D.foldl (fun b d => b.put (some d) (G a d)) b
  | [], b, hs, hd, _, h => act_ext hs hd (fun i => h i (by simp))
  | d :: D, b, hs, hd, hl, h => by
    rw [List.foldl_cons]
    have hdl := hl d (by simp)
    have U := upd_put (v := G a d) hdl
    refine puts_is D _ (hs.trans U.size.symm) (hd.trans U.defs.symm) (fun e he => by rw [U.size]; exact hl e (by simp [he])) (fun i hi => ?_)
    rw [G_put hdl]
    by_cases e : i = d
    · rw [if_pos e, e]
    · rw [if_neg e]; exact h i (by simp [e, hi])

theorem frame_puts {w0 w : World} {a0 a : Act} {N : Nat} {D : List Nat} {Ok : Nat → Value → World → Prop} {Un L : Nat → Bool} (h : RI w0 a0 N D Ok Un L a w) (h0 : a0.tmps.size = N) (hd0 : a0.defers = []) (hl : ∀ d ∈ D, d < N) : a = D.foldl (fun b d => b.put (some d) (G a d)) a0 :=
  puts_is D a0 (h.size.trans h0.symm) (h.defs.trans hd0.symm) (fun d hd => by rw [h0]; exact hl d hd) (fun _ hi => h.keep hi)

section
variable {a : Act} {w : World} {d : Option Nat} {t : TypeId} {p : String} {af : Array Edge} {g : Option (Nat × Bool)}
/-- a whole value is read -/
theorem run_ld6 {x : Operand} {b o : Nat} {v0 v1 v2 v3 v4 v5 : Value} (h : a.eval x = .pointer (some ⟨b, o, none⟩)) (c0 : w.cell? ⟨b, o, none⟩ = some v0) (c1 : w.cell? ⟨b, o + 1, none⟩ = some v1) (c2 : w.cell? ⟨b, o + 2, none⟩ = some v2) (c3 : w.cell? ⟨b, o + 3, none⟩ = some v3) (c4 : w.cell? ⟨b, o + 4, none⟩ = some v4) (c5 : w.cell? ⟨b, o + 5, none⟩ = some v5) :
    (execOp a.eval ⟨d, .load 27 x, t, p, af, g⟩).run Tryz.prog w = .ok (.value (.agg #[v0, v1, v2, v3, v4, v5])) w := by
  generalize a.eval = E at h ⊢
  simp [go_sem, h, c0, c1, c2, c3, c4, c5]
theorem run_ldX {x : Operand} {b : Nat} {v0 v1 v2 v3 v4 v5 : Value} (h : a.eval x = .pointer (some ⟨b, 0, none⟩)) (B : Box w b #[v0, v1, v2, v3, v4, v5]) :
    (execOp a.eval ⟨d, .load 27 x, t, p, af, g⟩).run Tryz.prog w = .ok (.value (.agg #[v0, v1, v2, v3, v4, v5])) w := by
  obtain ⟨c0, c1, c2, c3, c4, c5⟩ := B.tell
  generalize a.eval = E at h ⊢
  simp [go_sem, h, c0, c1, c2, c3, c4, c5]
theorem run_fldL {x : Operand} {b : Nat} (h : a.eval x = .pointer (some ⟨b, 0, none⟩)) : (execOp a.eval ⟨d, .fieldAddr 27 x 4, t, p, af, g⟩).run Tryz.prog w = .ok (.value (.pointer (some ⟨b, 5, none⟩))) w := by
  generalize a.eval = E at h ⊢
  simp [go_sem, h]
theorem run_ldL {x : Operand} {ad : Addr} {s : Option Addr} {n c : Nat} (h : a.eval x = .pointer (some ad)) (hc : w.cell? ad = some (.slice s n c)) : (execOp a.eval ⟨d, .load 25 x, t, p, af, g⟩).run Tryz.prog w = .ok (.value (.slice s n c)) w := by
  generalize a.eval = E at h ⊢
  simp [go_sem, h, hc]
theorem run_ixV {x y : Operand} {b off n c m : Nat} (h : a.eval x = .slice (some ⟨b, off, none⟩) n c) (hm : a.eval y = .int .i64 (m : Int)) (l : m < n) : (execOp a.eval ⟨d, .indexAddr 25 x y, t, p, af, g⟩).run Tryz.prog w = .ok (.value (.pointer (some ⟨b, off + m * 6, none⟩))) w := by
  generalize a.eval = E at h hm ⊢
  have l' : (m : Int) < (n : Int) := by omega
  simp [go_sem, h, hm, l']
theorem run_neI {x y : Operand} {u v : Int} {r : Bool} (hx : a.eval x = .int .i64 u) (hy : a.eval y = .int .i64 v) (hr : (u != v) = r) : (execOp a.eval ⟨d, .binOp .neq 29 x y 29, t, p, af, g⟩).run Tryz.prog w = .ok (.value (.bool r)) w := by
  generalize a.eval = E at hx hy ⊢
  subst hr
  simp [go_sem, hx, hy]
end
end Go.Proofs.YtdkgapapdjefdaaGreatDoor
