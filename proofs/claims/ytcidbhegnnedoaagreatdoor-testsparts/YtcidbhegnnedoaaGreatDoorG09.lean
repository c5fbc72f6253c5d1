/- Tests as trees: what is wrong with one, what it says of a value, of which types it may be asked; how it lies in memory (sixteen cells a node). -/
import Derived.Test.YtcidbhegnnedoaaGreatDoorG08
import Derived.Test.YtcidbhegnnedoaaGreatDoorG03
import Derived.Test.YtcidbhegnnedoaaGreatDoorProg
import Derived.Shelf.Small.Wraps
import Derived.Shelf.Strings.Search2
import Derived.Lib.CutLaws
import Derived.Shelf.Strings.Prefix
import Derived.Shelf.Strconv.Clone
import Derived.Shelf.Strings.BuilderRune
import Derived.Shelf.Strings.BuilderK
namespace Go.Proofs.YtcidbhegnnedoaaGreatDoor
open Go.RowKit

inductive TS where
  | mk (k : Int) (a b : Tree) (oa ob : Bool) (ks : List TS)

def Tree.kd : Tree → Int | .mk k _ _ _ _ _ => k
/-- a number that may stand in a test -/
def inR (c x : Int) : Prop := Dm.sgn (Dm.V (max c (-c)) x - Dm.V 1 9) ≤ 0 ∧ -6 ≤ x
instance (c x : Int) : Decidable (inR c x) := by unfold inR; infer_instance
/-- what is wrong with a value in a test -/
def valW : Tree → Int
  | .mk k y c x t ks => if (wrongF (.mk k y c x t ks) 0 1).1 = 0 then (if k = 5 then 8 else if k = 3 ∧ ¬ inR c x then 3 else 0) else (wrongF (.mk k y c x t ks) 0 1).1
def oneW (a : Tree) : Int := if valW a = 0 then (if a.kd = 3 ∨ a.kd = 4 then 0 else 9) else valW a
def twoW (a b : Tree) : Int := if valW a = 0 then (if valW b = 0 then (if a.kd = 3 ∨ a.kd = 4 then (if b.kd = a.kd then 0 else 9) else 9) else valW b) else valW a

mutual
def wrongS : TS → Nat → Int
  | .mk k a b _ _ ks, d => if 4 < d then 4 else if k < 1 ∨ 9 < k then 1 else if k = 8 ∨ k = 9 then (if ks.length < 1 ∨ 20 < ks.length then 5 else wrongSL ks (d + 1))
    else if k = 1 then 0 else if k = 2 then valW a else if k = 7 then twoW a b else oneW a
def wrongSL : List TS → Nat → Int
  | [], _ => 0
  | u :: us, d => if wrongS u d = 0 then wrongSL us d else wrongS u d
end

mutual
/-- what a right test says of a right value, in halves -/
def doesS : TS → Tree → Nat
  | .mk k a b oa ob ks, v => if k = 1 then 2 else if k = 2 then eqP v a else if k = 3 then lessH v a else if k = 4 then 2 - lessH a v else if k = 5 then lessH a v else if k = 6 then 2 - lessH v a
    else if k = 7 then min (if oa = true then lessH a v else 2 - lessH v a) (if ob = true then lessH v b else 2 - lessH b v) else if k = 8 then doesL ks v else 2 - doesL ks v
def doesL : List TS → Tree → Nat
  | [], _ => 0
  | u :: us, v => max (doesS u v) (doesL us v)
end

def fitV (k ty : Int) : Bool := k == 1 || ty == 6 || (k == 2 && ty == 2) || (k == 3 && ty == 3) || (k == 4 && ty == 4)
mutual
def fitsS : TS → Int → Bool
  | .mk k a _ _ _ ks, ty => if k = 1 then true else if k = 8 ∨ k = 9 then fitsL ks ty else fitV a.kd ty
def fitsL : List TS → Int → Bool
  | [], _ => true
  | u :: us, ty => fitsS u ty && fitsL us ty
end

mutual
theorem doesS_le : ∀ (T : TS) (v : Tree), doesS T v ≤ 2
  | .mk k a b oa ob ks, v => by
    rw [doesS]
    have h1 := lessH_le v a
    have h2 := lessH_le a v
    have h3 := lessH_le v b
    have h4 := lessH_le b v
    have h5 := eqP_le v a
    have h6 := doesL_le ks v
    repeat' split
    all_goals omega
theorem doesL_le : ∀ (ks : List TS) (v : Tree), doesL ks v ≤ 2
  | [], v => by rw [doesL]; omega
  | u :: us, v => by
    rw [doesL]
    have h1 := doesS_le u v
    have h2 := doesL_le us v
    omega
end

/-- sixteen cells in a row -/
structure C16 (w : World) (b o : Nat) (u : Array Value) : Prop where
  size : u.size = 16
  cell : ∀ i v, u[i]? = some v → w.cell? ⟨b, o + i, none⟩ = some v
theorem C16.below {B : Nat} {w w' : World} {b o : Nat} {u : Array Value} (h : C16 w b o u) (hb : Below B w w') (l : b < B) : C16 w' b o u :=
  ⟨h.size, fun i v hv => (hb.cell (p := ⟨b, o + i, none⟩) l).trans (h.cell i v hv)⟩

theorem C16.tell {w : World} {b o : Nat} {v0 v1 v2 v3 v4 v5 v6 v7 v8 v9 v10 v11 v12 v13 v14 v15 : Value} (h : C16 w b o #[v0, v1, v2, v3, v4, v5, v6, v7, v8, v9, v10, v11, v12, v13, v14, v15]) :
    w.cell? ⟨b, o, none⟩ = some v0 ∧ w.cell? ⟨b, o + 1, none⟩ = some v1 ∧ w.cell? ⟨b, o + 2, none⟩ = some v2 ∧ w.cell? ⟨b, o + 3, none⟩ = some v3 ∧ w.cell? ⟨b, o + 4, none⟩ = some v4 ∧ w.cell? ⟨b, o + 5, none⟩ = some v5 ∧ w.cell? ⟨b, o + 6, none⟩ = some v6 ∧ w.cell? ⟨b, o + 7, none⟩ = some v7 ∧ w.cell? ⟨b, o + 8, none⟩ = some v8 ∧ w.cell? ⟨b, o + 9, none⟩ = some v9 ∧ w.cell? ⟨b, o + 10, none⟩ = some v10 ∧ w.cell? ⟨b, o + 11, none⟩ = some v11 ∧ w.cell? ⟨b, o + 12, none⟩ = some v12 ∧ w.cell? ⟨b, o + 13, none⟩ = some v13 ∧ w.cell? ⟨b, o + 14, none⟩ = some v14 ∧ w.cell? ⟨b, o + 15, none⟩ = some v15 :=
  ⟨h.cell 0 _ rfl, h.cell 1 _ rfl, h.cell 2 _ rfl, h.cell 3 _ rfl, h.cell 4 _ rfl, h.cell 5 _ rfl, h.cell 6 _ rfl, h.cell 7 _ rfl, h.cell 8 _ rfl, h.cell 9 _ rfl, h.cell 10 _ rfl, h.cell 11 _ rfl, h.cell 12 _ rfl, h.cell 13 _ rfl, h.cell 14 _ rfl, h.cell 15 _ rfl⟩
/-- a block of a test's sixteen cells that is carried along -/
structure B16 (w : World) (b : Nat) (u : Array Value) : Prop where
  low : b < w.heap.size
  cell : ∀ i v, u[i]? = some v → w.cell? ⟨b, i, none⟩ = some v
theorem B16.keep {w w' : World} {b n : Nat} {u : Array Value} (h : B16 w b u) (hb : Below n w w') (l : b < n) : B16 w' b u :=
  ⟨Nat.lt_of_lt_of_le h.low hb.size, fun i v hv => (hb.cell (p := ⟨b, i, none⟩) l).trans (h.cell i v hv)⟩
theorem B16.tell {w : World} {b : Nat} {v0 v1 v2 v3 v4 v5 v6 v7 v8 v9 v10 v11 v12 v13 v14 v15 : Value} (h : B16 w b #[v0, v1, v2, v3, v4, v5, v6, v7, v8, v9, v10, v11, v12, v13, v14, v15]) :
    w.cell? ⟨b, 0, none⟩ = some v0 ∧ w.cell? ⟨b, 1, none⟩ = some v1 ∧ w.cell? ⟨b, 2, none⟩ = some v2 ∧ w.cell? ⟨b, 3, none⟩ = some v3 ∧ w.cell? ⟨b, 4, none⟩ = some v4 ∧ w.cell? ⟨b, 5, none⟩ = some v5 ∧ w.cell? ⟨b, 6, none⟩ = some v6 ∧ w.cell? ⟨b, 7, none⟩ = some v7 ∧ w.cell? ⟨b, 8, none⟩ = some v8 ∧ w.cell? ⟨b, 9, none⟩ = some v9 ∧ w.cell? ⟨b, 10, none⟩ = some v10 ∧ w.cell? ⟨b, 11, none⟩ = some v11 ∧ w.cell? ⟨b, 12, none⟩ = some v12 ∧ w.cell? ⟨b, 13, none⟩ = some v13 ∧ w.cell? ⟨b, 14, none⟩ = some v14 ∧ w.cell? ⟨b, 15, none⟩ = some v15 :=
  ⟨h.cell 0 _ rfl, h.cell 1 _ rfl, h.cell 2 _ rfl, h.cell 3 _ rfl, h.cell 4 _ rfl, h.cell 5 _ rfl, h.cell 6 _ rfl, h.cell 7 _ rfl, h.cell 8 _ rfl, h.cell 9 _ rfl, h.cell 10 _ rfl, h.cell 11 _ rfl, h.cell 12 _ rfl, h.cell 13 _ rfl, h.cell 14 _ rfl, h.cell 15 _ rfl⟩
theorem B16.new {w : World} {t : TypeId} {u : Array Value} : B16 (w.alloc (.cells u t)) w.heap.size u :=
  ⟨by simp, fun i v hv => by simp [go_sem, hv]⟩
theorem B16.over {w : World} {b : Nat} {u : Array Value} {o : Obj} (h : B16 w b u) : B16 (w.alloc o) b u := h.keep (vbelow_new _ _) h.low

mutual
/-- a test in memory, below B -/
def MemS (B : Nat) (w : World) : TS → Array Value → Prop
  | .mk k a b oa ob ks, v => ks.length ≤ 9223372036854775807 ∧ ∃ (a0 a1 a2 a3 a4 a5 b0 b1 b2 b3 b4 b5 : Value) (ad : Option Addr) (cap : Nat), Mem B w a #[a0, a1, a2, a3, a4, a5] ∧ Mem B w b #[b0, b1, b2, b3, b4, b5] ∧
    v = #[.int .i64 k, a0, a1, a2, a3, a4, a5, b0, b1, b2, b3, b4, b5, .bool oa, .bool ob, .slice ad ks.length cap] ∧ (ks ≠ [] → ∃ bl off, ad = some ⟨bl, off, none⟩ ∧ bl < B ∧ MemSL B w ks bl off)
def MemSL (B : Nat) (w : World) : List TS → Nat → Nat → Prop
  | [], _, _ => True
  | u :: us, b, off => (∃ cs, C16 w b off cs ∧ MemS B w u cs) ∧ MemSL B w us b (off + 16)
end

mutual
theorem MemS.below {B : Nat} {w w' : World} (hb : Below B w w') : ∀ {T : TS} {v : Array Value}, MemS B w T v → MemS B w' T v
  | .mk k a b oa ob ks, v, h => by
    rw [MemS] at h ⊢
    obtain ⟨h1, a0, a1, a2, a3, a4, a5, b0, b1, b2, b3, b4, b5, ad, cap, ha, hb', hv, hk⟩ := h
    refine ⟨h1, a0, a1, a2, a3, a4, a5, b0, b1, b2, b3, b4, b5, ad, cap, Mem.below hb ha, Mem.below hb hb', hv, fun hne => ?_⟩
    obtain ⟨bl, off, e, hlt, hm⟩ := hk hne
    exact ⟨bl, off, e, hlt, MemSL.below hb hlt hm⟩
theorem MemSL.below {B : Nat} {w w' : World} (hb : Below B w w') : ∀ {ks : List TS} {b off : Nat}, b < B → MemSL B w ks b off → MemSL B w' ks b off
  | [], _, _, _, _ => by rw [MemSL]; trivial
  | u :: us, b, off, hlt, h => by
    rw [MemSL] at h ⊢
    obtain ⟨⟨cs, h6, hm⟩, hr⟩ := h
    exact ⟨⟨cs, h6.below hb hlt, MemS.below hb hm⟩, MemSL.below hb hlt hr⟩
end
mutual
theorem MemS.mono {B B' : Nat} {w : World} (hB : B ≤ B') : ∀ {T : TS} {v : Array Value}, MemS B w T v → MemS B' w T v
  | .mk k a b oa ob ks, v, h => by
    rw [MemS] at h ⊢
    obtain ⟨h1, a0, a1, a2, a3, a4, a5, b0, b1, b2, b3, b4, b5, ad, cap, ha, hb', hv, hk⟩ := h
    refine ⟨h1, a0, a1, a2, a3, a4, a5, b0, b1, b2, b3, b4, b5, ad, cap, Mem.mono hB ha, Mem.mono hB hb', hv, fun hne => ?_⟩
    obtain ⟨bl, off, e, hlt, hm⟩ := hk hne
    exact ⟨bl, off, e, Nat.lt_of_lt_of_le hlt hB, MemSL.mono hB hm⟩
theorem MemSL.mono {B B' : Nat} {w : World} (hB : B ≤ B') : ∀ {ks : List TS} {b off : Nat}, MemSL B w ks b off → MemSL B' w ks b off
  | [], _, _, _ => by rw [MemSL]; trivial
  | u :: us, b, off, h => by
    rw [MemSL] at h ⊢
    obtain ⟨⟨cs, h6, hm⟩, hr⟩ := h
    exact ⟨⟨cs, h6, MemS.mono hB hm⟩, MemSL.mono hB hr⟩
end
theorem MemSL.at {B : Nat} {w : World} : ∀ {ks : List TS} {b off : Nat}, MemSL B w ks b off → ∀ (i : Nat) (u : TS), ks[i]? = some u → ∃ cs, C16 w b (off + i * 16) cs ∧ MemS B w u cs
  | [], b, off, _, i, u, hi => by simp at hi
  | v :: vs, b, off, h, 0, u, hi => by
    rw [MemSL] at h
    simp only [List.getElem?_cons_zero, Option.some.injEq] at hi
    subst hi
    simpa using h.1
  | v :: vs, b, off, h, i + 1, u, hi => by
    rw [MemSL] at h
    obtain ⟨cs, h6, hm⟩ := MemSL.at h.2 i u (by simpa using hi)
    exact ⟨cs, by rw [show off + (i + 1) * 16 = off + 16 + i * 16 by omega]; exact h6, hm⟩
theorem MemS.grow {w w' : World} {T : TS} {v : Array Value} (h : MemS w.heap.size w T v) (hb : Below w.heap.size w w') : MemS w'.heap.size w' T v :=
  (h.below hb).mono hb.size
theorem Mem.six {B : Nat} {w : World} {T : Tree} {a0 a1 a2 a3 a4 a5 : Value} (h : Mem B w T #[a0, a1, a2, a3, a4, a5]) :
    ∃ (y : Bool) (c x : Int) (t : ByteArray) (l : Option Addr) (n m : Nat), a0 = .int .i64 T.kd ∧ a1 = .bool y ∧ a2 = .int .i64 c ∧ a3 = .int .i64 x ∧ a4 = .string t ∧ a5 = .slice l n m := by
  obtain ⟨k, y, c, x, t, ks⟩ := T
  rw [Mem] at h
  obtain ⟨_, _, a, cap, e, _⟩ := h
  simp only [Array.mk.injEq, List.cons.injEq, and_true] at e
  obtain ⟨e0, e1, e2, e3, e4, e5⟩ := e
  exact ⟨y, c, x, t, a, ks.length, cap, e0, e1, e2, e3, e4, e5⟩
theorem tdrop_at {ks : List Tree} {m : Nat} {u : Tree} (hlt : m < ks.length) (hu : ks[m]? = some u) : ks.drop m = u :: ks.drop (m + 1) := by
  rw [List.drop_eq_getElem_cons hlt]
  congr 1
  rw [List.getElem?_eq_getElem hlt] at hu
  exact Option.some.inj hu
theorem bv {w0 wp w1 : World} (h : Below w0.heap.size w0 wp) (k : Below wp.heap.size wp w1) : Below w0.heap.size w0 w1 := h.trans (k.mono h.size)
theorem sdrop_at {ks : List TS} {m : Nat} {u : TS} (hlt : m < ks.length) (hu : ks[m]? = some u) : ks.drop m = u :: ks.drop (m + 1) := by
  rw [List.drop_eq_getElem_cons hlt]
  congr 1
  rw [List.getElem?_eq_getElem hlt] at hu
  exact Option.some.inj hu
end Go.Proofs.YtcidbhegnnedoaaGreatDoor

/- A region that draws its order and ends with the store of a value that is told; runs of what reads a test. -/
namespace Go.Proofs.YtcidbhegnnedoaaGreatDoor
open Go.RowKit

def Ds.isL : Ds → Value → Prop
  | .lit v, x => x = v
  | .mem _ _, _ => True
  | .any, _ => True
def OkS (g : Bool) (l : List Ds) (i : Nat) (v : Value) (w : World) : Prop := if g = true then ((l[i]?).getD .any).isL v else OkL l i v w
theorem oks_lit {g : Bool} {l : List Ds} {i : Nat} {v u : Value} {w : World} (h : OkS g l i v w) (hl : (l[i]?).getD .any = .lit u) : v = u := by
  unfold OkS at h
  split at h
  · rw [hl] at h; exact h
  · unfold OkL at h
    rw [hl] at h; exact h
theorem oks_mem {g : Bool} {l : List Ds} {i : Nat} {v : Value} {w : World} (h : OkS g l i v w) (hg : g = false) : OkL l i v w := by
  unfold OkS at h
  rw [hg] at h
  exact h
theorem oks_of {g : Bool} {l : List Ds} {i : Nat} {u : Value} {w : World} (hl : (l[i]?).getD .any = .lit u) : OkS g l i u w := by
  unfold OkS
  split
  · rw [hl]; exact rfl
  · unfold OkL
    rw [hl]; exact rfl

structure RS (w0 : World) (a0 : Act) (N : Nat) (D : List Nat) (gi : Nat) (Fin : World → Prop) (l : List Ds) (L : Nat → Bool) (a : Act) (w : World) : Prop where
  size : a.tmps.size = N
  defs : a.defers = []
  rest : ∀ j, (∀ i d, L i = true → D[i]? = some d → d ≠ j) → G a j = G a0 j
  got : ∀ i d, L i = true → D[i]? = some d → OkS (L gi) l i (G a d) w
  old : L gi = false → Below w0.heap.size w0 w
  fin : L gi = true → Fin w
section
variable {w0 w w' : World} {a0 a a' : Act} {N gi : Nat} {D : List Nat} {Fin : World → Prop} {l : List Ds} {L : Nat → Bool} {ops : Array Oper} {Q : Exit → Act → World → Prop} {i d : Nat} {o : Oper}
theorem RS.keep (h : RS w0 a0 N D gi Fin l L a w) {s : Nat} (hs : s ∉ D) : G a s = G a0 s :=
  h.rest s (fun _ _ _ hd e => hs (e ▸ List.mem_of_getElem? hd))
theorem RS.start (h1 : a0.tmps.size = N) (h2 : a0.defers = []) (h3 : Below w0.heap.size w0 w) : RS w0 a0 N D gi Fin l (fun _ => false) a0 w :=
  ⟨h1, h2, fun _ _ => rfl, fun _ _ h => (by cases h), fun _ => h3, fun h => (by cases h)⟩
theorem nodupS_at (nd : D.Nodup) {j : Nat} (hi : D[i]? = some d) (hj : D[j]? = some d) : j = i := by
  obtain ⟨l1, e1⟩ := List.getElem?_eq_some_iff.1 hi
  obtain ⟨l2, e2⟩ := List.getElem?_eq_some_iff.1 hj
  exact (List.getElem_inj nd).1 (e2.trans e1.symm)
theorem RS.step (h : RS w0 a0 N D gi Fin l L a w) (nd : D.Nodup) (i : Nat) {d : Nat} {v : Value} (hi : D[i]? = some d) (ne : gi ≠ i) (U : Upd a d v a') (hd : a'.defers = a.defers) (hw : w' = w ∨ (L gi = false ∧ Below w.heap.size w w')) (ok : OkS (L gi) l i v w') :
    RS w0 a0 N D gi Fin l (fun j => j == i || L j) a' w' := by
  have eg : (gi == i || L gi) = L gi := by simp [ne]
  refine ⟨U.size.trans h.size, hd.trans h.defs, fun j hj => ?_, fun j e hj he => ?_, fun hg => ?_, fun hg => ?_⟩
  · have hne : j ≠ d := fun e => hj i d (by simp) hi e.symm
    rw [U.rest j hne]
    exact h.rest j (fun i' d' hi' hd' => hj i' d' (by simp [hi']) hd')
  · show OkS (gi == i || L gi) l j (G a' e) w'
    rw [eg]
    by_cases e1 : j = i
    · subst e1
      rw [hi] at he
      cases he
      rw [U.got]
      exact ok
    · have hL : L j = true := by simpa [e1] using hj
      have hne : e ≠ d := fun q => e1 (nodupS_at nd hi (q ▸ he))
      rw [U.rest e hne]
      have g := h.got j e hL he
      rcases hw with rfl | ⟨hg, hb⟩
      · exact g
      · unfold OkS at *
        rw [hg] at g ⊢
        exact OkL.mono l j _ _ _ hb g
  · have hg' : L gi = false := by rw [← eg]; exact hg
    rcases hw with rfl | ⟨_, hb⟩
    · exact h.old hg'
    · exact (h.old hg').trans (hb.mono (h.old hg').size)
  · have hg' : L gi = true := by rw [← eg]; exact hg
    rcases hw with rfl | ⟨hq, _⟩
    · exact h.fin hg'
    · rw [hg'] at hq; cases hq
theorem RS.lastS (h : RS w0 a0 N D gi Fin l L a w) (hi : D[gi]? = none) (hg : L gi = false) (fin : Fin w') :
    RS w0 a0 N D gi Fin l (fun j => j == gi || L j) a w' := by
  refine ⟨h.size, h.defs, fun j hj => h.rest j (fun i' d' hi' hd' => hj i' d' (by simp [hi']) hd'), fun j e hj he => ?_, fun hq => ?_, fun _ => fin⟩
  · show OkS (gi == gi || L gi) l j (G a e) w'
    unfold OkS
    rw [if_pos (by simp)]
    have e1 : j ≠ gi := fun q => by subst q; rw [hi] at he; cases he
    have hL : L j = true := by simpa [e1] using hj
    have g := oks_mem (h.got j e hL he) hg
    unfold OkL at g
    generalize (l[j]?).getD .any = x at g ⊢
    cases x with
    | lit u => exact g
    | mem P k => trivial
    | any => trivial
  · simp at hq
theorem rs_val (h : RS w0 a0 N D gi Fin l L a w) (nd : D.Nodup) (hi : ops[i]? = some o) (hd : o.dst = some d) (hDi : D[i]? = some d) (hN : d < N) (ne : gi ≠ i) (hw : Region.wanted o (yielded ops a.tmps) = true) {v : Value} (r : (execOp a.eval o).run Tryz.prog w = .ok (.value v) w) (hl : (l[i]?).getD .any = .lit v) :
    wpOp Tryz.prog ops Q i (fun a' w' => RS w0 a0 N D gi Fin l (fun j => j == i || L j) a' w') a w :=
  o_val hi hd hw (by rw [h.size]; exact hN) r fun _ U hf => h.step nd i hDi ne U hf (.inl rfl) (oks_of hl)
theorem rs_call (h : RS w0 a0 N D gi Fin l L a w) (nd : D.Nodup) (hi : ops[i]? = some o) (hd : o.dst = some d) (hDi : D[i]? = some d) (hN : d < N) (ne : gi ≠ i) (hg : L gi = false) (hw : Region.wanted o (yielded ops a.tmps) = true) {n : Nat} {args : Array Value} (r : (execOp a.eval o).run Tryz.prog w = .ok (.enter n args) w)
    {R : Value → World → Prop} (hc : Calls Tryz.prog n args w fun e w' => ∃ v, e = .returned v ∧ R v w' ∧ Below w.heap.size w w') (ok : ∀ v w', R v w' → OkL l i v w') :
    wpOp Tryz.prog ops Q i (fun a' w' => RS w0 a0 N D gi Fin l (fun j => j == i || L j) a' w') a w :=
  o_enter (R := fun v w' => R v w' ∧ Below w.heap.size w w') hi hd hw (by rw [h.size]; exact hN) r hc fun v _ w' hR U hf => h.step nd i hDi ne U hf (.inr ⟨hg, hR.2⟩) (by unfold OkS; rw [hg]; exact ok v w' hR.1)
end

section
variable {ops : Array Oper} {Q : Exit → Act → World → Prop} {i : Nat} {K : Act → World → Prop} {a : Act} {w : World} {t : TypeId} {p : String} {af : Array Edge}
theorem os_store {s x b g : Nat} {v0 v1 v2 v3 v4 v5 : Value} (hi : ops[i]? = some ⟨none, .store 26 (.tmp s) (.tmp x), t, p, af, none⟩) (g0 : G a s = .pointer (some ⟨b, 0, none⟩)) (g1 : G a x = told g) (B : Box w b #[v0, v1, v2, v3, v4, v5])
    (h : K a (put6 w b (.int .i64 (kd g)) (.bool (yd g)) (.int .i64 0) (.int .i64 0) (.string ⟨#[]⟩) (.slice none 0 0))) : wpOp Tryz.prog ops Q i K a w := by
  have r : (execOp a.eval ⟨none, .store 26 (.tmp s) (.tmp x), t, p, af, none⟩).run Tryz.prog w = .ok .skip (put6 w b (.int .i64 (kd g)) (.bool (yd g)) (.int .i64 0) (.int .i64 0) (.string ⟨#[]⟩) (.slice none 0 0)) := by
    obtain ⟨c0, c1, c2, c3, c4, c5⟩ := B.tell
    have fr := B.free
    have e0 := eval_G g0
    have e1 := eval_G g1
    unfold told at e1
    generalize a.eval = E at e0 e1 ⊢
    simp [go_sem, e0, e1, c0, c1, c2, c3, c4, c5, fr]
  unfold wpOp
  rw [hi]
  simp only [Region.wanted, if_true]
  left
  unfold Oper.wp
  rw [r]
  exact h
end

section
variable {w0 w w' : World} {a0 a a' : Act} {N gi : Nat} {D : List Nat} {Fin : World → Prop} {l : List Ds} {L : Nat → Bool} {ops : Array Oper} {Q : Exit → Act → World → Prop}
theorem rs_store {t : TypeId} {p : String} {af : Array Edge} {s x b g : Nat} {v0 v1 v2 v3 v4 v5 : Value} (h : RS w0 a0 N D gi Fin l L a w) (hn : D[gi]? = none) (hg : L gi = false) (hi : ops[gi]? = some ⟨none, .store 26 (.tmp s) (.tmp x), t, p, af, none⟩) (g0 : G a s = .pointer (some ⟨b, 0, none⟩)) (g1 : G a x = told g)
    (B : Box w b #[v0, v1, v2, v3, v4, v5]) (fin : Fin (put6 w b (.int .i64 (kd g)) (.bool (yd g)) (.int .i64 0) (.int .i64 0) (.string ⟨#[]⟩) (.slice none 0 0))) :
    wpOp Tryz.prog ops Q gi (fun a' w' => RS w0 a0 N D gi Fin l (fun j => j == gi || L j) a' w') a w :=
  os_store hi g0 g1 B (h.lastS hn hg fin)
end

section
variable {a : Act} {w : World} {d : Option Nat} {t : TypeId} {p : String} {af : Array Edge} {g : Option (Nat × Bool)}
/-- a whole test is read -/
theorem run_ldT {x : Operand} {b : Nat} {v0 v1 v2 v3 v4 v5 v6 v7 v8 v9 v10 v11 v12 v13 v14 v15 : Value} (h : a.eval x = .pointer (some ⟨b, 0, none⟩)) (B : B16 w b #[v0, v1, v2, v3, v4, v5, v6, v7, v8, v9, v10, v11, v12, v13, v14, v15]) :
    (execOp a.eval ⟨d, .load 29 x, t, p, af, g⟩).run Tryz.prog w = .ok (.value (.agg #[v0, v1, v2, v3, v4, v5, v6, v7, v8, v9, v10, v11, v12, v13, v14, v15])) w := by
  obtain ⟨c0, c1, c2, c3, c4, c5, c6, c7, c8, c9, c10, c11, c12, c13, c14, c15⟩ := B.tell
  generalize a.eval = E at h ⊢
  simp [go_sem, h, c0, c1, c2, c3, c4, c5, c6, c7, c8, c9, c10, c11, c12, c13, c14, c15]
theorem run_fldTA {x : Operand} {b : Nat} (h : a.eval x = .pointer (some ⟨b, 0, none⟩)) : (execOp a.eval ⟨d, .fieldAddr 29 x 1, t, p, af, g⟩).run Tryz.prog w = .ok (.value (.pointer (some ⟨b, 1, none⟩))) w := by
  generalize a.eval = E at h ⊢
  simp [go_sem, h]
/-- a test's A is read -/
theorem run_ldTA {x : Operand} {b : Nat} {v0 v1 v2 v3 v4 v5 v6 v7 v8 v9 v10 v11 v12 v13 v14 v15 : Value} (h : a.eval x = .pointer (some ⟨b, 1, none⟩)) (B : B16 w b #[v0, v1, v2, v3, v4, v5, v6, v7, v8, v9, v10, v11, v12, v13, v14, v15]) :
    (execOp a.eval ⟨d, .load 26 x, t, p, af, g⟩).run Tryz.prog w = .ok (.value (.agg #[v1, v2, v3, v4, v5, v6])) w := by
  obtain ⟨c0, c1, c2, c3, c4, c5, c6, c7, c8, c9, c10, c11, c12, c13, c14, c15⟩ := B.tell
  clear c0 c7 c8 c9 c10 c11 c12 c13 c14 c15
  generalize a.eval = E at h ⊢
  simp [go_sem, h, c1, c2, c3, c4, c5, c6]
end
end Go.Proofs.YtcidbhegnnedoaaGreatDoor

/- Shelf contracts laid at this seat, in plain words. -/
namespace Go.Proofs.YtcidbhegnnedoaaGreatDoor
open Go.Proofs Go.Shelf
def Tryz.lays103_ren : Go.Shelf.Ren := ⟨fun | 103 => 85 | 210 => 101 | 206 => 78 | n => n, fun | 9 => 9 | 4 => 4 | 24 => 155 | 3 => 3 | n => n, fun | n => n⟩
theorem Tryz.lays103 : Go.Proofs.Lays.n103 Tryz.prog Tryz.lays103_ren := {
  mixed := by kernel_rfl
  f103 := Tryz.func85.trans (congrArg some (by kernel_rfl))
  f206 := Tryz.func78.trans (congrArg some (by kernel_rfl))
  f210 := Tryz.func101.trans (congrArg some (by kernel_rfl))
  t3 := Tryz.underlying3
  a3 := Tryz.isAgg3
  z3 := Tryz.sizeOf3
  v3 := Tryz.zeroValue3
  t4 := Tryz.underlying4
  a4 := Tryz.isAgg4
  z4 := Tryz.sizeOf4
  v4 := Tryz.zeroValue4
  t9 := Tryz.underlying9
  a9 := Tryz.isAgg9
  z9 := Tryz.sizeOf9
  v9 := Tryz.zeroValue9
  t24 := Tryz.underlying155
  a24 := Tryz.isAgg155
  z24 := Tryz.sizeOf155
  v24 := Tryz.zeroValue155 }
def Tryz.lays219_ren : Go.Shelf.Ren := ⟨fun | 219 => 117 | 217 => 120 | 225 => 121 | 224 => 122 | 267 => 123 | 266 => 124 | 314 => 125 | n => n, fun | 9 => 9 | 3 => 3 | 4 => 4 | 5 => 5 | 46 => 130 | 146 => 209 | 51 => 181 | n => n, fun | 1 => 7 | n => n⟩
theorem Tryz.lays219 : Go.Proofs.Lays.n219 Tryz.prog Tryz.lays219_ren := {
  mixed := by kernel_rfl
  f217 := Tryz.func120.trans (congrArg some (by kernel_rfl))
  f219 := Tryz.func117.trans (congrArg some (by kernel_rfl))
  f224 := Tryz.func122.trans (congrArg some (by kernel_rfl))
  f225 := Tryz.func121.trans (congrArg some (by kernel_rfl))
  f266 := Tryz.func124.trans (congrArg some (by kernel_rfl))
  f267 := Tryz.func123.trans (congrArg some (by kernel_rfl))
  f314 := Tryz.func125.trans (congrArg some (by kernel_rfl))
  t3 := Tryz.underlying3
  a3 := Tryz.isAgg3
  z3 := Tryz.sizeOf3
  v3 := Tryz.zeroValue3
  t4 := Tryz.underlying4
  a4 := Tryz.isAgg4
  z4 := Tryz.sizeOf4
  v4 := Tryz.zeroValue4
  t5 := Tryz.underlying5
  a5 := Tryz.isAgg5
  z5 := Tryz.sizeOf5
  v5 := Tryz.zeroValue5
  t9 := Tryz.underlying9
  a9 := Tryz.isAgg9
  z9 := Tryz.sizeOf9
  v9 := Tryz.zeroValue9
  t46 := Tryz.underlying130
  a46 := Tryz.isAgg130
  z46 := Tryz.sizeOf130
  v46 := Tryz.zeroValue130
  t51 := Tryz.underlying181
  a51 := Tryz.isAgg181
  z51 := Tryz.sizeOf181
  v51 := Tryz.zeroValue181
  t146 := Tryz.underlying209
  a146 := Tryz.isAgg209
  z146 := Tryz.sizeOf209
  v146 := Tryz.zeroValue209
  g1 := by kernel_rfl }
def Tryz.lays99_ren : Go.Shelf.Ren := ⟨fun | 99 => 62 | 206 => 78 | n => n, fun | 9 => 9 | 4 => 4 | 3 => 3 | n => n, fun | n => n⟩
theorem Tryz.lays99 : Go.Proofs.Lays.n99 Tryz.prog Tryz.lays99_ren := {
  mixed := by kernel_rfl
  f99 := Tryz.func62.trans (congrArg some (by kernel_rfl))
  f206 := Tryz.func78.trans (congrArg some (by kernel_rfl))
  t3 := Tryz.underlying3
  a3 := Tryz.isAgg3
  z3 := Tryz.sizeOf3
  v3 := Tryz.zeroValue3
  t4 := Tryz.underlying4
  a4 := Tryz.isAgg4
  z4 := Tryz.sizeOf4
  v4 := Tryz.zeroValue4
  t9 := Tryz.underlying9
  a9 := Tryz.isAgg9
  z9 := Tryz.sizeOf9
  v9 := Tryz.zeroValue9 }
def Tryz.lays316_ren : Go.Shelf.Ren := ⟨fun | 316 => 89 | n => n, fun | 9 => 9 | 3 => 3 | 4 => 4 | 37 => 146 | 0 => 0 | 127 => 174 | 5 => 5 | n => n, fun | n => n⟩
theorem Tryz.lays316 : Go.Proofs.LaysM.n316 Tryz.prog Tryz.lays316_ren := {
  mixed := by kernel_rfl
  f316 := Tryz.func89.trans (congrArg some (by kernel_rfl))
  t0 := Tryz.underlying0
  a0 := Tryz.isAgg0
  z0 := Tryz.sizeOf0
  v0 := Tryz.zeroValue0
  t3 := Tryz.underlying3
  a3 := Tryz.isAgg3
  z3 := Tryz.sizeOf3
  v3 := Tryz.zeroValue3
  t4 := Tryz.underlying4
  a4 := Tryz.isAgg4
  z4 := Tryz.sizeOf4
  v4 := Tryz.zeroValue4
  t9 := Tryz.underlying9
  a9 := Tryz.isAgg9
  z9 := Tryz.sizeOf9
  v9 := Tryz.zeroValue9
  t37 := Tryz.underlying146
  a37 := Tryz.isAgg146
  z37 := Tryz.sizeOf146
  v37 := Tryz.zeroValue146
  t127 := Tryz.underlying174
  a127 := Tryz.isAgg174
  z127 := Tryz.sizeOf174
  v127 := Tryz.zeroValue174
  t5 := Tryz.underlying5
  a5 := Tryz.isAgg5
  z5 := Tryz.sizeOf5
  v5 := Tryz.zeroValue5
  i0 := by kernel_rfl
  i3 := by kernel_rfl
  i4 := by kernel_rfl
  i5 := by kernel_rfl
  i9 := by kernel_rfl
  i37 := by kernel_rfl
  i127 := by kernel_rfl }
def Tryz.lays168_ren : Go.Shelf.Ren := ⟨fun | 168 => 81 | 240 => 99 | 242 => 100 | 276 => 109 | 278 => 110 | n => n, fun | 70 => 145 | 21 => 21 | 3 => 3 | 75 => 61 | 0 => 0 | 72 => 148 | 37 => 146 | 4 => 4 | 164 => 78 | 51 => 181 | 5 => 5 | 46 => 130 | 80 => 153 | 9 => 9 | n => n, fun | n => n⟩
theorem Tryz.lays168 : Go.Proofs.Lays.n168 Tryz.prog Tryz.lays168_ren := {
  mixed := by kernel_rfl
  f168 := Tryz.func81.trans (congrArg some (by kernel_rfl))
  f240 := Tryz.func99.trans (congrArg some (by kernel_rfl))
  f242 := Tryz.func100.trans (congrArg some (by kernel_rfl))
  f276 := Tryz.func109.trans (congrArg some (by kernel_rfl))
  f278 := Tryz.func110.trans (congrArg some (by kernel_rfl))
  t0 := Tryz.underlying0
  a0 := Tryz.isAgg0
  z0 := Tryz.sizeOf0
  v0 := Tryz.zeroValue0
  t3 := Tryz.underlying3
  a3 := Tryz.isAgg3
  z3 := Tryz.sizeOf3
  v3 := Tryz.zeroValue3
  t4 := Tryz.underlying4
  a4 := Tryz.isAgg4
  z4 := Tryz.sizeOf4
  v4 := Tryz.zeroValue4
  t5 := Tryz.underlying5
  a5 := Tryz.isAgg5
  z5 := Tryz.sizeOf5
  v5 := Tryz.zeroValue5
  t9 := Tryz.underlying9
  a9 := Tryz.isAgg9
  z9 := Tryz.sizeOf9
  v9 := Tryz.zeroValue9
  t20 := Tryz.underlying20
  a20 := Tryz.isAgg20
  z20 := Tryz.sizeOf20
  v20 := Tryz.zeroValue20
  t21 := Tryz.underlying21
  a21 := Tryz.isAgg21
  z21 := Tryz.sizeOf21
  v21 := Tryz.zeroValue21
  t37 := Tryz.underlying146
  a37 := Tryz.isAgg146
  z37 := Tryz.sizeOf146
  v37 := Tryz.zeroValue146
  t46 := Tryz.underlying130
  a46 := Tryz.isAgg130
  z46 := Tryz.sizeOf130
  v46 := Tryz.zeroValue130
  t51 := Tryz.underlying181
  a51 := Tryz.isAgg181
  z51 := Tryz.sizeOf181
  v51 := Tryz.zeroValue181
  t70 := Tryz.underlying145
  a70 := Tryz.isAgg145
  z70 := Tryz.sizeOf145
  v70 := Tryz.zeroValue145
  t72 := Tryz.underlying148
  a72 := Tryz.isAgg148
  z72 := Tryz.sizeOf148
  v72 := Tryz.zeroValue148
  t75 := Tryz.underlying61
  a75 := Tryz.isAgg61
  z75 := Tryz.sizeOf61
  v75 := Tryz.zeroValue61
  t164 := Tryz.underlying78
  a164 := Tryz.isAgg78
  z164 := Tryz.sizeOf78
  v164 := Tryz.zeroValue78 }
theorem Tryz.lays168X : Builder.Extra Tryz.prog Tryz.lays168_ren := {
  sizeBuilder := by kernel_rfl
  liesBuilder := by kernel_rfl
  t5 := Tryz.underlying5
  a5 := Tryz.isAgg5
  z5 := Tryz.sizeOf5
  v5 := Tryz.zeroValue5
  infoByte := by kernel_rfl
  cellsByte := by kernel_rfl
  sizeByte := by kernel_rfl
  neB5 := by decide }
def Tryz.lays169_ren : Go.Shelf.Ren := ⟨fun | 169 => 82 | n => n, fun | 70 => 145 | 9 => 9 | 0 => 0 | 72 => 148 | 37 => 146 | 127 => 174 | 3 => 3 | 5 => 5 | n => n, fun | n => n⟩
theorem Tryz.lays169 : Go.Proofs.Lays.n169 Tryz.prog Tryz.lays169_ren := {
  mixed := by kernel_rfl
  f169 := Tryz.func82.trans (congrArg some (by kernel_rfl))
  t0 := Tryz.underlying0
  a0 := Tryz.isAgg0
  z0 := Tryz.sizeOf0
  v0 := Tryz.zeroValue0
  t3 := Tryz.underlying3
  a3 := Tryz.isAgg3
  z3 := Tryz.sizeOf3
  v3 := Tryz.zeroValue3
  t9 := Tryz.underlying9
  a9 := Tryz.isAgg9
  z9 := Tryz.sizeOf9
  v9 := Tryz.zeroValue9
  t37 := Tryz.underlying146
  a37 := Tryz.isAgg146
  z37 := Tryz.sizeOf146
  v37 := Tryz.zeroValue146
  t70 := Tryz.underlying145
  a70 := Tryz.isAgg145
  z70 := Tryz.sizeOf145
  v70 := Tryz.zeroValue145
  t72 := Tryz.underlying148
  a72 := Tryz.isAgg148
  z72 := Tryz.sizeOf148
  v72 := Tryz.zeroValue148
  t127 := Tryz.underlying174
  a127 := Tryz.isAgg174
  z127 := Tryz.sizeOf174
  v127 := Tryz.zeroValue174 }
theorem Tryz.lays169X : Builder.Extra Tryz.prog Tryz.lays169_ren := {
  sizeBuilder := by kernel_rfl
  liesBuilder := by kernel_rfl
  t5 := Tryz.underlying5
  a5 := Tryz.isAgg5
  z5 := Tryz.sizeOf5
  v5 := Tryz.zeroValue5
  infoByte := by kernel_rfl
  cellsByte := by kernel_rfl
  sizeByte := by kernel_rfl
  neB5 := by decide }
end Go.Proofs.YtcidbhegnnedoaaGreatDoor
